/-
  blob.Wide: a wide number's octets.
-/
import Derived.Test.YtiibeahgleaonaaBlkW
import Derived.Test.YtiibeahgleaonaaAppendSeq
import Derived.Test.YtiibeahgleaonaaBackward
import Derived.Test.YtiibeahgleaonaaRound
namespace Go.Proofs.Ytiibeahgleaonaa
open Go.RowKit Go.Shelf
attribute [local go_sem] Oper.semAt_some

theorem octets_any (n s : Int) (w : World) :
    Calls Try.prog 60 #[.int .u64 n, .int .i64 s] w fun e w' => e = .returned (.func (.func 70) #[] #[.pointer (some ⟨w.heap.size + 1, 0, none⟩), .pointer (some ⟨w.heap.size, 0, none⟩)]) ∧ w' = (w.alloc (.cells #[.int .u64 n] 22)).alloc (.cells #[.int .i64 s] 3) :=
  callsIn_wide.1 (octets_in Fence.wide 1 trivial rfl n s w)
theorem appendSeq_any (n₀ k x s : Nat) (hk : k ≤ 1000000) (hs : s ≤ 8) (sv : Value) (xs : List Value) (Bn Bs : Nat) (w : World) (hn₀ : n₀ ≤ w.heap.size) (hrow : w.ownsRow n₀ 5 1 sv k xs)
    (kn : Boxed w Bn 22 (.int .u64 (x : Nat))) (ks : Boxed w Bs 3 (.int .i64 (s : Nat))) :
    Calls Try.prog 62 #[sv, .func (.func 70) #[] #[.pointer (some ⟨Bs, 0, none⟩), .pointer (some ⟨Bn, 0, none⟩)]] w (SeqW n₀ (k + s) (xs ++ (octs x s).map bv) w) :=
  callsIn_wide.1 (appendSeq_in 3 (by omega) n₀ k x s hk hs sv xs Bn Bs w hn₀ hrow kn ks)

/-- The words' octets. -/
def wOcts (pre : List PW) : List UInt8 := (pre.map fun x => octs x.1.2 8).flatten
theorem wOcts_snoc (pre : List PW) (x : PW) : wOcts (pre ++ [x]) = wOcts pre ++ octs x.1.2 8 := by simp [wOcts]
theorem wOcts_length (pre : List PW) : (wOcts pre).length = 8 * pre.length := by
  induction pre with
  | nil => rfl
  | cons x l ih => simp only [wOcts, List.map_cons, List.flatten_cons, List.length_append, octs_length, List.length_cons] at ih ⊢; omega
def wide8 (a0 a1 a2 a3 : Nat) : List UInt8 := octs a3 8 ++ (octs a2 8 ++ (octs a1 8 ++ octs a0 8))
theorem wOcts_downs {a0 a1 a2 a3 : Nat} (ha : Ok4 a0 a1 a2 a3) : wOcts (downs ha) = wide8 a0 a1 a2 a3 := by
  simp [wOcts, downs, pw, wide8]

/-- Between two rounds. -/
def BWI (N B3 Bs a0 a1 a2 a3 : Nat) (w : World) (pre : List PW) (W : World) : Prop :=
  ((∃ v, Boxed W B3 27 v ∧ W.ownsRow N 5 1 v (8 * pre.length) ((wOcts pre).map bv) ∧ True) ∧ BlkW W N a0 a1 a2 a3 ∧ Boxed W Bs 112 (.slice (some ⟨N, 0, none⟩) 4 4)) ∧ Below N w W
theorem bwI_own {N B3 Bs a0 a1 a2 a3 : Nat} {w : World} {B : Nat} (h : N ≤ w.heap.size) (hB : N ≤ B) : OwnFrom B (BWI N B3 Bs a0 a1 a2 a3 w) :=
  OwnFrom.and (OwnFrom.and (Own.from (holdsRow_own N B3 27 5 1 (fun pre : List PW => 8 * pre.length) (fun pre => (wOcts pre).map bv) (fun _ _ => True)) _)
    (OwnFrom.and (Own.from (fun _ X Y row hs hg hr => blk_own N 24 (fun (_ : Unit) => [.int .u64 (a0 : Int), .int .u64 (a1 : Int), .int .u64 (a2 : Int), .int .u64 (a3 : Int)]) () X Y row hs hg hr) _)
      (Own.from (fun _ X Y row hs hg hr => blk_own Bs 112 (fun (_ : Unit) => [.slice (some ⟨N, 0, none⟩) 4 4]) () X Y row hs hg hr) _))) (ownFrom_below h hB)

set_option maxRecDepth 100000 in
set_option maxHeartbeats 4000000 in
theorem blobWide_in (m : Nat) (hm : 4 ≤ m) {a0 a1 a2 a3 : Nat} (ha : Ok4 a0 a1 a2 a3) (w : World) :
    CallsIn Fence.wide m Try.prog 43 #[wv a0 a1 a2 a3] w (ByW (wide8 a0 a1 a2 a3) w) := by
  have h1 : 1 ≤ m := by omega
  refine callsIn_of_wp_marks Try.func43 rfl trivial ?_ rfl
  simp only [Try.ntmps43, List.size_toArray, List.length_cons, List.length_nil, Nat.reduceAdd, Nat.reduceSub, Array.replicate_succ, Array.replicate_zero, List.push_toArray, List.append_toArray, List.nil_append, List.cons_append]
  obtain ⟨i0, hi, hz0, hz1, hz2⟩ := info_parts Try.infoByte
  gi_wp2_with (first
    | (gi_at_make; refine wpListIn_make_own _ rfl _ _ 27 rfl w.heap.size 5 i0 (.int .u8 0) 1 Try.underlying27 hi hz0 hz1 .i64 .i64 32 32 rfl rfl rfl (by rw [hz2]; omega) (by unfold maxLen; omega) (by simp) ?_; intro w1 hown hgrow)
    | (refine ⟨trivial, ?_⟩; gi_at_call 61; refine (backward_in Fence.wide (m - 1) trivial rfl _ ⟨_, _, _, rfl⟩ _).mono ?_; rintro e w' ⟨rfl, rfl⟩))
  have e1 : w.heap.size + 1 ≤ w1.heap.size := by have := hgrow.size; simpa using this
  have kA1 : BlkW w1 w.heap.size a0 a1 a2 a3 := Blk.kept (Blk.new' rfl) hgrow (by simp)
  have hB1 : Below w.heap.size w w1 := (chain0 w _).grown hgrow (by simp) (fun k e => by cases e)
  generalize hW5 : World.alloc (World.alloc _ _) _ = W5
  have k0 : Boxed W5 w1.heap.size 27 (.slice (some ⟨w.heap.size + 1, 0, none⟩) 0 32) := by rw [← hW5]; exact (Boxed.new _ _ _).alloc _
  have k1 : Boxed W5 (w1.heap.size + 1) 112 (.slice (some ⟨w.heap.size, 0, none⟩) 4 4) := by rw [← hW5]; exact Blk.new' (vs := [_]) (by simp)
  have kA : BlkW W5 w.heap.size a0 a1 a2 a3 := by rw [← hW5]; exact (kA1.alloc _).alloc _
  have hB0 : Below w.heap.size w W5 := by rw [← hW5]; exact chainA (chainA hB1 _) _
  have hown5 : W5.ownsRow w.heap.size 5 1 (.slice (some ⟨w.heap.size + 1, 0, none⟩) 0 32) 0 [] := by rw [← hW5, show w.heap.size + 1 = (w.alloc (.cells #[.int .u64 (a0 : Int), .int .u64 (a1 : Int), .int .u64 (a2 : Int), .int .u64 (a3 : Int)] 24)).heap.size by simp]; exact (hown.alloc _).alloc _
  have hz : W5.heap.size = w1.heap.size + 2 := by rw [← hW5]; simp
  clear hW5 hgrow
  have hmx : Try.prog.follows .mixedOrders = true := by kernel_rfl
  refine wpIn_rangeFunc_ownF (S := fun ys => ys = downs ha) rfl h1 (gf := 71) (lb := #[.pointer (some ⟨w1.heap.size + 1, 0, none⟩)]) rfl trivial (enters_of Try.func71 (by kernel_rfl) rfl)
    (backward1_stops Fence.wide (m - 1) trivial rfl (by omega) ha w.heap.size (w1.heap.size + 1) W5 kA k1) KeepB2.t (KeepB2.b kA.lt k1.lt) (Below.refl _ _) (fun _ => rfl)
    (BWI w.heap.size w1.heap.size (w1.heap.size + 1) a0 a1 a2 a3 w) (fun _ _ _ => False) (bwI_own (Nat.le_refl _) (by omega)) (fun _ _ _ _ _ hs _ _ => hs)
    ⟨⟨⟨_, k0, hown5, trivial⟩, kA, k1⟩, hB0⟩ ?_ ?_ ?_ ?_ ?_
  rotate_left
  · intro l x W K hK
    gi_wp2
    exact hK
  · rintro l pre ⟨⟨i, x⟩, hix⟩ W ⟨⟨⟨v, kv, hown, _⟩, kA, kS⟩, hB⟩ hlt
    have ko := kv.cell
    have kf := kv.frozen
    have l3 := kv.lt
    have hNW : w.heap.size ≤ W.heap.size := hB.size
    gi_wp2_with fail
    refine wpIn_round_any hmx (by kernel_rfl) ?_
    refine wpAny_take (i := 1) (v := ?_) rfl (by kernel_rfl) (by kernel_rfl) (by kernel_rfl) (fun _ _ _ h => h) (Or.inl ⟨rfl, ?_⟩) ?_
    rotate_left
    · intro w'; go_simp; with_reducible rfl
    refine wpAny_ready (rs := [0, 2]) (by kernel_rfl) (by simp) ?_
    refine AllReady.cons rfl (fun K hK => ?_) (AllReady.cons rfl (fun K hK => ?_) AllReady.nil)
    go_simp
    refine hK _ _ ?_
    clear hK K
    refine wpAny_ready (rs := [2]) (by kernel_rfl) (by simp) ?_
    refine AllReady.cons rfl (fun K hK => ?_) AllReady.nil
    go_simp
    refine (octets_any _ _ _).mono ?_
    rintro e w2 ⟨rfl, rfl⟩
    refine hK _ _ ?_
    clear hK K
    rotate_left
    go_simp
    refine (octets_any _ _ _).mono ?_
    rintro e w2 ⟨rfl, rfl⟩
    refine hK _ _ ?_
    clear hK K
    refine wpAny_ready (rs := [0]) (by kernel_rfl) (by simp) ?_
    refine AllReady.cons rfl (fun K hK => ?_) AllReady.nil
    go_simp
    refine hK _ _ ?_
    clear hK K
    rotate_left
    all_goals
      refine wpAny_ready (rs := [3]) (by kernel_rfl) (by simp) ?_
      refine AllReady.cons rfl (fun K hK => ?_) AllReady.nil
      go_simp
      have kv2 : Boxed ((W.drew.alloc (.cells #[.int .u64 (x : Int)] 22)).alloc (.cells #[.int .i64 8] 3)) w1.heap.size 27 v := (Boxed.alloc (W := W.drew) kv _).alloc _
      have hsp2 : Spares 5 W ((W.drew.alloc (.cells #[.int .u64 (x : Int)] 22)).alloc (.cells #[.int .i64 8] 3)) := Spares.of_below ((((Below.refl _ W).drew).alloc (Nat.le_refl _) _).alloc (by simp) _)
      have hb2 : Below w.heap.size W ((W.drew.alloc (.cells #[.int .u64 (x : Int)] 22)).alloc (.cells #[.int .i64 8] 3)) := (((Below.refl _ W).drew).alloc (by simpa using hNW) _).alloc (by simp; omega) _
      refine (appendSeq_any w.heap.size (8 * pre.length) x 8 (by omega) (by omega) v ((wOcts pre).map bv) _ _ _ (by simp; omega) ((World.ownsRow.alloc (w := W.drew) hown _).alloc _) ((Boxed.new W.drew _ _).alloc _) (Blk.new' (vs := [_]) (by simp))).mono ?_
      rintro e w3 ⟨v', rfl, hown3, hb3, hsp3⟩
      refine hK _ _ ?_
      clear hK K
      have hsp := hsp2.t hsp3
      have hbb := hb2.trans hb3
      clear hsp2 hsp3 hb2 hb3
      have kv3 := hsp.boxed kv (by decide)
      have kA3 := hsp.blk kA (by decide)
      have kS3 := hsp.boxed kS (by decide)
      have ko3 := kv3.cell
      have kf3 := kv3.frozen
      obtain ⟨a, c, rfl⟩ := ownsRow_slice hown3
      have HW := Lib.hid (wOcts_snoc pre ⟨(i, x), hix⟩)
      refine wpAny_ready (rs := [4]) (by kernel_rfl) (by simp) ?_
      refine AllReady.cons rfl (fun K hK => ?_) AllReady.nil
      go_simp
      refine hK _ _ ?_
      clear hK K
      refine wpAny_done (by kernel_rfl) ?_ _
      have hge : w.heap.size < w1.heap.size := by omega
      have hgS := grownBy_setCell' w3 w1.heap.size (.slice a (8 * pre.length + 8) c)
      have qv := kv3.set (.slice a (8 * pre.length + 8) c)
      have qA := Blk.other kA3 (B' := w1.heap.size) 0 (.slice a (8 * pre.length + 8) c) (by omega)
      have qS := kS3.kept hgS (by simp)
      have qo := hown3.kept hgS (.inr (Boxed.not_row kv3 (by decide) hown3).symm)
      refine ⟨hsp.others.trans (KeepsOthers.setCell _ _ _), ⟨qA.trans kA.symm, qS.trans kS.symm⟩, ⟨⟨_, qv, ?_, trivial⟩, qA, qS⟩, hB.trans (hbb.setCell (p := ⟨w1.heap.size, 0, none⟩) (by simp; omega) _)⟩
      rw [HW.out, List.map_append, List.length_append, Nat.mul_add]
      exact qo
  · rintro D ys W hD rfl ⟨⟨⟨v, kv, hown, _⟩, kA, kS⟩, hB⟩ hK
    have ko := kv.cell
    have HZ := Lib.hid hz
    clear hz
    gi_wp2
    have hB' := hB.trans (belowK_b (w := w) (Nat.le_refl _) _ D _ (.deferred none) (by have := HZ.out; omega) hK rfl rfl)
    have hown3 := ownsRow_putObj hown (.deferred none) hK rfl
    rw [← wOcts_length, wOcts_downs] at hown3
    refine ⟨by simp, .inl ⟨_, _, rfl, run_takeDeferred hK, ?_⟩⟩
    refine ⟨v, ?_, ?_⟩
    · simp [results, Try.f43, go_sem]
    · exact ⟨v, rfl, BSl.of_own hown3, hB'⟩
  · rintro D c pre W _ _ h _
    exact h.elim

theorem blobWide_any {a0 a1 a2 a3 : Nat} (ha : Ok4 a0 a1 a2 a3) (w : World) : Calls Try.prog 43 #[wv a0 a1 a2 a3] w (ByW (wide8 a0 a1 a2 a3) w) := callsIn_wide.1 (blobWide_in 4 (by omega) ha w)

end Go.Proofs.Ytiibeahgleaonaa
