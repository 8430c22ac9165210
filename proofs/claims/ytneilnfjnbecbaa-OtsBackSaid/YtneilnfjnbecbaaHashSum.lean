/-
  hash.Sum.
-/
import Derived.Test.YtneilnfjnbecbaaBlocks
import Derived.Test.YtneilnfjnbecbaaSched
import Derived.Test.YtneilnfjnbecbaaMix
import Derived.Test.YtneilnfjnbecbaaPad
import Derived.Test.YtneilnfjnbecbaaRound
import Derived.Outline
namespace Go.Proofs.Ytneilnfjnbecbaa
open Go.RowKit Go.Shelf
attribute [local go_sem] Oper.semAt_some

theorem blk_zero8 (w : World) (t : TypeId) : Blk (w.alloc (.cells #[.int .u32 0, .int .u32 0, .int .u32 0, .int .u32 0, .int .u32 0, .int .u32 0, .int .u32 0, .int .u32 0] t)) w.heap.size t (us (fun _ => 0) 8) := by rw [us0_8]; exact Blk.new' rfl
theorem blk_zero16 (w : World) (t : TypeId) : Blk (w.alloc (.cells #[.int .u32 0, .int .u32 0, .int .u32 0, .int .u32 0, .int .u32 0, .int .u32 0, .int .u32 0, .int .u32 0, .int .u32 0, .int .u32 0, .int .u32 0, .int .u32 0, .int .u32 0, .int .u32 0, .int .u32 0, .int .u32 0] t)) w.heap.size t (us (fun _ => 0) 16) := by rw [us0_16]; exact Blk.new' rfl
/-- The state behind k blocks. -/
theorem sts_succ (kk : Nat → Int) (p : List UInt8) (f : Nat → Int) (n : Nat) : sts kk p f (n + 1) = mixed kk (sch (wd (blk p n)) 48) (sts kk p f n) := rfl

theorem bsl_slice {lo hi : Nat} {W : World} {sv : Value} {l : List UInt8} (h : BSl lo hi W sv l) : ∃ a c, sv = .slice a l.length c := by
  obtain ⟨a, c, e, _⟩ := h
  exact ⟨a, c, e⟩

set_option maxRecDepth 100000 in
set_option maxHeartbeats 8000000 in
theorem sum_in (m : Nat) (hm : 10 ≤ m) (l : List UInt8) (sv : Value) (w : World) (hreach : l.length ≤ 140737488353000) (hsv : BSl 0 w.heap.size w sv l) :
    CallsIn Fence.wide m Try.prog 23 #[sv] w (ByO (sumL cb sq l) w) := by
  have h1 : 1 ≤ m := by omega
  have hmx : Try.prog.follows .mixedOrders = true := by kernel_rfl
  obtain ⟨i0, hi, hz0, hz1, hz2⟩ := info_parts Try.infoByte
  have hsv0 := hsv
  obtain ⟨a, cap, rfl, hcap, hcs⟩ := hsv
  clear hcs
  refine callsIn_of_wp_marks Try.func23 rfl trivial ?_ rfl
  simp only [Try.ntmps23, List.size_toArray, List.length_cons, List.length_nil, Nat.reduceAdd, Nat.reduceSub, Array.replicate_succ, Array.replicate_zero, List.push_toArray, List.append_toArray, List.nil_append, List.cons_append]
  gi_wp2_with (first
    | (refine ⟨trivial, ?_⟩; gi_at_call 41; refine (callsIn_wide.2 (squareRoots_any _)).mono ?_; rintro e w1 ⟨rfl, hb1⟩)
    | (with_reducible refine arrIn_store arr8 rfl (.tmp 3) (.tmp 8) rfl w1.heap.size rfl sq rfl 63 (fun _ => 0) (blk_zero8 w1 _) ?_; intro w2 kS hg2)
    | (refine ⟨trivial, ?_⟩; gi_at_call 43; (have hb2 : Below w.heap.size w w2 := (chainA hb1 (.cells #[.int .u32 0, .int .u32 0, .int .u32 0, .int .u32 0, .int .u32 0, .int .u32 0, .int .u32 0, .int .u32 0] 63)).grown hg2 (by simp; have := hb1.size; omega) (fun k e => by have : w1.heap.size = k := Option.some.inj e; have := hb1.size; omega)); refine (callsIn_wide.2 (pad_any l _ _ (by omega) ((hsv0.below hb2 (Nat.le_refl _)).mono (Nat.le_refl _) hb2.size))).mono ?_; rintro e w3 ⟨pv, rfl, hown, hb3⟩; obtain ⟨pa, pc, rfl⟩ := ownsRow_slice hown)
    | (refine ⟨trivial, ?_⟩; gi_at_call 42; refine (blocks_in Fence.wide (m - 1) trivial rfl _ _ _ _).mono ?_; rintro e w' ⟨rfl, rfl⟩))
  have hb23 : Below w.heap.size w w3 := chain hb2 hb3
  have hw1 : w.heap.size ≤ w1.heap.size := hb1.size
  have hw2 : w1.heap.size < w2.heap.size := kS.lt
  have hpb := BSl.of_own hown
  have hpl := padL_length l
  have HS : Hid (sumL cb sq l = sumTo (sts cb (padL l) sq ((padL l).length / 64)) 8) := Lib.hid rfl
  generalize hp : padL l = p at *
  clear hp
  obtain ⟨pa', pc', hpe, hpc, hp0⟩ := hpb
  cases hpe
  have hnz : p ≠ [] := fun e => by rw [e] at hpl; simp at hpl; omega
  obtain ⟨pb, po, rfl, hpl0, hpb, hpo⟩ := hp0.resolve_left hnz
  have hcm : pc ≤ maxLen := by
    rcases hown.2 with ⟨e, _⟩ | ⟨g, c, cur, e, _, _, _, hcm, _⟩
    · cases e
    · cases e; exact hcm
  unfold maxLen at hcm
  have hl64 : p.length = 64 * (p.length / 64) := by omega
  have hN1 : 1 ≤ p.length / 64 := by omega
  have hreach' : p.length ≤ 140737488354000 := by omega
  generalize hN : p.length / 64 = N at *
  clear hpl hN hnz hp0
  have kS3 := kS.below hb3 kS.lt
  generalize hW4 : World.alloc _ _ = w4
  have kp : Boxed w4 w3.heap.size 22 (.slice (some ⟨pb, po, none⟩) p.length pc) := by rw [← hW4]; exact Boxed.new _ _ _
  have kS4 : Blk w4 w1.heap.size 63 (us sq 8) := by rw [← hW4]; exact kS3.alloc _
  have hb34 : Below w3.heap.size w3 w4 := by rw [← hW4]; exact chain0 _ _
  have hpo4 := hpo.below hb34 hpb
  have hb4 : Below w.heap.size w w4 := chain hb23 hb34
  have hw4 : w4.heap.size = w3.heap.size + 1 := by rw [← hW4]; simp
  have hw3 := hb3.size
  clear hW4
  generalize hq : p.length = q at *
  have HQ := Lib.hid hq
  have HL64 := Lib.hid hl64
  clear hl64
  have hseq := blocks1_all (m - 1) (by omega) w1.heap.size w3.heap.size pb po pc N p (by rw [HQ.out]; exact HL64.out) hN1 (by rw [HQ.out]; exact hreach') (by rw [HQ.out]; exact hpc) (by omega) w4 (by omega) (by omega) (by omega) hpo4 (by rw [HQ.out]; exact kp)
  clear hq
  refine wpIn_rangeFunc_all (ys := blkWords p N) rfl h1 (gf := 60) (lb := #[.pointer (some ⟨w3.heap.size, 0, none⟩)]) rfl trivial (enters_of Try.func60 (by kernel_rfl) rfl)
    hseq AllBut.t (fun X o o' _ _ _ => AllBut.b _ _ X o') (Below.refl _ _) (fun _ => rfl)
    (fun k X => (Blk X w1.heap.size 63 (us (sts cb p sq k) 8) ∧ w4.heap.size ≤ X.heap.size) ∧ Below w.heap.size w X)
    (OwnFrom.and (fun k X Y row hs hg hr => ⟨blk_own w1.heap.size 63 (fun _ : Unit => _) () X Y row hs.1 hg (fun r e => (hr r e).2), Nat.le_trans hs.2 hg.size⟩) (ownFrom_below (Nat.le_refl _) (by omega)))
    ⟨⟨kS4, Nat.le_refl _⟩, hb4⟩
    (fun x a' X => ∃ Bx, w4.heap.size ≤ Bx ∧ Blk X Bx 68 (us x 16) ∧ a' = { tmps := #[.slice a l.length cap, undef, .slice none 0 0, .pointer (some ⟨w1.heap.size, 0, none⟩), .pointer (some ⟨Bx, 0, none⟩), undef, undef, undef, uv sq 8, .slice a l.length cap, .slice (some ⟨pb, po, none⟩) q pc, .func (.func 60) #[] #[.pointer (some ⟨w3.heap.size, 0, none⟩)], uv x 16, undef, undef, undef, undef, undef, undef, undef, undef, undef, undef, undef, undef, undef, undef, undef], defers := [] })
    (fun x a' s X Y row ⟨Bx, h1, h2, h3⟩ hg hr => ⟨Bx, h1, blk_own Bx 68 (fun _ : Unit => _) () X Y row h2 hg (fun r e => (hr r e).2), h3⟩) ?_ ?_ ?_
  · rintro l' k x X K ⟨⟨hS, hsz⟩, hB⟩ hK
    gi_wp2_with (with_reducible refine arrIn_store arr16 rfl (.tmp 4) (.tmp 12) rfl X.heap.size rfl x rfl 68 (fun _ => 0) (blk_zero16 X _) ?_; intro X2 kX hgX)
    have hX2 : Below X.heap.size X X2 := (chain0 X _).grown hgX (by simp) (fun k e => by have : X.heap.size = k := Option.some.inj e; omega)
    exact hK _ _ ⟨hX2.size, fun j o _ hj _ => (hX2.block j (Array.getElem?_eq_some_iff.1 hj).1).trans hj⟩ (AllBut.of_below hX2) ⟨⟨hS.below hX2 hS.lt, Nat.le_trans hsz hX2.size⟩, hB.trans (hX2.mono hB.size)⟩ ⟨X.heap.size, hsz, kX, rfl⟩
  · rintro l' k x a' X hx ⟨⟨hS, hsz⟩, hB⟩ ⟨Bx, hBx, kX, rfl⟩
    have hk : k < N := by have := (List.getElem?_eq_some_iff.1 hx).1; simpa [blkWords] using this
    rw [blkWords_at p hk] at hx
    obtain rfl := Option.some.inj hx
    have hne : w1.heap.size ≠ Bx := by omega
    clear hx
    have hst := Lib.hid (sts_succ cb p sq k)
    generalize sts cb p sq k = st at *
    generalize wd (blk p k) = x at *
    gi_wp2_with fail
    refine wpIn_round_any hmx (by kernel_rfl) ?_
    change wpAny _ _ _ _ _ _ _ X.drew
    replace hS : Blk X.drew w1.heap.size 63 (us st 8) := hS
    replace kX : Blk X.drew Bx 68 (us x 16) := kX
    have hXd : Below X.heap.size X X.drew := (Below.refl _ X).drew
    generalize X.drew = Y at *
    have hFin : ∀ (Y2 Y3 Y4 : World) (a' : Act), Below Y.heap.size Y Y2 → Below Y2.heap.size Y2 Y3 → Blk Y4 w1.heap.size 63 (us (mixed cb (sch x 48) st) 8) → Y3.grownBy Y4 (some w1.heap.size) →
        goesOn w4.heap.size (AllBut w1.heap.size (w4.heap.size + 1)) (fun X => (Blk X w1.heap.size 63 (us (sts cb p sq (k + 1)) 8) ∧ w4.heap.size ≤ X.heap.size) ∧ Below w.heap.size w X) X Exit.normal a' Y4 := fun Y2 Y3 Y4 a' hbY2 hbY3 hS4 hgY => by
      have hXY : Below X.heap.size X Y3 := hXd.trans ((chain hbY2 hbY3).mono hXd.size)
      have hA : ∀ j, j < X.heap.size → j ≠ w1.heap.size → Y4.heap[j]? = X.heap[j]? := fun j hj hne => (hgY.block j (Nat.lt_of_lt_of_le hj hXY.size) (fun e => hne (Option.some.inj e))).trans (hXY.block j hj)
      have hsz4 : X.heap.size ≤ Y4.heap.size := Nat.le_trans hXY.size hgY.size
      refine ⟨⟨hsz4, fun j o hBj hj _ => (hA j (Array.getElem?_eq_some_iff.1 hj).1 (by omega)).trans hj⟩, ⟨hsz4, fun j hj h1 _ => hA j hj h1⟩, ⟨by rw [hst.out]; exact hS4, Nat.le_trans hsz hsz4⟩, ?_⟩
      have hB3 := hB.trans (hXY.mono hB.size)
      exact hB3.grown hgY hB3.size (fun k e => by have : w1.heap.size = k := Option.some.inj e; omega)
    refine wpAny_ready (rs := [0, 1]) (by kernel_rfl) (by simp) ?_
    refine AllReady.cons rfl (fun K hK => ?_) (AllReady.cons rfl (fun K hK => ?_) AllReady.nil)
    · refine step_load_us arr8 rfl (.tmp 3) rfl w1.heap.size rfl 63 st hS ?_
      refine hK _ _ ?_
      clear hK K
      refine wpAny_ready (rs := [1]) (by kernel_rfl) (by simp) ?_
      refine AllReady.cons rfl (fun K hK => ?_) AllReady.nil
      refine step_load_us arr16 rfl (.tmp 4) rfl Bx rfl 68 x kX ?_
      refine hK _ _ ?_
      clear hK K
      refine wpAny_ready (rs := [2]) (by kernel_rfl) (by simp) ?_
      refine AllReady.cons rfl (fun K hK => ?_) AllReady.nil
      go_simp
      refine (schedule_any _ _).mono ?_
      rintro e Y2 ⟨rfl, hbY2⟩
      have hS2 := hS.below hbY2 hS.lt
      refine hK _ _ ?_
      clear hK K
      refine wpAny_ready (rs := [3]) (by kernel_rfl) (by simp) ?_
      refine AllReady.cons rfl (fun K hK => ?_) AllReady.nil
      go_simp
      refine (mix_any _ _ _).mono ?_
      rintro e Y3 ⟨rfl, hbY3⟩
      have hS3 := hS2.below hbY3 hS2.lt
      refine hK _ _ ?_
      clear hK K
      refine wpAny_ready (rs := [4]) (by kernel_rfl) (by simp) ?_
      refine AllReady.cons rfl (fun K hK => ?_) AllReady.nil
      refine step_store_us arr8 rfl (.tmp 3) (.tmp 16) rfl w1.heap.size rfl (mixed cb (sch x 48) st) rfl 63 st hS3 ?_
      intro Y4 hS4 hgY
      refine hK _ _ ?_
      clear hK K
      refine wpAny_done (by kernel_rfl) ?_ _
      exact hFin Y2 Y3 Y4 { tmps := #[], defers := [] } hbY2 hbY3 hS4 hgY
    · refine step_load_us arr16 rfl (.tmp 4) rfl Bx rfl 68 x kX ?_
      refine hK _ _ ?_
      clear hK K
      refine wpAny_ready (rs := [0, 2]) (by kernel_rfl) (by simp) ?_
      refine AllReady.cons rfl (fun K hK => ?_) (AllReady.cons rfl (fun K hK => ?_) AllReady.nil)
      · refine step_load_us arr8 rfl (.tmp 3) rfl w1.heap.size rfl 63 st hS ?_
        refine hK _ _ ?_
        clear hK K
        refine wpAny_ready (rs := [2]) (by kernel_rfl) (by simp) ?_
        refine AllReady.cons rfl (fun K hK => ?_) AllReady.nil
        go_simp
        refine (schedule_any _ _).mono ?_
        rintro e Y2 ⟨rfl, hbY2⟩
        have hS2 := hS.below hbY2 hS.lt
        refine hK _ _ ?_
        clear hK K
        refine wpAny_ready (rs := [3]) (by kernel_rfl) (by simp) ?_
        refine AllReady.cons rfl (fun K hK => ?_) AllReady.nil
        go_simp
        refine (mix_any _ _ _).mono ?_
        rintro e Y3 ⟨rfl, hbY3⟩
        have hS3 := hS2.below hbY3 hS2.lt
        refine hK _ _ ?_
        clear hK K
        refine wpAny_ready (rs := [4]) (by kernel_rfl) (by simp) ?_
        refine AllReady.cons rfl (fun K hK => ?_) AllReady.nil
        refine step_store_us arr8 rfl (.tmp 3) (.tmp 16) rfl w1.heap.size rfl (mixed cb (sch x 48) st) rfl 63 st hS3 ?_
        intro Y4 hS4 hgY
        refine hK _ _ ?_
        clear hK K
        refine wpAny_done (by kernel_rfl) ?_ _
        exact hFin Y2 Y3 Y4 { tmps := #[], defers := [] } hbY2 hbY3 hS4 hgY
      · go_simp
        refine (schedule_any _ _).mono ?_
        rintro e Y2 ⟨rfl, hbY2⟩
        have hS2 := hS.below hbY2 hS.lt
        refine hK _ _ ?_
        clear hK K
        refine wpAny_ready (rs := [0]) (by kernel_rfl) (by simp) ?_
        refine AllReady.cons rfl (fun K hK => ?_) AllReady.nil
        refine step_load_us arr8 rfl (.tmp 3) rfl w1.heap.size rfl 63 st hS2 ?_
        refine hK _ _ ?_
        clear hK K
        refine wpAny_ready (rs := [3]) (by kernel_rfl) (by simp) ?_
        refine AllReady.cons rfl (fun K hK => ?_) AllReady.nil
        go_simp
        refine (mix_any _ _ _).mono ?_
        rintro e Y3 ⟨rfl, hbY3⟩
        have hS3 := hS2.below hbY3 hS2.lt
        refine hK _ _ ?_
        clear hK K
        refine wpAny_ready (rs := [4]) (by kernel_rfl) (by simp) ?_
        refine AllReady.cons rfl (fun K hK => ?_) AllReady.nil
        refine step_store_us arr8 rfl (.tmp 3) (.tmp 16) rfl w1.heap.size rfl (mixed cb (sch x 48) st) rfl 63 st hS3 ?_
        intro Y4 hS4 hgY
        refine hK _ _ ?_
        clear hK K
        refine wpAny_done (by kernel_rfl) ?_ _
        exact hFin Y2 Y3 Y4 { tmps := #[], defers := [] } hbY2 hbY3 hS4 hgY
  · rintro D X hD ⟨⟨hS, hsz⟩, hB⟩ hK
    rw [show (blkWords p N).length = N by simp [blkWords]] at hS
    have hst : Hid (sumL cb sq l = sumTo (sts cb p sq N) 8) := HS
    generalize sts cb p sq N = st at *
    gi_wp2_with (with_reducible refine arrIn_load arr8 rfl (.tmp 3) rfl w1.heap.size rfl 63 st hS ?_)
    gi_loopw [5, 18] (fun v i wr => ∃ k : Nat, k ≤ 8 ∧ i = .int .i64 k ∧ wr.ownsRow w.heap.size 5 1 v (4 * k) ((sumTo st k).map bv) ∧ wr.heap[D]? = some (.deferred (some [])) ∧ Below w.heap.size w wr) (fun _ i _ => 8 - (intOf i).toNat)
    case atStart => exact ⟨0, by omega, rfl, World.ownsRow_nil _ _ _ _, hK, hB⟩
    clear hS hB hK hsz
    case round =>
      obtain ⟨k, hk, rfl, hown, hD', hB⟩ := hrel
      obtain ⟨va, vc, rfl⟩ := ownsRow_slice hown
      have hNW := hB.size
      by_cases hlt : k < 8
      · have hix := run_index_us 63 8 und8 st k hlt
        have hk0 : (k : Int) < 8 := by omega
        gi_wp2_with (first
          | (refine ⟨trivial, ?_⟩; gi_at_call 46; refine (callsIn_wide.2 (num_any _ 4 (by omega) (by omega) _)).mono ?_; rintro e w5 ⟨s4, rfl, hs4, hb5⟩; rw [show clamp 4 = 4 from rfl] at hs4; have hown5 := own_below4 hown hb5; have hNW5 := Nat.le_trans hNW hb5.size; obtain ⟨a4, c4, rfl⟩ := bsl_slice hs4)
          | (gi_at_builtin; refine wpListIn_append_b _ rfl _ _ 22 rfl w.heap.size 5 i0 (.int .u8 0) Try.underlying22 hi hz0 hz1 hz2 rfl _ (4 * k) ((sumTo st k).map bv) rfl hown5 _ _ rfl hs4 (by rw [octs_length]; omega) hNW5 ?_; intro v6 w6 hown6 hgrow6))
        have hD5 : w5.heap[D]? = some (.deferred (some [])) := (hb5.block D (Array.getElem?_eq_some_iff.1 hD').1).trans hD'
        have hD6 : w6.heap[D]? = some (.deferred (some [])) := (hgrow6.block D (Array.getElem?_eq_some_iff.1 hD5).1 (fun e => by
          obtain ⟨cur, fr, hc⟩ := ownsRow_block hown5 D e.symm
          rw [hD5] at hc; cases hc)).trans hD5
        rw [octs_length, ← List.map_append] at hown6
        have hB6 : Below w.heap.size w w6 := (chain hB hb5).grown hgrow6 hNW5 (fun j hj => (World.ownsRow.lt hown5 j hj).1)
        go_roundw
        case rel => exact ⟨k + 1, by omega, by simp, hown6, hD6, hB6⟩
        case measure => simp [intOf]; omega
      · obtain rfl : k = 8 := by omega
        gi_wp2_with fail
        have hB' := hB.trans (belowK_b (w := w) (Nat.le_refl _) _ D _ (.deferred none) (by omega) hD' rfl rfl)
        have hown3 := ownsRow_putObj hown (.deferred none) hD' rfl
        refine ⟨by simp, .inl ⟨_, _, rfl, run_takeDeferred hD', ?_⟩⟩
        refine ⟨.slice va (4 * 8) vc, ?_, ?_⟩
        · simp [results, Try.f23, go_sem]
        · exact ⟨_, rfl, by rw [hst.out, sumTo_length]; exact hown3, hB'⟩

theorem sum_any (l : List UInt8) (sv : Value) (w : World) (hreach : l.length ≤ 140737488353000) (hsv : BSl 0 w.heap.size w sv l) :
    Calls Try.prog 23 #[sv] w (ByO (sumL cb sq l) w) := callsIn_wide.1 (sum_in 10 (by omega) l sv w hreach hsv)
end Go.Proofs.Ytneilnfjnbecbaa
