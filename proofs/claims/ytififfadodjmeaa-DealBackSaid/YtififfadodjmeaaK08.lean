/-
  hash.Sum.
  hash.Text.
  The sum of one text, by hash.Text.
  A transfer's key, the digest of a side, the payload of an act.
  Digits of 16 bits: rows of numbers that a call owns; what digits come to.
  The reference's Digits tells the sixteen digits of a wide number.
  The reference's Wide: two octets a digit, the highest first.
-/
import Derived.Outline
import Derived.Maps.AppendAt
import Derived.Deep.RegionHeld3
import Derived.Test.YtififfadodjmeaaK07
namespace Go.Proofs.Ytififfadodjmeaa
open Go.RowKit Go.Shelf
attribute [local go_sem] Oper.semAt_some

theorem blk_zero8 (w : World) (t : TypeId) : Blk (w.alloc (.cells #[.int .u32 0, .int .u32 0, .int .u32 0, .int .u32 0, .int .u32 0, .int .u32 0, .int .u32 0, .int .u32 0] t)) w.heap.size t (us (fun _ => 0) 8) := by rw [us0_8]; exact Blk.new' rfl
theorem blk_zero16 (w : World) (t : TypeId) : Blk (w.alloc (.cells #[.int .u32 0, .int .u32 0, .int .u32 0, .int .u32 0, .int .u32 0, .int .u32 0, .int .u32 0, .int .u32 0, .int .u32 0, .int .u32 0, .int .u32 0, .int .u32 0, .int .u32 0, .int .u32 0, .int .u32 0, .int .u32 0] t)) w.heap.size t (us (fun _ => 0) 16) := by rw [us0_16]; exact Blk.new' rfl
/-- The state behind k blocks. -/
theorem sts_succ (kk : Nat → Int) (p : List UInt8) (f : Nat → Int) (n : Nat) : sts kk p f (n + 1) = mixed kk (sch (wd (blk p n)) 48) (sts kk p f n) := rfl

theorem bsl_slice {lo hi : Nat} {W : World} {sv : Value} {l : List UInt8} (h : BSl lo hi W sv l) : ∃ a c, sv = .slice a l.length c := by
  obtain ⟨a, c, e, _⟩ := h
  exact ⟨a, c, e⟩

set_option maxRecDepth 100000 in
set_option maxHeartbeats 8000000 in
theorem sum_in (m : Nat) (hm : 10 ≤ m) (l : List UInt8) (sv : Value) (w : World) (hreach : l.length ≤ 140737488353000) (hsv : BSl 0 w.heap.size w sv l) :
    CallsIn Fence.wide m Try.prog 54 #[sv] w (ByO (sumL cb sq l) w) := by
  have h1 : 1 ≤ m := by omega
  have hmx : Try.prog.follows .mixedOrders = true := by kernel_rfl
  obtain ⟨i0, hi, hz0, hz1, hz2⟩ := info_parts Try.infoByte
  have hsv0 := hsv
  obtain ⟨a, cap, rfl, hcap, hcs⟩ := hsv
  clear hcs
  refine callsIn_of_wp_marks Try.func54 rfl trivial ?_ rfl
  simp only [Try.ntmps54, List.size_toArray, List.length_cons, List.length_nil, Nat.reduceAdd, Nat.reduceSub, Array.replicate_succ, Array.replicate_zero, List.push_toArray, List.append_toArray, List.nil_append, List.cons_append]
  gi_wp2_with (first
    | (refine ⟨trivial, ?_⟩; gi_at_call 73; refine (callsIn_wide.2 (squareRoots_any _)).mono ?_; rintro e w1 ⟨rfl, hb1⟩)
    | (with_reducible refine arrIn_store arr8 rfl (.tmp 3) (.tmp 8) rfl w1.heap.size rfl sq rfl 98 (fun _ => 0) (blk_zero8 w1 _) ?_; intro w2 kS hg2)
    | (refine ⟨trivial, ?_⟩; gi_at_call 75; (have hb2 : Below w.heap.size w w2 := (chainA hb1 (.cells #[.int .u32 0, .int .u32 0, .int .u32 0, .int .u32 0, .int .u32 0, .int .u32 0, .int .u32 0, .int .u32 0] 98)).grown hg2 (by simp; have := hb1.size; omega) (fun k e => by have : w1.heap.size = k := Option.some.inj e; have := hb1.size; omega)); refine (callsIn_wide.2 (pad_any l _ _ (by omega) ((hsv0.below hb2 (Nat.le_refl _)).mono (Nat.le_refl _) hb2.size))).mono ?_; rintro e w3 ⟨pv, rfl, hown, hb3⟩; obtain ⟨pa, pc, rfl⟩ := ownsRow_slice hown)
    | (refine ⟨trivial, ?_⟩; gi_at_call 74; refine (blocks_in Fence.wide (m - 1) trivial rfl _ _ _ _).mono ?_; rintro e w' ⟨rfl, rfl⟩))
  have hb23 : Below w.heap.size w w3 := chain hb2 hb3
  have hw1 : w.heap.size ≤ w1.heap.size := hb1.size
  have hw2 : w1.heap.size < w2.heap.size := kS.lt
  have hpb := BSl.of_own hown
  have hpl := padL_length l
  have HS : Hid (sumL cb sq l = sumTo (sts cb (padL l) sq ((padL l).length / 64)) 8) := Lib.hid rfl
  generalize hp : padL l = p at *
  clear hp
  obtain ⟨pa', pc', hpe, hpc, hp0⟩ := hpb
  cases hpe
  have hnz : p ≠ [] := fun e => by rw [e] at hpl; simp at hpl; omega
  obtain ⟨pb, po, rfl, hpl0, hpb, hpo⟩ := hp0.resolve_left hnz
  have hcm : pc ≤ maxLen := by
    rcases hown.2 with ⟨e, _⟩ | ⟨g, c, cur, e, _, _, _, hcm, _⟩
    · cases e
    · cases e; exact hcm
  unfold maxLen at hcm
  have hl64 : p.length = 64 * (p.length / 64) := by omega
  have hN1 : 1 ≤ p.length / 64 := by omega
  have hreach' : p.length ≤ 140737488354000 := by omega
  generalize hN : p.length / 64 = N at *
  clear hpl hN hnz hp0
  have kS3 := kS.below hb3 kS.lt
  generalize hW4 : World.alloc _ _ = w4
  have kp : Boxed w4 w3.heap.size 37 (.slice (some ⟨pb, po, none⟩) p.length pc) := by rw [← hW4]; exact Boxed.new _ _ _
  have kS4 : Blk w4 w1.heap.size 98 (us sq 8) := by rw [← hW4]; exact kS3.alloc _
  have hb34 : Below w3.heap.size w3 w4 := by rw [← hW4]; exact chain0 _ _
  have hpo4 := hpo.below hb34 hpb
  have hb4 : Below w.heap.size w w4 := chain hb23 hb34
  have hw4 : w4.heap.size = w3.heap.size + 1 := by rw [← hW4]; simp
  have hw3 := hb3.size
  clear hW4
  generalize hq : p.length = q at *
  have HQ := Lib.hid hq
  have HL64 := Lib.hid hl64
  clear hl64
  have hseq := blocks1_all (m - 1) (by omega) w1.heap.size w3.heap.size pb po pc N p (by rw [HQ.out]; exact HL64.out) hN1 (by rw [HQ.out]; exact hreach') (by rw [HQ.out]; exact hpc) (by omega) w4 (by omega) (by omega) (by omega) hpo4 (by rw [HQ.out]; exact kp)
  clear hq
  refine wpIn_rangeFunc_all (ys := blkWords p N) rfl h1 (gf := 88) (lb := #[.pointer (some ⟨w3.heap.size, 0, none⟩)]) rfl trivial (enters_of Try.func88 (by kernel_rfl) rfl)
    hseq AllBut.t (fun X o o' _ _ _ => AllBut.b _ _ X o') (Below.refl _ _) (fun _ => rfl)
    (fun k X => (Blk X w1.heap.size 98 (us (sts cb p sq k) 8) ∧ w4.heap.size ≤ X.heap.size) ∧ Below w.heap.size w X)
    (OwnFrom.and (fun k X Y row hs hg hr => ⟨blk_own w1.heap.size 98 (fun _ : Unit => _) () X Y row hs.1 hg (fun r e => (hr r e).2), Nat.le_trans hs.2 hg.size⟩) (ownFrom_below (Nat.le_refl _) (by omega)))
    ⟨⟨kS4, Nat.le_refl _⟩, hb4⟩
    (fun x a' X => ∃ Bx, w4.heap.size ≤ Bx ∧ Blk X Bx 119 (us x 16) ∧ a' = { tmps := #[.slice a l.length cap, undef, .slice none 0 0, .pointer (some ⟨w1.heap.size, 0, none⟩), .pointer (some ⟨Bx, 0, none⟩), undef, undef, undef, uv sq 8, .slice a l.length cap, .slice (some ⟨pb, po, none⟩) q pc, .func (.func 88) #[] #[.pointer (some ⟨w3.heap.size, 0, none⟩)], uv x 16, undef, undef, undef, undef, undef, undef, undef, undef, undef, undef, undef, undef, undef, undef, undef], defers := [] })
    (fun x a' s X Y row ⟨Bx, h1, h2, h3⟩ hg hr => ⟨Bx, h1, blk_own Bx 119 (fun _ : Unit => _) () X Y row h2 hg (fun r e => (hr r e).2), h3⟩) ?_ ?_ ?_
  · rintro l' k x X K ⟨⟨hS, hsz⟩, hB⟩ hK
    gi_wp2_with (with_reducible refine arrIn_store arr16 rfl (.tmp 4) (.tmp 12) rfl X.heap.size rfl x rfl 119 (fun _ => 0) (blk_zero16 X _) ?_; intro X2 kX hgX)
    have hX2 : Below X.heap.size X X2 := (chain0 X _).grown hgX (by simp) (fun k e => by have : X.heap.size = k := Option.some.inj e; omega)
    exact hK _ _ ⟨hX2.size, fun j o _ hj _ => (hX2.block j (Array.getElem?_eq_some_iff.1 hj).1).trans hj⟩ (AllBut.of_below hX2) ⟨⟨hS.below hX2 hS.lt, Nat.le_trans hsz hX2.size⟩, hB.trans (hX2.mono hB.size)⟩ ⟨X.heap.size, hsz, kX, rfl⟩
  · rintro l' k x a' X hx ⟨⟨hS, hsz⟩, hB⟩ ⟨Bx, hBx, kX, rfl⟩
    have hk : k < N := by have := (List.getElem?_eq_some_iff.1 hx).1; simpa [blkWords] using this
    rw [blkWords_at p hk] at hx
    obtain rfl := Option.some.inj hx
    have hne : w1.heap.size ≠ Bx := by omega
    clear hx
    have hst := Lib.hid (sts_succ cb p sq k)
    generalize sts cb p sq k = st at *
    generalize wd (blk p k) = x at *
    gi_wp2_with fail
    refine wpIn_round_any hmx (by kernel_rfl) ?_
    change wpAny _ _ _ _ _ _ _ X.drew
    replace hS : Blk X.drew w1.heap.size 98 (us st 8) := hS
    replace kX : Blk X.drew Bx 119 (us x 16) := kX
    have hXd : Below X.heap.size X X.drew := (Below.refl _ X).drew
    generalize X.drew = Y at *
    have hFin : ∀ (Y2 Y3 Y4 : World) (a' : Act), Below Y.heap.size Y Y2 → Below Y2.heap.size Y2 Y3 → Blk Y4 w1.heap.size 98 (us (mixed cb (sch x 48) st) 8) → Y3.grownBy Y4 (some w1.heap.size) →
        goesOn w4.heap.size (AllBut w1.heap.size (w4.heap.size + 1)) (fun X => (Blk X w1.heap.size 98 (us (sts cb p sq (k + 1)) 8) ∧ w4.heap.size ≤ X.heap.size) ∧ Below w.heap.size w X) X Exit.normal a' Y4 := fun Y2 Y3 Y4 a' hbY2 hbY3 hS4 hgY => by
      have hXY : Below X.heap.size X Y3 := hXd.trans ((chain hbY2 hbY3).mono hXd.size)
      have hA : ∀ j, j < X.heap.size → j ≠ w1.heap.size → Y4.heap[j]? = X.heap[j]? := fun j hj hne => (hgY.block j (Nat.lt_of_lt_of_le hj hXY.size) (fun e => hne (Option.some.inj e))).trans (hXY.block j hj)
      have hsz4 : X.heap.size ≤ Y4.heap.size := Nat.le_trans hXY.size hgY.size
      refine ⟨⟨hsz4, fun j o hBj hj _ => (hA j (Array.getElem?_eq_some_iff.1 hj).1 (by omega)).trans hj⟩, ⟨hsz4, fun j hj h1 _ => hA j hj h1⟩, ⟨by rw [hst.out]; exact hS4, Nat.le_trans hsz hsz4⟩, ?_⟩
      have hB3 := hB.trans (hXY.mono hB.size)
      exact hB3.grown hgY hB3.size (fun k e => by have : w1.heap.size = k := Option.some.inj e; omega)
    refine wpAny_ready (rs := [0, 1]) (by kernel_rfl) (by simp) ?_
    refine AllReady.cons rfl (fun K hK => ?_) (AllReady.cons rfl (fun K hK => ?_) AllReady.nil)
    · refine step_load_us arr8 rfl (.tmp 3) rfl w1.heap.size rfl 98 st hS ?_
      refine hK _ _ ?_
      clear hK K
      refine wpAny_ready (rs := [1]) (by kernel_rfl) (by simp) ?_
      refine AllReady.cons rfl (fun K hK => ?_) AllReady.nil
      refine step_load_us arr16 rfl (.tmp 4) rfl Bx rfl 119 x kX ?_
      refine hK _ _ ?_
      clear hK K
      refine wpAny_ready (rs := [2]) (by kernel_rfl) (by simp) ?_
      refine AllReady.cons rfl (fun K hK => ?_) AllReady.nil
      go_simp
      refine (schedule_any _ _).mono ?_
      rintro e Y2 ⟨rfl, hbY2⟩
      have hS2 := hS.below hbY2 hS.lt
      refine hK _ _ ?_
      clear hK K
      refine wpAny_ready (rs := [3]) (by kernel_rfl) (by simp) ?_
      refine AllReady.cons rfl (fun K hK => ?_) AllReady.nil
      go_simp
      refine (mix_any _ _ _).mono ?_
      rintro e Y3 ⟨rfl, hbY3⟩
      have hS3 := hS2.below hbY3 hS2.lt
      refine hK _ _ ?_
      clear hK K
      refine wpAny_ready (rs := [4]) (by kernel_rfl) (by simp) ?_
      refine AllReady.cons rfl (fun K hK => ?_) AllReady.nil
      refine step_store_us arr8 rfl (.tmp 3) (.tmp 16) rfl w1.heap.size rfl (mixed cb (sch x 48) st) rfl 98 st hS3 ?_
      intro Y4 hS4 hgY
      refine hK _ _ ?_
      clear hK K
      refine wpAny_done (by kernel_rfl) ?_ _
      exact hFin Y2 Y3 Y4 { tmps := #[], defers := [] } hbY2 hbY3 hS4 hgY
    · refine step_load_us arr16 rfl (.tmp 4) rfl Bx rfl 119 x kX ?_
      refine hK _ _ ?_
      clear hK K
      refine wpAny_ready (rs := [0, 2]) (by kernel_rfl) (by simp) ?_
      refine AllReady.cons rfl (fun K hK => ?_) (AllReady.cons rfl (fun K hK => ?_) AllReady.nil)
      · refine step_load_us arr8 rfl (.tmp 3) rfl w1.heap.size rfl 98 st hS ?_
        refine hK _ _ ?_
        clear hK K
        refine wpAny_ready (rs := [2]) (by kernel_rfl) (by simp) ?_
        refine AllReady.cons rfl (fun K hK => ?_) AllReady.nil
        go_simp
        refine (schedule_any _ _).mono ?_
        rintro e Y2 ⟨rfl, hbY2⟩
        have hS2 := hS.below hbY2 hS.lt
        refine hK _ _ ?_
        clear hK K
        refine wpAny_ready (rs := [3]) (by kernel_rfl) (by simp) ?_
        refine AllReady.cons rfl (fun K hK => ?_) AllReady.nil
        go_simp
        refine (mix_any _ _ _).mono ?_
        rintro e Y3 ⟨rfl, hbY3⟩
        have hS3 := hS2.below hbY3 hS2.lt
        refine hK _ _ ?_
        clear hK K
        refine wpAny_ready (rs := [4]) (by kernel_rfl) (by simp) ?_
        refine AllReady.cons rfl (fun K hK => ?_) AllReady.nil
        refine step_store_us arr8 rfl (.tmp 3) (.tmp 16) rfl w1.heap.size rfl (mixed cb (sch x 48) st) rfl 98 st hS3 ?_
        intro Y4 hS4 hgY
        refine hK _ _ ?_
        clear hK K
        refine wpAny_done (by kernel_rfl) ?_ _
        exact hFin Y2 Y3 Y4 { tmps := #[], defers := [] } hbY2 hbY3 hS4 hgY
      · go_simp
        refine (schedule_any _ _).mono ?_
        rintro e Y2 ⟨rfl, hbY2⟩
        have hS2 := hS.below hbY2 hS.lt
        refine hK _ _ ?_
        clear hK K
        refine wpAny_ready (rs := [0]) (by kernel_rfl) (by simp) ?_
        refine AllReady.cons rfl (fun K hK => ?_) AllReady.nil
        refine step_load_us arr8 rfl (.tmp 3) rfl w1.heap.size rfl 98 st hS2 ?_
        refine hK _ _ ?_
        clear hK K
        refine wpAny_ready (rs := [3]) (by kernel_rfl) (by simp) ?_
        refine AllReady.cons rfl (fun K hK => ?_) AllReady.nil
        go_simp
        refine (mix_any _ _ _).mono ?_
        rintro e Y3 ⟨rfl, hbY3⟩
        have hS3 := hS2.below hbY3 hS2.lt
        refine hK _ _ ?_
        clear hK K
        refine wpAny_ready (rs := [4]) (by kernel_rfl) (by simp) ?_
        refine AllReady.cons rfl (fun K hK => ?_) AllReady.nil
        refine step_store_us arr8 rfl (.tmp 3) (.tmp 16) rfl w1.heap.size rfl (mixed cb (sch x 48) st) rfl 98 st hS3 ?_
        intro Y4 hS4 hgY
        refine hK _ _ ?_
        clear hK K
        refine wpAny_done (by kernel_rfl) ?_ _
        exact hFin Y2 Y3 Y4 { tmps := #[], defers := [] } hbY2 hbY3 hS4 hgY
  · rintro D X hD ⟨⟨hS, hsz⟩, hB⟩ hK
    rw [show (blkWords p N).length = N by simp [blkWords]] at hS
    have hst : Hid (sumL cb sq l = sumTo (sts cb p sq N) 8) := HS
    generalize sts cb p sq N = st at *
    gi_wp2_with (with_reducible refine arrIn_load arr8 rfl (.tmp 3) rfl w1.heap.size rfl 98 st hS ?_)
    gi_loopw [5, 18] (fun v i wr => ∃ k : Nat, k ≤ 8 ∧ i = .int .i64 k ∧ wr.ownsRow w.heap.size 5 1 v (4 * k) ((sumTo st k).map bv) ∧ wr.heap[D]? = some (.deferred (some [])) ∧ Below w.heap.size w wr) (fun _ i _ => 8 - (intOf i).toNat)
    case atStart => exact ⟨0, by omega, rfl, World.ownsRow_nil _ _ _ _, hK, hB⟩
    clear hS hB hK hsz
    case round =>
      obtain ⟨k, hk, rfl, hown, hD', hB⟩ := hrel
      obtain ⟨va, vc, rfl⟩ := ownsRow_slice hown
      have hNW := hB.size
      by_cases hlt : k < 8
      · have hix := run_index_us 98 8 und8 st k hlt
        have hk0 : (k : Int) < 8 := by omega
        gi_wp2_with (first
          | (refine ⟨trivial, ?_⟩; gi_at_call 60; refine (callsIn_wide.2 (num_any _ 4 (by omega) (by omega) _)).mono ?_; rintro e w5 ⟨s4, rfl, hs4, hb5⟩; rw [show clamp 4 = 4 from rfl] at hs4; have hown5 := own_below4 hown hb5; have hNW5 := Nat.le_trans hNW hb5.size; obtain ⟨a4, c4, rfl⟩ := bsl_slice hs4)
          | (gi_at_builtin; refine wpListIn_append_b _ rfl _ _ 37 rfl w.heap.size 5 i0 (.int .u8 0) Try.underlying37 hi hz0 hz1 hz2 rfl _ (4 * k) ((sumTo st k).map bv) rfl hown5 _ _ rfl hs4 (by rw [octs_length]; omega) hNW5 ?_; intro v6 w6 hown6 hgrow6))
        have hD5 : w5.heap[D]? = some (.deferred (some [])) := (hb5.block D (Array.getElem?_eq_some_iff.1 hD').1).trans hD'
        have hD6 : w6.heap[D]? = some (.deferred (some [])) := (hgrow6.block D (Array.getElem?_eq_some_iff.1 hD5).1 (fun e => by
          obtain ⟨cur, fr, hc⟩ := ownsRow_block hown5 D e.symm
          rw [hD5] at hc; cases hc)).trans hD5
        rw [octs_length, ← List.map_append] at hown6
        have hB6 : Below w.heap.size w w6 := (chain hB hb5).grown hgrow6 hNW5 (fun j hj => (World.ownsRow.lt hown5 j hj).1)
        go_roundw
        case rel => exact ⟨k + 1, by omega, by simp, hown6, hD6, hB6⟩
        case measure => simp [intOf]; omega
      · obtain rfl : k = 8 := by omega
        gi_wp2_with fail
        have hB' := hB.trans (belowK_b (w := w) (Nat.le_refl _) _ D _ (.deferred none) (by omega) hD' rfl rfl)
        have hown3 := ownsRow_putObj hown (.deferred none) hD' rfl
        refine ⟨by simp, .inl ⟨_, _, rfl, run_takeDeferred hD', ?_⟩⟩
        refine ⟨.slice va (4 * 8) vc, ?_, ?_⟩
        · simp [results, Try.f54, go_sem]
        · exact ⟨_, rfl, by rw [hst.out, sumTo_length]; exact hown3, hB'⟩

theorem sum_any (l : List UInt8) (sv : Value) (w : World) (hreach : l.length ≤ 140737488353000) (hsv : BSl 0 w.heap.size w sv l) :
    Calls Try.prog 54 #[sv] w (ByO (sumL cb sq l) w) := callsIn_wide.1 (sum_in 10 (by omega) l sv w hreach hsv)
end Go.Proofs.Ytififfadodjmeaa

namespace Go.Proofs.Ytififfadodjmeaa
open Go.RowKit Go.Shelf

/-- The sum of a text, as a string. -/
def sumS (l : List UInt8) : ByteArray := ⟨(sumL cb sq l).toArray⟩
theorem sumS_size (l : List UInt8) : (sumS l).size = 32 := by
  show (sumL cb sq l).toArray.size = 32
  rw [List.size_toArray]
  exact sumTo_length _ 8

set_option maxRecDepth 100000 in
set_option maxHeartbeats 2000000 in
theorem text_any {o : Nat} (sv : Value) (w : World) (zs : List (SX o w.heap.size w)) (hreach : zs.length ≤ 140737488351232) (hfl : (flat zs).length ≤ 140737488353000) (hsv : SSl w.heap.size w sv zs) :
    Calls Try.prog 35 #[sv] w fun e W' => e = .returned (.string (sumS (flat zs))) ∧ Below w.heap.size w W' := by
  have hsv0 := hsv
  obtain ⟨a, cap, rfl, _⟩ := hsv
  go_enter Try.func35, Try.ntmps35
  go_wp2_with fail
  refine (cat_any _ _ zs hreach (by omega) hsv0).mono ?_
  rintro e w1 ⟨cv, rfl, hc, hb1⟩
  go_wp2_with fail
  refine (sum_any (flat zs) _ _ hfl (hc.mono (Nat.zero_le _) (Nat.le_refl _))).mono ?_
  rintro e w2 ⟨sv2, rfl, hown, hb2⟩
  have hcv := run_string (P := Try.prog) 37 5 9 Try.underlying37 Try.underlying5 Try.underlying9 w2 (BSl.of_own hown)
  go_wp2_with fail
  go_ret
  exact ⟨rfl, chain hb1 hb2⟩

end Go.Proofs.Ytififfadodjmeaa

namespace Go.Proofs.Ytififfadodjmeaa
open Go.RowKit Go.Shelf

/-- hash.Text of one that has just been laid into a row. -/
theorem text1_any (l1 : List UInt8) (s1 : Value) (w : World) (hl : l1.length ≤ 140737488353000) (h1 : BSl 0 w.heap.size w s1 l1) :
    Calls Try.prog 35 #[.slice (some ⟨w.heap.size, 0, none⟩) 1 1] (w.alloc (.cells #[s1] 37)) fun e W' => e = .returned (.string (sumS l1)) ∧ Below w.heap.size w W' := by
  have hb := chain0 w (.cells #[s1] 37)
  have hz : (w.alloc (.cells #[s1] 37)).heap.size = w.heap.size + 1 := by simp
  have k : Blk (w.alloc (.cells #[s1] 37)) w.heap.size 37 [s1] := Blk.new w 37 [s1]
  generalize w.alloc (.cells #[s1] 37) = W at *
  let zs : List (SX 140737488353000 W.heap.size W) := [⟨(s1, l1), (h1.below hb (Nat.le_refl _)).mono (Nat.le_refl _) (by omega), hl⟩]
  have hfl : flat zs = l1 := by simp [flat, zs]
  have := text_any (.slice (some ⟨w.heap.size, 0, none⟩) 1 1) W zs (by simp [zs]) (by rw [hfl]; exact hl)
    ⟨_, _, rfl, .inr ⟨w.heap.size, 0, rfl, by omega, fun i x hx => by
      rw [Nat.zero_add, k.cell i]
      match i, hx with
      | 0, hx => simp only [zs, List.getElem?_cons_zero, Option.some.injEq] at hx; rw [← hx]; rfl
      | i + 1, hx => simp [zs] at hx⟩⟩
  rw [hfl] at this
  exact this.mono fun e W' ⟨h1, h2⟩ => ⟨h1, chain hb h2⟩
end Go.Proofs.Ytififfadodjmeaa

namespace Go.Proofs.Ytififfadodjmeaa
open Go.RowKit Go.Shelf

def keyB (i : Trf) : ByteArray := if maybeI i then sumS (putI ([], 0) i).1 else ⟨#[]⟩
def digB (i : Trf) (v : Sid) : ByteArray := if maybeI i ∧ maybeV v then sumS (putV (txtS ([], 0) (keyB i)) v).1 else ⟨#[]⟩
def payL (act : Int) (key : ByteArray) (a0 a1 a2 a3 : Nat) : List UInt8 := if (1 ≤ act ∧ act ≤ 2) ∧ key.size = 32 then (paySt act key a0 a1 a2 a3).1 else []
theorem errI_zero {i : Trf} (h : maybeI i) : errI i = 0 := if_pos h
theorem errI_bad {i : Trf} (h : ¬ maybeI i) : errI i = 39 := if_neg h
theorem errV_zero {v : Sid} (h : maybeV v) : errV v = 0 := if_pos h
theorem errV_bad {v : Sid} (h : ¬ maybeV v) : errV v = 36 := if_neg h
/-- What is made, and known: a new Out. -/
def NewO (w : World) (e : Ending) (W' : World) : Prop := ∃ NB, e = .returned (.pointer (some ⟨NB, 0, none⟩)) ∧ w.heap.size ≤ NB ∧ ObjP 92 W' (some ⟨NB, 0, none⟩) ([], 0) ∧ Below w.heap.size w W'
theorem outNewO_any (w : World) : Calls Try.prog 27 #[] w (NewO w) :=
  (outNew_any w).mono fun _ _ ⟨h1, _, h3, h4⟩ => ⟨_, h1, Nat.le_refl _, h3, h4⟩
theorem below_did {T : TypeId} {NB : Nat} {s : St} {w W : World} {e : Ending} {W' : World} (hB : Below w.heap.size w W) (hN : w.heap.size ≤ NB) (h : DidS T (some ⟨NB, 0, none⟩) s W e W') : Below w.heap.size w W' :=
  hB.grown h.2.2 hB.size (fun k e => by cases e; exact hN)

set_option maxRecDepth 100000 in
set_option maxHeartbeats 1000000 in
theorem key_any (i : Trf) (w : World) :
    Calls Try.prog 12 #[ivv i] w fun e W' => e = .returned (.string (keyB i)) ∧ Below w.heap.size w W' := by
  have kB := Blk.new w 23 (ivc i)
  have hB := chain0 w (.cells (ivc i).toArray 23)
  have HC := Lib.hid (check_any i)
  by_cases hm : maybeI i
  · have HE := Lib.hid (errI_zero hm)
    have e1 : keyB i = sumS (putI ([], 0) i).1 := if_pos hm
    rw [e1]
    have hlen := (okS_putI okS_new i).2
    have HLE := Lib.hid hlen
    clear hm e1 hlen
    go_enter Try.func12, Try.ntmps12
    go_wp2_with (first
      | (go_at_call 8; refine (HC.out _).mono ?_; rw [HE.out]; rintro e W1 ⟨rfl, hb1⟩; replace kB := kB.below hb1 kB.lt; replace hB := chain hB hb1; clear hb1)
      | (go_at_call 27; refine (outNewO_any _).mono ?_; rintro e W2 ⟨NB, rfl, hN, hO, hb2⟩; have hne : some w.heap.size ≠ some NB := (fun e => by cases e; exact absurd kB.lt (by omega)); replace kB := kB.below hb2 kB.lt; have hNw := Nat.le_trans hB.size hN; replace hB := chain hB hb2; obtain ⟨c0, c1, c2, c3, c4, c5, c6⟩ := kB.c7; clear hb2)
      | (go_at_call 28; refine (dealPut_any i _ hO).mono ?_; rintro e W3 hD; replace hB := below_did hB hNw hD; obtain ⟨rfl, hO3, hG3⟩ := hD)
      | (go_at_call 36; refine (dealOctets_any _ hO3).mono ?_; rintro e W4 ⟨sv, rfl, hsv, hb4⟩; replace hB := chain hB hb4; obtain ⟨va, vm, vc, rfl⟩ := hsv.shape3)
      | (go_at_call 35; refine (text1_any _ _ _ (by have := HLE.out; omega) hsv).mono ?_; rintro e W5 ⟨rfl, hb5⟩))
    go_ret
    exact ⟨rfl, chain hB hb5⟩
  · have HE := Lib.hid (errI_bad hm)
    have e1 : keyB i = ⟨#[]⟩ := if_neg hm
    rw [e1]
    clear hm e1
    go_enter Try.func12, Try.ntmps12
    go_wp2_with (first
      | (go_at_call 8; refine (HC.out _).mono ?_; rw [HE.out]; rintro e W1 ⟨rfl, hb1⟩))
    go_ret
    exact ⟨rfl, chain hB hb1⟩

theorem okS_dig (i : Trf) (v : Sid) : OkS (putV (txtS ([], 0) (keyB i)) v) := okS_putV (okS_txt okS_new _) v
set_option maxRecDepth 100000 in
set_option maxHeartbeats 2000000 in
theorem digest_any (i : Trf) (v : Sid) (hv4 : Ok4 v.a0 v.a1 v.a2 v.a3) (w : World) :
    Calls Try.prog 14 #[ivv i, svv v] w fun e W' => e = .returned (.string (digB i v)) ∧ Below w.heap.size w W' := by
  have kB : Blk ((w.alloc (.cells (ivc i).toArray 23)).alloc (.cells (svc v).toArray 28)) w.heap.size 23 (ivc i) := (Blk.new w 23 (ivc i)).alloc _
  have kV : Blk ((w.alloc (.cells (ivc i).toArray 23)).alloc (.cells (svc v).toArray 28)) (w.heap.size + 1) 28 (svc v) := Blk.new' (by simp)
  have hB := chainA (chain0 w (.cells (ivc i).toArray 23)) (.cells (svc v).toArray 28)
  have HC := Lib.hid (check_any i)
  have HS := Lib.hid (sound_any v)
  by_cases hm : maybeI i
  · have HE := Lib.hid (errI_zero hm)
    by_cases hn : maybeV v
    · have HF := Lib.hid (errV_zero hn)
      have e1 : digB i v = sumS (putV (txtS ([], 0) (keyB i)) v).1 := if_pos ⟨hm, hn⟩
      rw [e1]
      have hlen := (okS_dig i v).2
      have HLE := Lib.hid hlen
      clear hm hn e1 hlen
      generalize hk : keyB i = kk at *
      have HK := Lib.hid hk
      clear hk
      go_enter Try.func14, Try.ntmps14
      go_wp2_with (first
        | (go_at_call 8; refine (HC.out _).mono ?_; rw [HE.out]; rintro e W1 ⟨rfl, hb1⟩; replace kB := kB.below hb1 kB.lt; replace kV := kV.below hb1 kV.lt; replace hB := chain hB hb1; obtain ⟨d0, d1, d2, d3, d4⟩ := kV.c5; clear hb1)
        | (go_at_call 10; refine (HS.out _).mono ?_; rw [HF.out]; rintro e W1 ⟨rfl, hb1⟩; replace kB := kB.below hb1 kB.lt; replace kV := kV.below hb1 kV.lt; replace hB := chain hB hb1; clear hb1 d0 d1 d2 d3 d4)
        | (go_at_call 27; refine (outNewO_any _).mono ?_; rintro e W2 ⟨NB, rfl, hN, hO, hb2⟩; have hnv : some (w.heap.size + 1) ≠ some NB := (fun e => by cases e; exact absurd kV.lt (by omega)); replace kB := kB.below hb2 kB.lt; replace kV := kV.below hb2 kV.lt; have hNw := Nat.le_trans hB.size hN; replace hB := chain hB hb2; obtain ⟨c0, c1, c2, c3, c4, c5, c6⟩ := kB.c7; clear hb2)
        | (go_at_call 12; refine (key_any i _).mono ?_; rw [HK.out]; rintro e W3 ⟨rfl, hb3⟩; replace hO := hO.below hb3; replace kV := kV.below hb3 kV.lt; replace hB := chain hB hb3; clear hb3)
        | (go_at_call 38; refine (outText_any _ _ hO).mono ?_; rintro e W4 hD; replace hB := below_did hB hNw hD; obtain ⟨rfl, hO1, hG1⟩ := hD; replace kV := kV.kept hG1 hnv; obtain ⟨d0, d1, d2, d3, d4⟩ := kV.c5)
        | (go_at_call 29; refine (dealPutVar_any v hv4 _ hO1).mono ?_; rintro e W5 hD; replace hB := below_did hB hNw hD; obtain ⟨rfl, hO2, hG2⟩ := hD)
        | (go_at_call 36; refine (dealOctets_any _ hO2).mono ?_; rintro e W6 ⟨sv, rfl, hsv, hb4⟩; replace hB := chain hB hb4; obtain ⟨va, vm, vc, rfl⟩ := hsv.shape3)
        | (go_at_call 35; refine (text1_any _ _ _ (by have := HLE.out; omega) hsv).mono ?_; rintro e W7 ⟨rfl, hb5⟩))
      go_ret
      exact ⟨rfl, chain hB hb5⟩
    · have HF := Lib.hid (errV_bad hn)
      have e1 : digB i v = ⟨#[]⟩ := if_neg fun h => hn h.2
      rw [e1]
      clear hm hn e1
      go_enter Try.func14, Try.ntmps14
      go_wp2_with (first
        | (go_at_call 8; refine (HC.out _).mono ?_; rw [HE.out]; rintro e W1 ⟨rfl, hb1⟩; replace kV := kV.below hb1 kV.lt; obtain ⟨d0, d1, d2, d3, d4⟩ := kV.c5)
        | (go_at_call 10; refine (HS.out _).mono ?_; rw [HF.out]; rintro e W2 ⟨rfl, hb2⟩))
      go_ret
      exact ⟨rfl, chain (chain hB hb1) hb2⟩
  · have HE := Lib.hid (errI_bad hm)
    have e1 : digB i v = ⟨#[]⟩ := if_neg fun h => hm h.1
    rw [e1]
    clear hm e1
    go_enter Try.func14, Try.ntmps14
    go_wp2_with (first
      | (go_at_call 8; refine (HC.out _).mono ?_; rw [HE.out]; rintro e W1 ⟨rfl, hb1⟩))
    go_ret
    exact ⟨rfl, chain hB hb1⟩

theorem payL_yes {act : Int} {key : ByteArray} {a0 a1 a2 a3 : Nat} (h1 : 1 ≤ act ∧ act ≤ 2) (h2 : key.size = 32) : payL act key a0 a1 a2 a3 = (paySt act key a0 a1 a2 a3).1 := if_pos ⟨h1, h2⟩
theorem payL_no {act : Int} {key : ByteArray} {a0 a1 a2 a3 : Nat} (h : ¬ ((1 ≤ act ∧ act ≤ 2) ∧ key.size = 32)) : payL act key a0 a1 a2 a3 = [] := if_neg h
theorem okS_pay (act : Int) (key : ByteArray) (a0 a1 a2 a3 : Nat) : OkS (paySt act key a0 a1 a2 a3) := okS_wide (okS_txt (okS_num (okS_txt okS_new _) _) _) _ _ _ _
/-- Octets that are handed back. -/
def OctsL (l : List UInt8) (w : World) (e : Ending) (W' : World) : Prop := ∃ sv, e = .returned sv ∧ BSl 0 W'.heap.size W' sv l ∧ Below w.heap.size w W'
set_option maxRecDepth 100000 in
set_option maxHeartbeats 2000000 in
theorem payload_any (act : Int) (key : ByteArray) {a0 a1 a2 a3 : Nat} (h4 : Ok4 a0 a1 a2 a3) (w : World) :
    Calls Try.prog 16 #[.int .i64 act, .string key, wv a0 a1 a2 a3] w (OctsL (payL act key a0 a1 a2 a3) w) := by
  have H0 := holds_any act 1 2
  by_cases hx : 1 ≤ act ∧ act ≤ 2
  · rw [hold_yes hx.1 hx.2] at H0
    have H1 := Lib.hid H0
    by_cases hk : key.size = 32
    · rw [payL_yes hx hk]
      have q1 : ((key.size : Int) == 32) = true := by rw [hk]; rfl
      have q2 : ((key.size : Int) != 32) = false := by rw [hk]; rfl
      clear hk hx H0
      have kB : BlkW (w.alloc (.cells #[.int .u64 (a0 : Nat), .int .u64 (a1 : Nat), .int .u64 (a2 : Nat), .int .u64 (a3 : Nat)] 26)) w.heap.size a0 a1 a2 a3 := Blk.new w _ [_, _, _, _]
      have hB := chain0 w (.cells #[.int .u64 (a0 : Nat), .int .u64 (a1 : Nat), .int .u64 (a2 : Nat), .int .u64 (a3 : Nat)] 26)
      go_enter Try.func16, Try.ntmps16
      go_wp2_with (first
        | (go_at_call 34; refine (H1.out _).mono ?_; rintro e W1 ⟨rfl, hb1⟩; replace hB := chain (chainA hB _) hb1; replace kB := (Blk.alloc kB _).below hb1 (kB.alloc _).lt; clear hb1)
        | (go_at_call 27; refine (outNewO_any _).mono ?_; rintro e W2 ⟨NB, rfl, hN, hO, hb2⟩; have hnv : some w.heap.size ≠ some NB := (fun e => by cases e; exact absurd kB.lt (by omega)); replace kB := kB.below hb2 kB.lt; have hNw := Nat.le_trans hB.size hN; replace hB := chain hB hb2; clear hb2)
        | (go_at_call 38; refine (outText_any _ _ hO).mono ?_; rintro e W4 hD; replace hB := below_did hB hNw hD; obtain ⟨rfl, hO1, hG1⟩ := hD; replace kB := kB.kept hG1 hnv; replace hO := hO1; obtain ⟨c0, c1, c2, c3⟩ := Blk.c4 kB; clear hO1 hG1)
        | (go_at_call 40; refine (outNum_any _ _ hO).mono ?_; rintro e W4 hD; replace hB := below_did hB hNw hD; obtain ⟨rfl, hO1, hG1⟩ := hD; replace kB := kB.kept hG1 hnv; replace hO := hO1; clear hO1 hG1)
        | (go_at_call 41; refine (outWide_any h4 _ hO).mono ?_; rintro e W5 hD; replace hB := below_did hB hNw hD; obtain ⟨rfl, hO2, hG2⟩ := hD)
        | (go_at_call 36; refine (dealOctets_any _ hO2).mono ?_; rintro e W6 ⟨sv, rfl, hsv, hb4⟩; replace hB := chain hB hb4; obtain ⟨va, vm, vc, rfl⟩ := hsv.shape3))
      go_ret
      exact ⟨_, rfl, hsv, hB⟩
    · rw [payL_no (fun h => hk h.2)]
      have q1 : ((key.size : Int) == 32) = false := by simpa using (show ¬ (key.size : Int) = 32 by omega)
      have q2 : ((key.size : Int) != 32) = true := by simpa using (show ¬ (key.size : Int) = 32 by omega)
      clear hk hx H0
      go_enter Try.func16, Try.ntmps16
      go_wp2_with (first
        | (go_at_call 34; refine (H1.out _).mono ?_; rintro e W1 ⟨rfl, hb1⟩))
      go_ret
      exact ⟨_, rfl, BSl.nil _ _ _, chain (chainA (chain0 _ _) _) hb1⟩
  · rw [hold_no hx] at H0
    rw [payL_no (fun h => hx h.1)]
    have H1 := Lib.hid H0
    clear hx H0
    go_enter Try.func16, Try.ntmps16
    go_wp2_with (first
      | (go_at_call 34; refine (H1.out _).mono ?_; rintro e W1 ⟨rfl, hb1⟩))
    go_ret
    exact ⟨_, rfl, BSl.nil _ _ _, chain (chainA (chain0 _ _) _) hb1⟩
end Go.Proofs.Ytififfadodjmeaa

namespace Go.Proofs.Ytififfadodjmeaa
open Go.RowKit

theorem Try.infoInt : (Try.prog.info? 3).map (fun i => (i.zero, i.size, i.bytes)) = some (some (.int .i64 0), 1, 8) := by kernel_rfl

/-- The slice value v owns a row of n numbers, f 0, f 1, .. -/
def OR (W : World) (base : Nat) (v : Value) (n : Nat) (f : Nat → Nat) : Prop := W.ownsRow base 3 1 v n ((List.range n).map fun k => Value.int .i64 (f k : Nat))
theorem OR.nil (W : World) (base : Nat) (f : Nat → Nat) : OR W base (.slice none 0 0) 0 f := ⟨rfl, .inl ⟨rfl, rfl⟩⟩
theorem OR.out {W : World} {base : Nat} {v : Value} {n : Nat} {f : Nat → Nat} (h : OR W base v n f) : W.ownsRow base 3 1 v n ((List.range n).map fun k => Value.int .i64 (f k : Nat)) := h
theorem OR.step {W : World} {base : Nat} {v : Value} {n : Nat} {f : Nat → Nat} {x : Int} (h : W.ownsRow base 3 1 v (n + 1) (((List.range n).map fun k => Value.int .i64 (f k : Nat)) ++ [.int .i64 x])) (hx : x = (f n : Nat)) : OR W base v (n + 1) f := by
  unfold OR
  rw [List.range_succ, List.map_append]
  rw [hx] at h
  exact h
theorem OR.alloc {W : World} {base : Nat} {v : Value} {n : Nat} {f : Nat → Nat} (h : OR W base v n f) (o : Obj) : OR (W.alloc o) base v n f := World.ownsRow.alloc h o
theorem OR.grown {W w1 : World} {base n : Nat} {u v' : Value} {f : Nat → Nat} {o : Obj} {x : Int} (hown : OR W base u n f) (hsz : base ≤ W.heap.size)
    (hown' : w1.ownsRow base 3 1 v' (n + 1) (((List.range n).map fun k => Value.int .i64 (f k : Nat)) ++ [.int .i64 x])) (hg : (W.alloc o).grownBy w1 u.ownBlock) (hx : x = (f n : Nat)) :
    OR w1 base v' (n + 1) f ∧ base ≤ w1.heap.size ∧ Below base W w1 := by
  have hb : Below base W w1 := ((Below.refl base W).alloc hsz o).grown hg (by simp; omega) (fun j hj => (World.ownsRow.lt hown.out j hj).1)
  exact ⟨OR.step hown' hx, Nat.le_trans hsz hb.size, hb⟩
/-- The slice at block g holds n numbers. -/
def Nums (W : World) (g n : Nat) (f : Nat → Nat) : Prop := ∀ k, k < n → W.cell? ⟨g, k, none⟩ = some (.int .i64 (f k : Nat))
theorem OR.nums {W : World} {base : Nat} {v : Value} {n : Nat} {f : Nat → Nat} (h : OR W base v n f) (hn : 0 < n) :
    ∃ g cap, v = .slice (some ⟨g, 0, none⟩) n cap ∧ base ≤ g ∧ g < W.heap.size ∧ Nums W g n f := by
  obtain ⟨hl, ⟨_, h0⟩ | ⟨g, cap, cur, rfl, hg, hb, hnc, hcm, hsz, htake⟩⟩ := h
  · omega
  · refine ⟨g, cap, rfl, hg, (Array.getElem?_eq_some_iff.1 hb).1, fun k hk => ?_⟩
    have e : cur[k]? = (cur.toList.take (n * 1))[k]? := by
      rw [List.getElem?_take_of_lt (by omega)]
      simp
    simp only [World.cell?, hb]
    rw [show (if (none : Option Nat).isSome = true then (none : Option Value) else cur[k]?) = cur[k]? from rfl, e, htake]
    simp [hk]
theorem Nums.below {W W' : World} {m g n : Nat} {f : Nat → Nat} (h : Nums W g n f) (hb : Below m W W') (hg : g < m) : Nums W' g n f := fun k hk => (hb.cell (p := ⟨g, k, none⟩) hg).trans (h k hk)

/-- A slice of n numbers, and nothing that was there has turned. -/
def SlW (n : Nat) (f : Nat → Nat) (w : World) (e : Ending) (W' : World) : Prop :=
  ∃ g cap, e = .returned (.slice (some ⟨g, 0, none⟩) n cap) ∧ w.heap.size ≤ g ∧ g < W'.heap.size ∧ Nums W' g n f ∧ Below w.heap.size w W'

/-- x without its t lowest digits. -/
def sh (x : Nat) : Nat → Nat
  | 0 => x
  | t + 1 => sh x t / 65536
/-- The digit at place n. -/
def dg (a0 a1 a2 a3 n : Nat) : Nat := sh (word a0 a1 a2 a3 (n / 4)) (n % 4) % 65536
theorem dg_at {a0 a1 a2 a3 k t : Nat} (ht : t < 4) : dg a0 a1 a2 a3 (4 * k + t) = sh (word a0 a1 a2 a3 k) t % 65536 := by
  unfold dg
  rw [show (4 * k + t) / 4 = k by omega, show (4 * k + t) % 4 = t by omega]
theorem sh_lt {x : Nat} (h : x < M) (t : Nat) : sh x t < M := by
  induction t with
  | zero => exact h
  | succ t ih => show sh x t / 65536 < M; omega

/-- n numbers as cells. -/
def ds (f : Nat → Nat) (n : Nat) : List Value := (List.range n).map fun k => .int .i64 (f k : Nat)
theorem ds_at (f : Nat → Nat) {n k : Nat} (h : k < n) : (ds f n)[k]? = some (.int .i64 (f k : Nat)) := by
  unfold ds; rw [List.getElem?_map, List.getElem?_range h]; rfl
theorem ds_set (f : Nat → Nat) {n k : Nat} (v : Nat) : (ds f n).set k (.int .i64 (v : Nat)) = ds (upd f k v) n := by
  apply List.ext_getElem?
  intro j
  rw [List.getElem?_set]
  by_cases hj : k = j
  · subst hj
    by_cases hk : k < n
    · rw [if_pos rfl, if_pos (by simp [ds]; exact hk), ds_at _ hk]; simp [upd]
    · rw [if_pos rfl, if_neg (by simp [ds]; omega), eq_comm, List.getElem?_eq_none]; simp [ds]; omega
  · rw [if_neg hj]
    by_cases hk : j < n
    · rw [ds_at _ hk, ds_at _ hk]; simp [upd, Ne.symm hj]
    · rw [List.getElem?_eq_none (by simp [ds]; omega), List.getElem?_eq_none (by simp [ds]; omega)]
theorem Blk.numsOf {W : World} {B n : Nat} {f : Nat → Nat} (h : Blk W B 3 (ds f n)) : Nums W B n f := fun k hk => (h.cell k).trans (ds_at f hk)
end Go.Proofs.Ytififfadodjmeaa

namespace Go.Proofs.Ytififfadodjmeaa
open Go.RowKit

set_option maxRecDepth 100000 in
set_option maxHeartbeats 2000000 in
theorem digits_any {a0 a1 a2 a3 : Nat} (ha : Ok4 a0 a1 a2 a3) (w : World) :
    Calls Try.prog 84 #[wv a0 a1 a2 a3] w (SlW 16 (dg a0 a1 a2 a3) w) := by
  obtain ⟨i0, hi, hz0, hz1, hz2⟩ := info_parts Try.infoInt
  obtain ⟨B, hB⟩ : ∃ B, B = w.heap.size := ⟨_, rfl⟩
  go_enter Try.func84, Try.ntmps84
  go_wp2
  go_loopw [3, 4] (fun v i wr => ∃ k : Nat, k ≤ 4 ∧ i = .int .i64 k ∧ OR wr (w.heap.size + 1) v (4 * k) (dg a0 a1 a2 a3) ∧ Blk wr w.heap.size 26 (ws (word a0 a1 a2 a3)) ∧ Below w.heap.size w wr ∧ w.heap.size + 1 ≤ wr.heap.size) (fun _ i _ => 4 - (intOf i).toNat)
  case atStart => exact ⟨0, by omega, rfl, OR.nil _ _ _, Blk.new _ _ _, chain0 _ _, by simp⟩
  case round =>
    obtain ⟨k, hk, rfl, hown, hblk, hbel, hsz⟩ := hrel
    by_cases hlt : k < 4
    · have hk' : (k : Int) < 4 := by omega
      have hc := hblk.cell k
      rw [ws_at _ hlt] at hc
      go_wp2
      obtain ⟨wo, rfl⟩ : ∃ wo : World, wo = wr := ⟨_, rfl⟩
      have hw := word_lt ha.h0 ha.h1 ha.h2 ha.h3 k
      go_loopw [3, 5, 6] (fun v x j wr => ∃ t : Nat, t ≤ 4 ∧ j = .int .i64 t ∧ x = .int .u64 (sh (word a0 a1 a2 a3 k) t : Nat) ∧ OR wr (w.heap.size + 1) v (4 * k + t) (dg a0 a1 a2 a3) ∧ Blk wr w.heap.size 26 (ws (word a0 a1 a2 a3)) ∧ Below w.heap.size w wr ∧ w.heap.size + 1 ≤ wr.heap.size) (fun _ _ j _ => 4 - (intOf j).toNat)
      case atStart => exact ⟨0, by omega, rfl, rfl, hown, hblk, hbel, hsz⟩
      case round =>
        obtain ⟨t, ht, rfl, rfl, hown, hblk, hbel, hsz⟩ := hrel
        by_cases hlt' : t < 4
        · have ht' : (t : Int) < 4 := by omega
          have hx := sh_lt hw t
          have hx0 : ((sh (word a0 a1 a2 a3 k) t : Nat) : Int) ≤ 18446744073709551615 := by unfold M at hx; omega
          have hd := dg_at (a0 := a0) (a1 := a1) (a2 := a2) (a3 := a3) (k := k) hlt'
          have HD := Lib.hid hd
          clear hd
          have hsx : sh (word a0 a1 a2 a3 k) (t + 1) = sh (word a0 a1 a2 a3 k) t / 65536 := rfl
          have HS := Lib.hid hsx
          clear hsx
          generalize sh (word a0 a1 a2 a3 k) t = x at *
          go_wp2_with (at_builtin; refine wpList_append_own _ rfl _ _ 134 rfl (w.heap.size + 1) 3 i0 (.int .i64 0) 1 8 Try.underlying134 hi hz0 hz1 hz2 rfl (by decide) _ _ _ rfl (hown.out.alloc _) ⟨wr.heap.size, 0, none⟩ 1 1 [.int .i64 ((x : Int) % 65536)] rfl rfl (cell_one_new _ _ _) (by simp [Value.oneCell']) (by unfold maxLen; omega) (by omega) (by simp; omega) ?_; intro v' w1 hown' hgrow _)
          have hg : (wr.alloc (.cells #[.int .i64 ((x : Int) % 65536)] 3)).grownBy w1 u3.ownBlock := hgrow
          obtain ⟨h1, h2, h3⟩ := hown.grown hsz hown' hg (by rw [HD.out]; omega)
          refine ⟨⟨t + 1, by omega, by simp, by rw [HS.out]; simp, h1, hblk.below h3 (by omega), hbel.trans (h3.mono (by omega)), h2⟩, by simp [intOf]; omega⟩
        · obtain rfl : t = 4 := by omega
          go_wp2
          exact ⟨⟨k + 1, by omega, by simp, hown, hblk, hbel, hsz⟩, by simp [intOf]; omega⟩
    · obtain rfl : k = 4 := by omega
      go_wp2
      go_ret
      obtain ⟨g, cap, rfl, h1, h2, h3⟩ := hown.nums (by omega)
      exact ⟨g, cap, rfl, by omega, h2, h3, hbel⟩
end Go.Proofs.Ytififfadodjmeaa

namespace Go.Proofs.Ytififfadodjmeaa
open Go.RowKit

/-- The octets of the k highest of sixteen digits. -/
def dO (f : Nat → Nat) : Nat → List UInt8
  | 0 => []
  | k + 1 => dO f k ++ [UInt8.ofNat (f (15 - k) / 256), UInt8.ofNat (f (15 - k))]
theorem dO_length (f : Nat → Nat) (k : Nat) : (dO f k).length = 2 * k := by
  induction k with
  | zero => rfl
  | succ k ih => simp [dO, ih]; omega
theorem octs8 (a : Nat) : octs a 8 = [UInt8.ofNat (sh a 3 % 65536 / 256), UInt8.ofNat (sh a 3 % 65536), UInt8.ofNat (sh a 2 % 65536 / 256), UInt8.ofNat (sh a 2 % 65536), UInt8.ofNat (sh a 1 % 65536 / 256), UInt8.ofNat (sh a 1 % 65536), UInt8.ofNat (sh a 0 % 65536 / 256), UInt8.ofNat (sh a 0 % 65536)] := by
  have e : ∀ {m n : Nat}, m % 256 = n % 256 → UInt8.ofNat m = UInt8.ofNat n := fun h => UInt8.toNat_inj.1 (by rw [UInt8.toNat_ofNat', UInt8.toNat_ofNat']; simpa using h)
  simp only [octs, oct, sh, List.cons.injEq, and_true]
  refine ⟨e ?_, e ?_, e ?_, e ?_, e ?_, e ?_, e ?_, e ?_⟩ <;> omega
theorem dO_all (a0 a1 a2 a3 : Nat) : dO (dg a0 a1 a2 a3) 16 = wide8 a0 a1 a2 a3 := by
  unfold wide8
  rw [octs8 a3, octs8 a2, octs8 a1, octs8 a0]
  rfl

theorem byte_hi {y : Nat} (h : y ≤ 65535) : IntKind.u8.wrap (IntKind.i64.wrap ((y : Int) / 256)) = (((UInt8.ofNat (y / 256)).toNat : Nat) : Int) := by
  rw [wr_i64 _ (by omega) (by omega), UInt8.toNat_ofNat']
  simp [IntKind.wrap, IntKind.bits, IntKind.signed]
theorem byte_lo {y : Nat} (h : y ≤ 65535) : IntKind.u8.wrap (Int.tmod (y : Int) 256) = (((UInt8.ofNat y).toNat : Nat) : Int) := by
  rw [UInt8.toNat_ofNat', Int.tmod_eq_emod_of_nonneg (by omega)]
  simp [IntKind.wrap, IntKind.bits, IntKind.signed]

set_option maxRecDepth 100000 in
set_option maxHeartbeats 4000000 in
theorem refWide_any {a0 a1 a2 a3 : Nat} (ha : Ok4 a0 a1 a2 a3) (w : World) :
    Calls Try.prog 65 #[wv a0 a1 a2 a3] w (ByW (wide8 a0 a1 a2 a3) w) := by
  have hmx : Try.prog.follows .mixedOrders = true := by kernel_rfl
  obtain ⟨i0, hi, hz0, hz1, hz2⟩ := info_parts Try.infoByte
  rw [← dO_all]
  go_enter Try.func65, Try.ntmps65
  go_wp2_with fail
  refine (digits_any ha _).mono ?_
  rintro e w1 ⟨g, cap, rfl, hg, hg1, hnums, hb1⟩
  have hd1 := chain (chain0 w _) hb1
  have hf : ∀ k, dg a0 a1 a2 a3 k ≤ 65535 := fun k => by unfold dg; omega
  clear hb1
  generalize dg a0 a1 a2 a3 = f at *
  go_wp2
  go_loopw [4, 5] (fun v i wr => ∃ k : Nat, k ≤ 16 ∧ i = .int .i64 (15 - (k : Int)) ∧ wr.ownsRow w1.heap.size 5 1 v (2 * k) ((dO f k).map bv) ∧ Below w1.heap.size w1 wr) (fun _ i _ => ((intOf i) + 1).toNat)
  case atStart => exact ⟨0, by omega, rfl, World.ownsRow_nil _ _ _ _, Below.refl _ _⟩
  case round =>
    obtain ⟨k, hk, rfl, hown, hB⟩ := hrel
    by_cases hlt : k < 16
    · have hp : (15 : Int) - k = ((15 - k : Nat) : Int) := by omega
      have hpl : 15 - k ≤ 15 := by omega
      have hc := hnums.below hB hg1 (15 - k) (by omega)
      have hfk := hf (15 - k)
      have hst : dO f (k + 1) = dO f k ++ [UInt8.ofNat (f (15 - k) / 256), UInt8.ofNat (f (15 - k))] := rfl
      have HS := Lib.hid hst
      have HP := Lib.hid hp
      rw [hp]
      clear hp hst
      generalize f (15 - k) = y at *
      generalize 15 - k = p at *
      have hy : (y : Int) ≤ 65535 := by omega
      have hp16 : (p : Int) < 16 := by omega
      go_wp2_with fail
      refine wp_region_held_drew (S := fun w' => w'.cell? ⟨g, p, none⟩ = some (.int .i64 (y : Int)) ∧ w'.heap.size > g) hmx ⟨hc, Nat.lt_of_lt_of_le hg1 hB.size⟩ ?_
      intro hS
      generalize hw2 : wr.drew = w2 at *
      refine wpAnyH_take (i := 0) (v := ?_) rfl (by kernel_rfl) (by kernel_rfl) (by kernel_rfl) (fun _ _ _ h => h) (Or.inl ⟨rfl, ?_⟩) hS ?_
      rotate_left
      · intro w' hS'; go_simp; with_reducible rfl
      refine wpAnyH_take (i := 1) (v := ?_) rfl (by kernel_rfl) (by kernel_rfl) (by kernel_rfl) (fun _ _ _ h => h) (Or.inl ⟨rfl, ?_⟩) hS ?_
      rotate_left
      · intro w' hS'; go_simp; with_reducible rfl
      refine wpAnyH_take (i := 2) (v := ?_) rfl (by kernel_rfl) (by kernel_rfl) (by kernel_rfl) (fun _ _ _ h => h) (Or.inl ⟨rfl, ?_⟩) hS ?_
      rotate_left
      · intro w' hS'; go_simp; with_reducible rfl
      refine wpAnyH_take (i := 3) (v := ?_) rfl (by kernel_rfl) (by kernel_rfl) (by kernel_rfl) (fun _ _ _ h => h) (Or.inl ⟨rfl, ?_⟩) hS ?_
      rotate_left
      · intro w' hS'; go_simp; with_reducible rfl
      refine wpAnyH_take (i := 4) (v := ?_) rfl (by kernel_rfl) (by kernel_rfl) (by kernel_rfl) (fun _ _ _ h => h) (Or.inl ⟨rfl, ?_⟩) hS ?_
      rotate_left
      · intro w' hS'; go_simp; with_reducible rfl
      refine wpAnyH_take (i := 5) (v := ?_) rfl (by kernel_rfl) (by kernel_rfl) (by kernel_rfl) (fun _ _ _ h => h) (Or.inl ⟨rfl, ?_⟩) hS ?_
      rotate_left
      · intro w' hS'; go_simp; with_reducible rfl
      refine wpAnyH_take (i := 6) (v := ?_) rfl (by kernel_rfl) (by kernel_rfl) (by kernel_rfl) (fun _ _ _ h => h) (Or.inl ⟨rfl, ?_⟩) hS ?_
      rotate_left
      · intro w' hS'; go_simp; with_reducible rfl
      refine wpAnyH_take (i := 7) (v := ?_) rfl (by kernel_rfl) (by kernel_rfl) (by kernel_rfl) (fun _ _ _ h => h) (Or.inl ⟨rfl, ?_⟩) hS ?_
      rotate_left
      · intro w' hS'; go_simp; with_reducible rfl
      refine wpAnyH_take (i := 8) (v := ?_) rfl (by kernel_rfl) (by kernel_rfl) (by kernel_rfl) (fun _ _ _ h => h) (Or.inl ⟨rfl, ?_⟩) hS ?_
      rotate_left
      · intro w' hS'; go_simp; with_reducible rfl
      refine wpAnyH_take (i := 9) (v := ?_) rfl (by kernel_rfl) (by kernel_rfl) (by kernel_rfl) (fun _ _ _ h => h) (Or.inl ⟨rfl, ?_⟩) hS ?_
      rotate_left
      · intro w' hS'; go_simp; with_reducible rfl
      refine wpAnyH_take (i := 10) (v := ?_) rfl (by kernel_rfl) (by kernel_rfl) (by kernel_rfl) (fun _ _ _ h => h) (Or.inl ⟨rfl, ?_⟩) hS ?_
      rotate_left
      · intro w' hS'; go_simp; with_reducible rfl
      refine wpAnyH_take (i := 11) (v := ?_) rfl (by kernel_rfl) (by kernel_rfl) (by kernel_rfl) (fun _ _ _ h => h) (Or.inl ⟨rfl, ?_⟩) hS ?_
      rotate_left
      · intro w' hS'; go_simp; with_reducible rfl
      refine wpAnyH_take (i := 12) (v := ?_) rfl (by kernel_rfl) (by kernel_rfl) (by kernel_rfl) (fun _ _ _ h => h) (Or.inl ⟨rfl, ?_⟩) hS ?_
      rotate_left
      · intro w' hS'; go_simp; with_reducible rfl
      have hB2 : Below w1.heap.size w1 w2 := by rw [← hw2]; exact hB.drew
      have hown2 : w2.ownsRow w1.heap.size 5 1 u4 (2 * k) ((dO f k).map bv) := by rw [← hw2]; exact hown
      have hz2' : w1.heap.size ≤ w2.heap.size := hB2.size
      rw [byte_hi hfk, byte_lo hfk]
      clear hw2 hc hB hown
      generalize UInt8.ofNat (y / 256) = x1 at *
      generalize UInt8.ofNat y = x0 at *
      refine wpAnyH_ready (rs := [13]) (by kernel_rfl) (by simp) ?_
      refine AllReadyH.cons rfl (fun K hK => ?_) AllReadyH.nil
      go_simp
      refine hK.out _ _ ⟨(World.cell?_alloc_lt _ _ _ hS.2).trans hS.1, by simp; have := hS.2; omega⟩ (fun hS3 => ?_)
      clear hK K
      refine wpAnyH_ready (rs := [14]) (by kernel_rfl) (by simp) ?_
      refine AllReadyH.cons rfl (fun K hK => ?_) AllReadyH.nil
      rw [if_pos (by kernel_rfl)]
      refine wp_append_own _ _ _ 37 rfl w1.heap.size 5 i0 (.int .u8 0) 1 1 Try.underlying37 hi hz0 hz1 hz2 rfl (by decide) u4 (2 * k) ((dO f k).map bv) rfl (hown2.alloc _) ⟨w2.heap.size, 0, none⟩ 2 2 [bv x1, bv x0] rfl rfl (World.news_of_block (cs := #[bv x1, bv x0]) (World.alloc_heap_new w2 _)) (by simp [Value.oneCell']) (by unfold maxLen; omega) (by omega) (by simp; omega) ?_
      intro v' w3 hown' hgrow _
      have hB3 : Below w1.heap.size w2 w3 := ((Below.refl _ w2).alloc hz2' (.cells #[bv x1, bv x0] 5)).grown hgrow (by simp; omega) (fun j hj => (World.ownsRow.lt hown2 j hj).1)
      refine hK.out _ _ ⟨(hB3.cell (p := ⟨g, p, none⟩) hg1).trans hS.1, by have := hB3.size; have := hS.2; omega⟩ (fun hS4 => ?_)
      clear hK K
      refine wpAnyH_take (i := 15) (v := ?_) rfl (by kernel_rfl) (by kernel_rfl) (by kernel_rfl) (fun _ _ _ h => h) (Or.inl ⟨rfl, ?_⟩) hS4 ?_
      rotate_left
      · intro w' hS'; go_simp; with_reducible rfl
      refine wpAnyH_done (by kernel_rfl) ?_ _
      go_wp2
      have hq : (p : Int) - 1 = 15 - ((k + 1 : Nat) : Int) := by have := HP.out; omega
      exact ⟨⟨k + 1, by omega, by rw [hq], by rw [HS.out, List.map_append, Nat.mul_add]; exact hown', hB2.trans hB3⟩, by simp [intOf]⟩
    · obtain rfl : k = 16 := by omega
      have hq : (15 : Int) - ((16 : Nat) : Int) = -1 := by omega
      rw [hq]
      go_wp2
      go_ret
      refine ⟨_, rfl, (BSl.of_own (e := 5) (l := dO f 16) (lo := w1.heap.size) ?_).mono hd1.size (Nat.le_refl _), hd1.trans (hB.mono hd1.size)⟩
      rw [dO_length]
      exact hown

end Go.Proofs.Ytififfadodjmeaa
