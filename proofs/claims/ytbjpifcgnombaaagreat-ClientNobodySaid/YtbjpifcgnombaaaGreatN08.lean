/-
  hash.Sum; hash.Text; hash.Short; '[]byte(s)'; the beginning of a sum as a string; Pieces of a text; A region that draws, inside a fence of activations: operation by operation; ots.beginnings: what a leaf's chains begin with, one by one; ots.Begin
-/
import Derived.Outline
import Derived.Lib.ConvBytes
import Derived.Laws.AppendOwn
import Derived.OrdersIn
import Derived.WalkKit
import Derived.CallsIn
import Derived.TacticsInMore
import Derived.Test.YtbjpifcgnombaaaGreatN07
namespace Go.Proofs.YtbjpifcgnombaaaGreat
open Go.RowKit Go.Shelf
attribute [local go_sem] Oper.semAt_some
theorem blk_zero8 (w : World) (t : TypeId) : Blk (w.alloc (.cells #[.int .u32 0, .int .u32 0, .int .u32 0, .int .u32 0, .int .u32 0, .int .u32 0, .int .u32 0, .int .u32 0] t)) w.heap.size t (us (fun _ => 0) 8) := by rw [us0_8]; exact Blk.new' rfl
theorem blk_zero16 (w : World) (t : TypeId) : Blk (w.alloc (.cells #[.int .u32 0, .int .u32 0, .int .u32 0, .int .u32 0, .int .u32 0, .int .u32 0, .int .u32 0, .int .u32 0, .int .u32 0, .int .u32 0, .int .u32 0, .int .u32 0, .int .u32 0, .int .u32 0, .int .u32 0, .int .u32 0] t)) w.heap.size t (us (fun _ => 0) 16) := by rw [us0_16]; exact Blk.new' rfl
theorem sts_succ (kk : Nat → Int) (p : List UInt8) (f : Nat → Int) (n : Nat) : sts kk p f (n + 1) = mixed kk (sch (wd (blk p n)) 48) (sts kk p f n) := rfl
theorem bsl_slice {lo hi : Nat} {W : World} {sv : Value} {l : List UInt8} (h : BSl lo hi W sv l) : ∃ a c, sv = .slice a l.length c := by
  obtain ⟨a, c, e, _⟩ := h
  exact ⟨a, c, e⟩
set_option maxRecDepth 100000 in
set_option maxHeartbeats 8000000 in
theorem sum_in (m : Nat) (hm : 10 ≤ m) (l : List UInt8) (sv : Value) (w : World) (hreach : l.length ≤ 140737488353000) (hsv : BSl 0 w.heap.size w sv l) :
    CallsIn Fence.wide m Tryz.prog 92 #[sv] w (ByO (sumL cb sq l) w) := by
  have h1 : 1 ≤ m := by omega
  have hmx : Tryz.prog.follows .mixedOrders = true := by kernel_rfl
  obtain ⟨i0, hi, hz0, hz1, hz2⟩ := info_parts Tryz.infoByte
  have hsv0 := hsv
  obtain ⟨a, cap, rfl, hcap, hcs⟩ := hsv
  clear hcs
  refine callsIn_of_wp_marks Tryz.func92 rfl trivial ?_ rfl
  simp only [Tryz.ntmps92, List.size_toArray, List.length_cons, List.length_nil, Nat.reduceAdd, Nat.reduceSub, Array.replicate_succ, Array.replicate_zero, List.push_toArray, List.append_toArray, List.nil_append, List.cons_append]
  gi_wp2_with (first
    | (refine ⟨trivial, ?_⟩; gi_at_call 163; refine (callsIn_wide.2 (squareRoots_any _)).mono ?_; rintro e w1 ⟨rfl, hb1⟩)
    | (with_reducible refine arrIn_store arr8 rfl (.tmp 3) (.tmp 8) rfl w1.heap.size rfl sq rfl 242 (fun _ => 0) (blk_zero8 w1 _) ?_; intro w2 kS hg2)
    | (refine ⟨trivial, ?_⟩; gi_at_call 165; (have hb2 : Below w.heap.size w w2 := (chainA hb1 (.cells #[.int .u32 0, .int .u32 0, .int .u32 0, .int .u32 0, .int .u32 0, .int .u32 0, .int .u32 0, .int .u32 0] 242)).grown hg2 (by simp; have := hb1.size; omega) (fun k e => by have : w1.heap.size = k := Option.some.inj e; have := hb1.size; omega)); refine (callsIn_wide.2 (pad_any l _ _ (by omega) ((hsv0.below hb2 (Nat.le_refl _)).mono (Nat.le_refl _) hb2.size))).mono ?_; rintro e w3 ⟨pv, rfl, hown, hb3⟩; obtain ⟨pa, pc, rfl⟩ := ownsRow_slice hown)
    | (refine ⟨trivial, ?_⟩; gi_at_call 164; refine (blocks_in Fence.wide (m - 1) trivial rfl _ _ _ _).mono ?_; rintro e w' ⟨rfl, rfl⟩))
  have hb23 : Below w.heap.size w w3 := chain hb2 hb3
  have hw1 : w.heap.size ≤ w1.heap.size := hb1.size
  have hw2 : w1.heap.size < w2.heap.size := kS.lt
  have hpb := BSl.of_own hown
  have hpl := padL_length l
  have HS : Hid (sumL cb sq l = sumTo (sts cb (padL l) sq ((padL l).length / 64)) 8) := Lib.hid rfl
  generalize hp : padL l = p at *
  clear hp
  obtain ⟨pa', pc', hpe, hpc, hp0⟩ := hpb
  cases hpe
  have hnz : p ≠ [] := fun e => by rw [e] at hpl; simp at hpl; omega
  obtain ⟨pb, po, rfl, hpl0, hpb, hpo⟩ := hp0.resolve_left hnz
  have hcm : pc ≤ maxLen := by
    rcases hown.2 with ⟨e, _⟩ | ⟨g, c, cur, e, _, _, _, hcm, _⟩
    · cases e
    · cases e; exact hcm
  unfold maxLen at hcm
  have hl64 : p.length = 64 * (p.length / 64) := by omega
  have hN1 : 1 ≤ p.length / 64 := by omega
  have hreach' : p.length ≤ 140737488354000 := by omega
  generalize hN : p.length / 64 = N at *
  clear hpl hN hnz hp0
  have kS3 := kS.below hb3 kS.lt
  generalize hW4 : World.alloc _ _ = w4
  have kp : Boxed w4 w3.heap.size 80 (.slice (some ⟨pb, po, none⟩) p.length pc) := by rw [← hW4]; exact Boxed.new _ _ _
  have kS4 : Blk w4 w1.heap.size 242 (us sq 8) := by rw [← hW4]; exact kS3.alloc _
  have hb34 : Below w3.heap.size w3 w4 := by rw [← hW4]; exact chain0 _ _
  have hpo4 := hpo.below hb34 hpb
  have hb4 : Below w.heap.size w w4 := chain hb23 hb34
  have hw4 : w4.heap.size = w3.heap.size + 1 := by rw [← hW4]; simp
  have hw3 := hb3.size
  clear hW4
  generalize hq : p.length = q at *
  have HQ := Lib.hid hq
  have HL64 := Lib.hid hl64
  clear hl64
  have hseq := blocks1_all (m - 1) (by omega) w1.heap.size w3.heap.size pb po pc N p (by rw [HQ.out]; exact HL64.out) hN1 (by rw [HQ.out]; exact hreach') (by rw [HQ.out]; exact hpc) (by omega) w4 (by omega) (by omega) (by omega) hpo4 (by rw [HQ.out]; exact kp)
  clear hq
  refine wpIn_rangeFunc_all (ys := blkWords p N) rfl h1 (gf := 239) (lb := #[.pointer (some ⟨w3.heap.size, 0, none⟩)]) rfl trivial (enters_of Tryz.func239 (by kernel_rfl) rfl)
    hseq AllBut.t (fun X o o' _ _ _ => AllBut.b _ _ X o') (Below.refl _ _) (fun _ => rfl)
    (fun k X => (Blk X w1.heap.size 242 (us (sts cb p sq k) 8) ∧ w4.heap.size ≤ X.heap.size) ∧ Below w.heap.size w X)
    (OwnFrom.and (fun k X Y row hs hg hr => ⟨blk_own w1.heap.size 242 (fun _ : Unit => _) () X Y row hs.1 hg (fun r e => (hr r e).2), Nat.le_trans hs.2 hg.size⟩) (ownFrom_below (Nat.le_refl _) (by omega)))
    ⟨⟨kS4, Nat.le_refl _⟩, hb4⟩
    (fun x a' X => ∃ Bx, w4.heap.size ≤ Bx ∧ Blk X Bx 247 (us x 16) ∧ a' = { tmps := #[.slice a l.length cap, undef, .slice none 0 0, .pointer (some ⟨w1.heap.size, 0, none⟩), .pointer (some ⟨Bx, 0, none⟩), undef, undef, undef, uv sq 8, .slice a l.length cap, .slice (some ⟨pb, po, none⟩) q pc, .func (.func 239) #[] #[.pointer (some ⟨w3.heap.size, 0, none⟩)], uv x 16, undef, undef, undef, undef, undef, undef, undef, undef, undef, undef, undef, undef, undef, undef, undef], defers := [] })
    (fun x a' s X Y row ⟨Bx, h1, h2, h3⟩ hg hr => ⟨Bx, h1, blk_own Bx 247 (fun _ : Unit => _) () X Y row h2 hg (fun r e => (hr r e).2), h3⟩) ?_ ?_ ?_
  · rintro l' k x X K ⟨⟨hS, hsz⟩, hB⟩ hK
    gi_wp2_with (with_reducible refine arrIn_store arr16 rfl (.tmp 4) (.tmp 12) rfl X.heap.size rfl x rfl 247 (fun _ => 0) (blk_zero16 X _) ?_; intro X2 kX hgX)
    have hX2 : Below X.heap.size X X2 := (chain0 X _).grown hgX (by simp) (fun k e => by have : X.heap.size = k := Option.some.inj e; omega)
    exact hK _ _ ⟨hX2.size, fun j o _ hj _ => (hX2.block j (Array.getElem?_eq_some_iff.1 hj).1).trans hj⟩ (AllBut.of_below hX2) ⟨⟨hS.below hX2 hS.lt, Nat.le_trans hsz hX2.size⟩, hB.trans (hX2.mono hB.size)⟩ ⟨X.heap.size, hsz, kX, rfl⟩
  · rintro l' k x a' X hx ⟨⟨hS, hsz⟩, hB⟩ ⟨Bx, hBx, kX, rfl⟩
    have hk : k < N := by have := (List.getElem?_eq_some_iff.1 hx).1; simpa [blkWords] using this
    rw [blkWords_at p hk] at hx
    obtain rfl := Option.some.inj hx
    have hne : w1.heap.size ≠ Bx := by omega
    clear hx
    have hst := Lib.hid (sts_succ cb p sq k)
    generalize sts cb p sq k = st at *
    generalize wd (blk p k) = x at *
    gi_wp2_with fail
    refine wpIn_round_any hmx (by kernel_rfl) ?_
    change wpAny _ _ _ _ _ _ _ X.drew
    replace hS : Blk X.drew w1.heap.size 242 (us st 8) := hS
    replace kX : Blk X.drew Bx 247 (us x 16) := kX
    have hXd : Below X.heap.size X X.drew := (Below.refl _ X).drew
    generalize X.drew = Y at *
    have hFin : ∀ (Y2 Y3 Y4 : World) (a' : Act), Below Y.heap.size Y Y2 → Below Y2.heap.size Y2 Y3 → Blk Y4 w1.heap.size 242 (us (mixed cb (sch x 48) st) 8) → Y3.grownBy Y4 (some w1.heap.size) →
        goesOn w4.heap.size (AllBut w1.heap.size (w4.heap.size + 1)) (fun X => (Blk X w1.heap.size 242 (us (sts cb p sq (k + 1)) 8) ∧ w4.heap.size ≤ X.heap.size) ∧ Below w.heap.size w X) X Exit.normal a' Y4 := fun Y2 Y3 Y4 a' hbY2 hbY3 hS4 hgY => by
      have hXY : Below X.heap.size X Y3 := hXd.trans ((chain hbY2 hbY3).mono hXd.size)
      have hA : ∀ j, j < X.heap.size → j ≠ w1.heap.size → Y4.heap[j]? = X.heap[j]? := fun j hj hne => (hgY.block j (Nat.lt_of_lt_of_le hj hXY.size) (fun e => hne (Option.some.inj e))).trans (hXY.block j hj)
      have hsz4 : X.heap.size ≤ Y4.heap.size := Nat.le_trans hXY.size hgY.size
      refine ⟨⟨hsz4, fun j o hBj hj _ => (hA j (Array.getElem?_eq_some_iff.1 hj).1 (by omega)).trans hj⟩, ⟨hsz4, fun j hj h1 _ => hA j hj h1⟩, ⟨by rw [hst.out]; exact hS4, Nat.le_trans hsz hsz4⟩, ?_⟩
      have hB3 := hB.trans (hXY.mono hB.size)
      exact hB3.grown hgY hB3.size (fun k e => by have : w1.heap.size = k := Option.some.inj e; omega)
    refine wpAny_ready (rs := [0, 1]) (by kernel_rfl) (by simp) ?_
    refine AllReady.cons rfl (fun K hK => ?_) (AllReady.cons rfl (fun K hK => ?_) AllReady.nil)
    · refine step_load_us arr8 rfl (.tmp 3) rfl w1.heap.size rfl 242 st hS ?_
      refine hK _ _ ?_
      clear hK K
      refine wpAny_ready (rs := [1]) (by kernel_rfl) (by simp) ?_
      refine AllReady.cons rfl (fun K hK => ?_) AllReady.nil
      refine step_load_us arr16 rfl (.tmp 4) rfl Bx rfl 247 x kX ?_
      refine hK _ _ ?_
      clear hK K
      refine wpAny_ready (rs := [2]) (by kernel_rfl) (by simp) ?_
      refine AllReady.cons rfl (fun K hK => ?_) AllReady.nil
      go_simp
      refine (schedule_any _ _).mono ?_
      rintro e Y2 ⟨rfl, hbY2⟩
      have hS2 := hS.below hbY2 hS.lt
      refine hK _ _ ?_
      clear hK K
      refine wpAny_ready (rs := [3]) (by kernel_rfl) (by simp) ?_
      refine AllReady.cons rfl (fun K hK => ?_) AllReady.nil
      go_simp
      refine (mix_any _ _ _).mono ?_
      rintro e Y3 ⟨rfl, hbY3⟩
      have hS3 := hS2.below hbY3 hS2.lt
      refine hK _ _ ?_
      clear hK K
      refine wpAny_ready (rs := [4]) (by kernel_rfl) (by simp) ?_
      refine AllReady.cons rfl (fun K hK => ?_) AllReady.nil
      refine step_store_us arr8 rfl (.tmp 3) (.tmp 16) rfl w1.heap.size rfl (mixed cb (sch x 48) st) rfl 242 st hS3 ?_
      intro Y4 hS4 hgY
      refine hK _ _ ?_
      clear hK K
      refine wpAny_done (by kernel_rfl) ?_ _
      exact hFin Y2 Y3 Y4 { tmps := #[], defers := [] } hbY2 hbY3 hS4 hgY
    · refine step_load_us arr16 rfl (.tmp 4) rfl Bx rfl 247 x kX ?_
      refine hK _ _ ?_
      clear hK K
      refine wpAny_ready (rs := [0, 2]) (by kernel_rfl) (by simp) ?_
      refine AllReady.cons rfl (fun K hK => ?_) (AllReady.cons rfl (fun K hK => ?_) AllReady.nil)
      · refine step_load_us arr8 rfl (.tmp 3) rfl w1.heap.size rfl 242 st hS ?_
        refine hK _ _ ?_
        clear hK K
        refine wpAny_ready (rs := [2]) (by kernel_rfl) (by simp) ?_
        refine AllReady.cons rfl (fun K hK => ?_) AllReady.nil
        go_simp
        refine (schedule_any _ _).mono ?_
        rintro e Y2 ⟨rfl, hbY2⟩
        have hS2 := hS.below hbY2 hS.lt
        refine hK _ _ ?_
        clear hK K
        refine wpAny_ready (rs := [3]) (by kernel_rfl) (by simp) ?_
        refine AllReady.cons rfl (fun K hK => ?_) AllReady.nil
        go_simp
        refine (mix_any _ _ _).mono ?_
        rintro e Y3 ⟨rfl, hbY3⟩
        have hS3 := hS2.below hbY3 hS2.lt
        refine hK _ _ ?_
        clear hK K
        refine wpAny_ready (rs := [4]) (by kernel_rfl) (by simp) ?_
        refine AllReady.cons rfl (fun K hK => ?_) AllReady.nil
        refine step_store_us arr8 rfl (.tmp 3) (.tmp 16) rfl w1.heap.size rfl (mixed cb (sch x 48) st) rfl 242 st hS3 ?_
        intro Y4 hS4 hgY
        refine hK _ _ ?_
        clear hK K
        refine wpAny_done (by kernel_rfl) ?_ _
        exact hFin Y2 Y3 Y4 { tmps := #[], defers := [] } hbY2 hbY3 hS4 hgY
      · go_simp
        refine (schedule_any _ _).mono ?_
        rintro e Y2 ⟨rfl, hbY2⟩
        have hS2 := hS.below hbY2 hS.lt
        refine hK _ _ ?_
        clear hK K
        refine wpAny_ready (rs := [0]) (by kernel_rfl) (by simp) ?_
        refine AllReady.cons rfl (fun K hK => ?_) AllReady.nil
        refine step_load_us arr8 rfl (.tmp 3) rfl w1.heap.size rfl 242 st hS2 ?_
        refine hK _ _ ?_
        clear hK K
        refine wpAny_ready (rs := [3]) (by kernel_rfl) (by simp) ?_
        refine AllReady.cons rfl (fun K hK => ?_) AllReady.nil
        go_simp
        refine (mix_any _ _ _).mono ?_
        rintro e Y3 ⟨rfl, hbY3⟩
        have hS3 := hS2.below hbY3 hS2.lt
        refine hK _ _ ?_
        clear hK K
        refine wpAny_ready (rs := [4]) (by kernel_rfl) (by simp) ?_
        refine AllReady.cons rfl (fun K hK => ?_) AllReady.nil
        refine step_store_us arr8 rfl (.tmp 3) (.tmp 16) rfl w1.heap.size rfl (mixed cb (sch x 48) st) rfl 242 st hS3 ?_
        intro Y4 hS4 hgY
        refine hK _ _ ?_
        clear hK K
        refine wpAny_done (by kernel_rfl) ?_ _
        exact hFin Y2 Y3 Y4 { tmps := #[], defers := [] } hbY2 hbY3 hS4 hgY
  · rintro D X hD ⟨⟨hS, hsz⟩, hB⟩ hK
    rw [show (blkWords p N).length = N by simp [blkWords]] at hS
    have hst : Hid (sumL cb sq l = sumTo (sts cb p sq N) 8) := HS
    generalize sts cb p sq N = st at *
    gi_wp2_with (with_reducible refine arrIn_load arr8 rfl (.tmp 3) rfl w1.heap.size rfl 242 st hS ?_)
    gi_loopw [5, 18] (fun v i wr => ∃ k : Nat, k ≤ 8 ∧ i = .int .i64 k ∧ wr.ownsRow w.heap.size 5 1 v (4 * k) ((sumTo st k).map bv) ∧ wr.heap[D]? = some (.deferred (some [])) ∧ Below w.heap.size w wr) (fun _ i _ => 8 - (intOf i).toNat)
    case atStart => exact ⟨0, by omega, rfl, World.ownsRow_nil _ _ _ _, hK, hB⟩
    clear hS hB hK hsz
    case round =>
      obtain ⟨k, hk, rfl, hown, hD', hB⟩ := hrel
      obtain ⟨va, vc, rfl⟩ := ownsRow_slice hown
      have hNW := hB.size
      by_cases hlt : k < 8
      · have hix := run_index_us 242 8 und8 st k hlt
        have hk0 : (k : Int) < 8 := by omega
        gi_wp2_with (first
          | (refine ⟨trivial, ?_⟩; gi_at_call 72; refine (callsIn_wide.2 (num_any _ 4 (by omega) (by omega) _)).mono ?_; rintro e w5 ⟨s4, rfl, hs4, hb5⟩; rw [show clamp 4 = 4 from rfl] at hs4; have hown5 := own_below4 hown hb5; have hNW5 := Nat.le_trans hNW hb5.size; obtain ⟨a4, c4, rfl⟩ := bsl_slice hs4)
          | (gi_at_builtin; refine wpListIn_append_b _ rfl _ _ 80 rfl w.heap.size 5 i0 (.int .u8 0) Tryz.underlying80 hi hz0 hz1 hz2 rfl _ (4 * k) ((sumTo st k).map bv) rfl hown5 _ _ rfl hs4 (by rw [octs_length]; omega) hNW5 ?_; intro v6 w6 hown6 hgrow6))
        have hD5 : w5.heap[D]? = some (.deferred (some [])) := (hb5.block D (Array.getElem?_eq_some_iff.1 hD').1).trans hD'
        have hD6 : w6.heap[D]? = some (.deferred (some [])) := (hgrow6.block D (Array.getElem?_eq_some_iff.1 hD5).1 (fun e => by
          obtain ⟨cur, fr, hc⟩ := ownsRow_block hown5 D e.symm
          rw [hD5] at hc; cases hc)).trans hD5
        rw [octs_length, ← List.map_append] at hown6
        have hB6 : Below w.heap.size w w6 := (chain hB hb5).grown hgrow6 hNW5 (fun j hj => (World.ownsRow.lt hown5 j hj).1)
        go_roundw
        case rel => exact ⟨k + 1, by omega, by simp, hown6, hD6, hB6⟩
        case measure => simp [intOf]; omega
      · obtain rfl : k = 8 := by omega
        gi_wp2_with fail
        have hB' := hB.trans (belowK_b (w := w) (Nat.le_refl _) _ D _ (.deferred none) (by omega) hD' rfl rfl)
        have hown3 := ownsRow_putObj hown (.deferred none) hD' rfl
        refine ⟨by simp, .inl ⟨_, _, rfl, run_takeDeferred hD', ?_⟩⟩
        refine ⟨.slice va (4 * 8) vc, ?_, ?_⟩
        · simp [results, Tryz.f92, go_sem]
        · exact ⟨_, rfl, by rw [hst.out, sumTo_length]; exact hown3, hB'⟩
theorem sum_any (l : List UInt8) (sv : Value) (w : World) (hreach : l.length ≤ 140737488353000) (hsv : BSl 0 w.heap.size w sv l) :
    Calls Tryz.prog 92 #[sv] w (ByO (sumL cb sq l) w) := callsIn_wide.1 (sum_in 10 (by omega) l sv w hreach hsv)
end Go.Proofs.YtbjpifcgnombaaaGreat
namespace Go.Proofs.YtbjpifcgnombaaaGreat
open Go.RowKit Go.Shelf
def sumS (l : List UInt8) : ByteArray := ⟨(sumL cb sq l).toArray⟩
theorem sumS_size (l : List UInt8) : (sumS l).size = 32 := by
  show (sumL cb sq l).toArray.size = 32
  rw [List.size_toArray]
  exact sumTo_length _ 8
set_option maxRecDepth 100000 in
set_option maxHeartbeats 2000000 in
theorem text_any {o : Nat} (sv : Value) (w : World) (zs : List (SX o w.heap.size w)) (hreach : zs.length ≤ 140737488351232) (hfl : (flat zs).length ≤ 140737488353000) (hsv : SSl w.heap.size w sv zs) :
    Calls Tryz.prog 43 #[sv] w fun e W' => e = .returned (.string (sumS (flat zs))) ∧ Below w.heap.size w W' := by
  have hsv0 := hsv
  obtain ⟨a, cap, rfl, _⟩ := hsv
  go_enter Tryz.func43, Tryz.ntmps43
  go_wp2_with fail
  refine (cat_any _ _ zs hreach (by omega) hsv0).mono ?_
  rintro e w1 ⟨cv, rfl, hc, hb1⟩
  go_wp2_with fail
  refine (sum_any (flat zs) _ _ hfl (hc.mono (Nat.zero_le _) (Nat.le_refl _))).mono ?_
  rintro e w2 ⟨sv2, rfl, hown, hb2⟩
  have hcv := run_string (P := Tryz.prog) 80 5 9 Tryz.underlying80 Tryz.underlying5 Tryz.underlying9 w2 (BSl.of_own hown)
  go_wp2_with fail
  go_ret
  exact ⟨rfl, chain hb1 hb2⟩
end Go.Proofs.YtbjpifcgnombaaaGreat
namespace Go.Proofs.YtbjpifcgnombaaaGreat
open Go.RowKit Go.Shelf
set_option maxRecDepth 100000 in
set_option maxHeartbeats 2000000 in
theorem short_any {o : Nat} (sv : Value) (w : World) (zs : List (SX o w.heap.size w)) (hreach : zs.length ≤ 140737488351232) (hfl : (flat zs).length ≤ 140737488353000) (hsv : SSl w.heap.size w sv zs) :
    Calls Tryz.prog 228 #[sv] w fun e W' => e = .returned (.string ((sumS (flat zs)).extract 0 8)) ∧ Below w.heap.size w W' := by
  have hsv0 := hsv
  obtain ⟨a, cap, rfl, _⟩ := hsv
  go_enter Tryz.func228, Tryz.ntmps228
  go_wp2_with fail
  refine (text_any _ _ zs hreach hfl hsv0).mono ?_
  rintro e w1 ⟨rfl, hb1⟩
  have h8 : 8 ≤ (sumS (flat zs)).size := by rw [sumS_size]; omega
  have h8' : (8 : Int) ≤ ((sumS (flat zs)).size : Int) := by omega
  generalize hs : sumS (flat zs) = s at *
  have HS := Lib.hid hs
  clear hs
  go_wp2_with fail
  go_ret
  exact ⟨by rw [HS.out]; rfl, hb1⟩
end Go.Proofs.YtbjpifcgnombaaaGreat
namespace Go.Proofs.YtbjpifcgnombaaaGreat
open Go.RowKit Go.Shelf
def shortB (l : List UInt8) : ByteArray := (sumS l).extract 0 8
theorem shortB_list (l : List UInt8) : (shortB l).data.toList = (sumL cb sq l).take 8 := by
  unfold shortB sumS
  simp [ByteArray.extract, ByteArray.copySlice]
theorem shortB_size (l : List UInt8) : (shortB l).size = 8 := by
  show (shortB l).data.size = 8
  rw [← Array.length_toList, shortB_list, List.length_take, show (sumL cb sq l).length = 32 from sumTo_length _ 8]
  rfl
theorem sx_list {o n : Nat} {w : World} : ∀ (vls : List (Value × List UInt8)), (∀ p ∈ vls, BSl 0 n w p.1 p.2 ∧ p.2.length ≤ o) → ∃ zs : List (SX o n w), zs.map (fun x => x.1) = vls
  | [], _ => ⟨[], rfl⟩
  | p :: vls, h => by
    obtain ⟨zs, hz⟩ := sx_list vls (fun q hq => h q (List.mem_cons_of_mem _ hq))
    exact ⟨⟨p, h p List.mem_cons_self⟩ :: zs, by rw [List.map_cons, hz]⟩
theorem flat_of {o n : Nat} {w : World} {zs : List (SX o n w)} {vls : List (Value × List UInt8)} (h : zs.map (fun x => x.1) = vls) : flat zs = (vls.map (·.2)).flatten := by
  rw [← h, List.map_map]; rfl
theorem short_of (W : World) (sv : Value) (vls : List (Value × List UInt8)) (hn : vls.length ≤ 1000000) (h : ∀ p ∈ vls, BSl 0 W.heap.size W p.1 p.2 ∧ p.2.length ≤ 140737488353000) (hfl : (vls.map (·.2)).flatten.length ≤ 140737488353000) (hsv : VSl 0 W.heap.size W sv (vls.map (·.1))) :
    Calls Tryz.prog 228 #[sv] W fun e W' => e = .returned (.string (shortB (vls.map (·.2)).flatten)) ∧ Below W.heap.size W W' := by
  obtain ⟨zs, hz⟩ := sx_list (o := 140737488353000) vls h
  have hl : zs.length = vls.length := by rw [← hz, List.length_map]
  have hf := flat_of hz
  have := short_any sv W zs (by omega) (by rw [hf]; exact hfl) (by
    obtain ⟨a, cap, e, _, h0⟩ := hsv
    refine ⟨a, cap, by rw [e, List.length_map, hl], ?_⟩
    rcases h0 with h0 | ⟨b, off, ha, _, hb, hr⟩
    · left
      apply List.eq_nil_of_length_eq_zero
      rw [hl]
      simpa using congrArg List.length h0
    · refine .inr ⟨b, off, ha, hb, fun k x hx => hr k _ ?_⟩
      rw [List.getElem?_map, ← hz, List.getElem?_map, hx]
      rfl)
  rw [hf] at this
  exact this
theorem short_one (W : World) (v : Value) (l : List UInt8) (h : BSl 0 W.heap.size W v l) (hl : l.length ≤ 140737488353000) :
    Calls Tryz.prog 228 #[.slice (some ⟨W.heap.size, 0, none⟩) 1 1] (W.alloc (.cells #[v] 80)) fun e W' => e = .returned (.string (shortB l)) ∧ Below W.heap.size W W' := by
  have hb : Below W.heap.size W (W.alloc (.cells #[v] 80)) := chain0 _ _
  have hs := short_of (W.alloc (.cells #[v] 80)) (.slice (some ⟨W.heap.size, 0, none⟩) 1 1) [(v, l)] (by simp) (fun p hp => by
    rw [List.mem_singleton] at hp
    subst hp
    exact ⟨(h.below hb (Nat.le_refl _)).mono (Nat.le_refl _) hb.size, hl⟩) (by simpa using hl) ⟨_, 1, rfl, Nat.le_refl _, .inr ⟨_, 0, rfl, Nat.zero_le _, by simp, fun k x hx => by
      have hk : k = 0 := by have := (List.getElem?_eq_some_iff.1 hx).1; simp at this; omega
      subst hk
      cases hx
      exact (Boxed.new W 80 v).cell⟩⟩
  refine hs.mono fun e W' ⟨he, hb2⟩ => ⟨?_, chain hb hb2⟩
  rw [he]
  simp
def linkB (s : ByteArray) : Nat → ByteArray
  | 0 => s
  | k + 1 => shortB (linkB s k).data.toList
theorem linkB_size (s : ByteArray) (k : Nat) : (linkB s k).size ≤ max s.size 8 := by
  cases k with
  | zero => exact Nat.le_max_left _ _
  | succ k => rw [show linkB s (k + 1) = shortB _ from rfl, shortB_size]; exact Nat.le_max_right _ _
end Go.Proofs.YtbjpifcgnombaaaGreat
namespace Go.Proofs.YtbjpifcgnombaaaGreat
open Go.RowKit Go.Shelf
theorem own_same {W W' : World} {base : Nat} {e : TypeId} {size k : Nat} {v : Value} {xs : List Value} (h : W.ownsRow base e size v k xs) (hk : ∀ g, v.ownBlock = some g → W'.heap[g]? = W.heap[g]?) : W'.ownsRow base e size v k xs := by
  obtain ⟨h1, h2⟩ := h
  refine ⟨h1, ?_⟩
  rcases h2 with h2 | ⟨g, cap, cur, rfl, hb, hh, r⟩
  · exact .inl h2
  · exact .inr ⟨g, cap, cur, rfl, hb, (hk g rfl).trans hh, r⟩
theorem own_below {W W' : World} {base : Nat} {e : TypeId} {size k : Nat} {v : Value} {xs : List Value} (h : W.ownsRow base e size v k xs) (hb : Below W.heap.size W W') : W'.ownsRow base e size v k xs :=
  own_same h fun g hg => hb.block g (World.ownsRow.lt h g hg).2
theorem own_turn {W W' : World} {row : Option Nat} {base : Nat} {e : TypeId} {size k : Nat} {v : Value} {xs : List Value} (h : W.ownsRow base e size v k xs) (hg : W.grownBy W' row) (hrow : ∀ r, row = some r → ∃ o : Obj, W.heap[r]? = some o ∧ o.isCells = false) : W'.ownsRow base e size v k xs :=
  own_same h fun g hgb => hg.block g (World.ownsRow.lt h g hgb).2 (fun e' => by
    obtain ⟨o, ho, hc⟩ := hrow g e'.symm
    obtain ⟨cur, fr, hcc⟩ := ownsRow_block h g hgb
    rw [hcc] at ho; cases ho; cases hc)
theorem own_base {W : World} {base base' : Nat} {e : TypeId} {size k : Nat} {v : Value} {xs : List Value} (h : W.ownsRow base e size v k xs) (hb : base' ≤ base) : W.ownsRow base' e size v k xs := by
  obtain ⟨h1, h2⟩ := h
  refine ⟨h1, ?_⟩
  rcases h2 with h2 | ⟨g, cap, cur, rfl, hg, r⟩
  · exact .inl h2
  · exact .inr ⟨g, cap, cur, rfl, Nat.le_trans hb hg, r⟩
def Pieces (N : Nat) (W : World) (vs : List Value) (bs : List (List UInt8)) : Prop := vs.length = bs.length ∧ ∀ (k : Nat) (v : Value) (b : List UInt8), vs[k]? = some v → bs[k]? = some b → W.ownsRow N 5 1 v b.length (b.map bv)
theorem Pieces.to {N : Nat} {W W' : World} {vs : List Value} {bs : List (List UInt8)} (h : Pieces N W vs bs) (hk : ∀ v b, W.ownsRow N 5 1 v b.length (b.map bv) → W'.ownsRow N 5 1 v (b : List UInt8).length (b.map bv)) : Pieces N W' vs bs :=
  ⟨h.1, fun k v b hv hb => hk v b (h.2 k v b hv hb)⟩
theorem Pieces.snoc {N : Nat} {W : World} {vs : List Value} {bs : List (List UInt8)} (h : Pieces N W vs bs) {v : Value} {b : List UInt8} (hb : W.ownsRow N 5 1 v b.length (b.map bv)) : Pieces N W (vs ++ [v]) (bs ++ [b]) :=
  ⟨by simp [h.1], fun k v' b' hv hb' => by
    by_cases hk : k < vs.length
    · rw [List.getElem?_append_left hk] at hv
      rw [List.getElem?_append_left (by rw [← h.1]; exact hk)] at hb'
      exact h.2 k v' b' hv hb'
    · have hkl : k = vs.length := by have := (List.getElem?_eq_some_iff.1 hv).1; simp at this; omega
      subst hkl
      rw [List.getElem?_append_right (Nat.le_refl _)] at hv
      rw [List.getElem?_append_right (by rw [h.1]; exact Nat.le_refl _), h.1] at hb'
      simp at hv hb'
      rw [← hv, ← hb']; exact hb⟩
end Go.Proofs.YtbjpifcgnombaaaGreat
namespace Go.Proofs.YtbjpifcgnombaaaGreat
open Go.RowKit
theorem wpIn_fence_any {F : Fence} {n id : Nat} {P : Program} {Q : Exit → Act → World → Prop} {a : Act} {w : World} {l : List Oper} (hm : P.follows .mixedOrders = true)
    (h : wpAnyIn F n P .any l.toArray (Exit.then (fun a w => Q .normal a w) (fun _ _ _ => False)) l.length (Array.replicate l.length false) a w.drew) : (Code.region id l.toArray true).wpIn F n P Q a w := by
  refine wpIn_mono (wpIn_region_any (Q := Exit.then (fun a w => Q .normal a w) (fun _ _ _ => False)) hm (by simpa using h)) ?_
  intro e a w hq
  cases e <;> first | exact hq | exact hq.elim
end Go.Proofs.YtbjpifcgnombaaaGreat
namespace Go.Proofs.YtbjpifcgnombaaaGreat
open Go.RowKit Go.Shelf
attribute [local go_sem] Oper.semAt_some
theorem short_three (W : World) (v1 v2 v3 : Value) (l1 l2 l3 : List UInt8) (h1 : BSl 0 W.heap.size W v1 l1) (h2 : BSl 0 W.heap.size W v2 l2) (h3 : BSl 0 W.heap.size W v3 l3) (hl : l1.length + l2.length + l3.length ≤ 140737488353000) :
    Calls Tryz.prog 228 #[.slice (some ⟨W.heap.size, 0, none⟩) 3 3] (W.alloc (.cells #[v1, v2, v3] 80)) fun e W' => e = .returned (.string (shortB (l1 ++ (l2 ++ l3)))) ∧ Below W.heap.size W W' := by
  have hb : Below W.heap.size W (W.alloc (.cells #[v1, v2, v3] 80)) := chain0 _ _
  have up : ∀ {v : Value} {l : List UInt8}, BSl 0 W.heap.size W v l → BSl 0 (W.alloc (.cells #[v1, v2, v3] 80)).heap.size (W.alloc (.cells #[v1, v2, v3] 80)) v l := fun h => (h.below hb (Nat.le_refl _)).mono (Nat.le_refl _) hb.size
  have hs := short_of (W.alloc (.cells #[v1, v2, v3] 80)) (.slice (some ⟨W.heap.size, 0, none⟩) 3 3) [(v1, l1), (v2, l2), (v3, l3)] (by simp) (fun p hp => by
    simp only [List.mem_cons, List.not_mem_nil, or_false] at hp
    rcases hp with rfl | rfl | rfl
    · exact ⟨up h1, by show l1.length ≤ _; omega⟩
    · exact ⟨up h2, by show l2.length ≤ _; omega⟩
    · exact ⟨up h3, by show l3.length ≤ _; omega⟩) (by simp; omega) ⟨_, 3, rfl, Nat.le_refl _, .inr ⟨_, 0, rfl, Nat.zero_le _, by simp, fun k x hx => by
      have hB : Blk (W.alloc (.cells #[v1, v2, v3] 80)) W.heap.size 80 [v1, v2, v3] := Blk.new W _ [v1, v2, v3]
      rw [Nat.zero_add, hB.cell]
      exact hx⟩⟩
  refine hs.mono fun e W' ⟨he, hb2⟩ => ⟨?_, chain hb hb2⟩
  rw [he]
  simp
def lfN (z : Int) : Nat := if z ≤ 0 then 0 else if 65535 ≤ z then 65535 else z.toNat
theorem lfN_cases (z : Int) : (z < 0 ∧ (lfN z : Int) = 0) ∨ (0 ≤ z ∧ z ≤ 65535 ∧ (lfN z : Int) = z) ∨ (65535 < z ∧ (lfN z : Int) = 65535) := by
  unfold lfN
  by_cases h1 : z < 0
  · left; rw [if_pos (by omega)]; exact ⟨h1, rfl⟩
  · by_cases h2 : z ≤ 65535
    · right; left
      refine ⟨by omega, h2, ?_⟩
      split <;> (try split) <;> omega
    · right; right
      rw [if_neg (by omega), if_pos (by omega)]; exact ⟨by omega, rfl⟩
theorem lfN_le (z : Int) : lfN z ≤ 65535 := by unfold lfN; split <;> (try split) <;> omega
def begB (s : ByteArray) (f j : Nat) : ByteArray := shortB (s.data.toList ++ (octs (two (f : Int)) 2 ++ octs (two (j : Int)) 1))
def begs (s : ByteArray) (f : Nat) : List ByteArray := (List.range 15).map (begB s f)
theorem begs_length (s : ByteArray) (f : Nat) : (begs s f).length = 15 := by simp [begs]
theorem begs_at (s : ByteArray) (f : Nat) {k : Nat} (h : k < 15) : (begs s f)[k]? = some (begB s f k) := by unfold begs; rw [List.getElem?_map, List.getElem?_range h]; rfl
set_option maxRecDepth 100000 in
set_option maxHeartbeats 8000000 in
theorem beginnings1_rel (m : Nat) (hm : 1 ≤ m) (s : ByteArray) (hs : s.size ≤ 140737488352000) (z : Int) (n₀ B Bs Bl : Nat) (w : World) (hB : B < w.heap.size) (hBs : Bs < n₀)
    (ks : Boxed w Bs 9 (.string s)) (kl : Boxed w Bl 3 (.int .i64 z)) :
    SeqRel Fence.wide m Tryz.prog 324 #[.pointer (some ⟨Bl, 0, none⟩), .pointer (some ⟨Bs, 0, none⟩)] 15 (fun k r _ => ∃ y : ByteArray, (begs s (lfN z))[k]? = some y ∧ r = #[tv y]) (fun l A B' => Below n₀ A B' ∧ ButRows 9 B l A B') w := fun l J W hW hl0 hlW hJ hY h0 => by
  have hmx : Tryz.prog.follows .mixedOrders = true := by kernel_rfl
  have hcs : Boxed W Bs 9 (.string s) := (hW.block Bs ks.lt).trans ks
  have hcl : Boxed W Bl 3 (.int .i64 z) := (hW.block Bl kl.lt).trans kl
  have hwW := hW.size
  have h1 : 1 ≤ m := hm
  have cl := hcl.cell
  have cs := hcs.cell
  have hCC := lfN_cases z
  have hf5 := lfN_le z
  generalize lfN z = f at *
  refine callsIn_of_wp Tryz.func324 rfl trivial ?_ rfl
  simp only [Tryz.ntmps324, List.size_toArray, List.length_cons, List.length_nil, Nat.reduceAdd, Nat.reduceSub, Array.replicate_succ, Array.replicate_zero, List.push_toArray, List.append_toArray, List.nil_append, List.cons_append]
  obtain ⟨u, hq1, hq2⟩ : ∃ u : Int, (if z < 0 then (0 : Int) else z) = u ∧ (if 65535 < u then (65535 : Int) else u) = (f : Int) := by
    refine ⟨_, rfl, ?_⟩
    rcases hCC with ⟨hc0, hC⟩ | ⟨hc0, hc8, hC⟩ | ⟨hc8, hC⟩
    · rw [hC, if_pos hc0]; rfl
    · rw [hC, if_neg (show ¬ z < 0 by omega), if_neg (by omega)]
    · rw [hC, if_neg (show ¬ z < 0 by omega), if_pos (by omega)]
  clear hCC
  clear hf5
  have HQ1 := Lib.hid hq1
  gi_wp2_with fail
  refine ⟨trivial, ?_⟩
  refine (callsIn_wide.2 (numO_any (f : Int) 2 (by omega) (by omega) _)).mono ?_
  rintro e w2 ⟨v2, rfl, hown2, hb2⟩
  rw [show clamp 2 = 2 from rfl, octs_length] at hown2
  obtain ⟨g2, c2, rfl⟩ := ownsRow_succ hown2
  clear cl cs hq1 hq2 HQ1
  gi_wp2_with fail
  gi_loopw [10] (fun i wr => ∃ k : Nat, k ≤ 15 ∧ i = .int .i64 (k : Nat) ∧ J k wr ∧ Boxed wr Bs 9 (.string s) ∧ wr.ownsRow W.heap.size 5 1 (.slice (some ⟨g2, 0, none⟩) (1 + 1) c2) 2 ((octs (two (f : Int)) 2).map bv) ∧ W.heap.size ≤ wr.heap.size) (fun i _ => 15 - (intOf i).toNat)
  case atStart => exact ⟨0, by omega, rfl, hJ 0 W w2 none h0 (grown_of_below hb2) (by simp), (hb2.block Bs hcs.lt).trans hcs, hown2, hb2.size⟩
  clear h0 hcs hcl hown2 hb2
  case round =>
    obtain ⟨k, hk, rfl, hJk, hbs, hown2, hsz⟩ := hrel
    by_cases hlt : k < 15
    · have hlt' : (k : Int) < 15 := by omega
      gi_wp2_with fail
      refine wpIn_fence_any hmx ?_
      change wpAnyIn _ _ _ _ _ _ _ _ _ wr.drew
      replace hJk := hJ k wr wr.drew none hJk ⟨rfl, rfl, rfl, Nat.le_refl _, fun _ _ _ => rfl⟩ (by simp)
      replace hbs : Boxed wr.drew Bs 9 (.string s) := hbs
      replace hown2 : wr.drew.ownsRow W.heap.size 5 1 (.slice (some ⟨g2, 0, none⟩) (1 + 1) c2) 2 ((octs (two (f : Int)) 2).map bv) := hown2
      replace hsz : W.heap.size ≤ wr.drew.heap.size := hsz
      generalize wr.drew = Y at *
      refine' wpAnyIn_take (i := 0) (oi := _) (v := _) rfl ?hi1 (by kernel_rfl) (by kernel_rfl) (by kernel_rfl) ?hQ1 ⟨Or.inl ⟨?hw1, ?hy1⟩, ?ha1⟩ ?rest1
      case hi1 => simp only [List.getElem?_toArray, List.getElem?_cons_zero]; rfl
      case hQ1 => exact fun _ _ _ h => h
      case hw1 => rfl
      case hy1 => intro W'; go_simp; with_reducible rfl
      case ha1 => intro W'; rfl
      try simp only [Act.put, List.setIfInBounds_toArray, List.set_cons_zero, List.set_cons_succ]
      refine' wpAnyIn_take (i := 3) (oi := _) (v := _) rfl ?hi2 (by kernel_rfl) (by kernel_rfl) (by kernel_rfl) ?hQ2 ⟨Or.inl ⟨?hw2, ?hy2⟩, ?ha2⟩ ?rest2
      case hi2 => simp only [List.getElem?_toArray, List.getElem?_cons_succ, List.getElem?_cons_zero]; rfl
      case hQ2 => exact fun _ _ _ h => h
      case hw2 => rfl
      case hy2 => intro W'; go_simp; with_reducible rfl
      case ha2 => intro W'; rfl
      try simp only [Act.put, List.setIfInBounds_toArray, List.set_cons_zero, List.set_cons_succ]
      refine' wpAnyIn_take (i := 4) (oi := _) (v := _) rfl ?hi3 (by kernel_rfl) (by kernel_rfl) (by kernel_rfl) ?hQ3 ⟨Or.inl ⟨?hw3, ?hy3⟩, ?ha3⟩ ?rest3
      case hi3 => simp only [List.getElem?_toArray, List.getElem?_cons_succ, List.getElem?_cons_zero]; rfl
      case hQ3 => exact fun _ _ _ h => h
      case hw3 => rfl
      case hy3 => intro W'; go_simp; with_reducible rfl
      case ha3 => intro W'; rfl
      try simp only [Act.put, List.setIfInBounds_toArray, List.set_cons_zero, List.set_cons_succ]
      refine wpAnyIn_ready (rs := [1, 5]) (by kernel_rfl) (by simp) ?_
      refine' AllReadyIn.cons (o := _) ?ho5 (fun K hK => ?st5) (AllReadyIn.cons (o := _) ?ho4 (fun K hK => ?st4) AllReadyIn.nil)
      case ho5 => simp only [List.getElem?_toArray, List.getElem?_cons_succ, List.getElem?_cons_zero]; rfl
      case ho4 => simp only [List.getElem?_toArray, List.getElem?_cons_succ, List.getElem?_cons_zero]; rfl
      case st5 =>
        have cs := hbs.cell
        go_simp
        clear cs
        refine hK _ _ ?_
        clear hK K
        try simp only [Act.put, List.setIfInBounds_toArray, List.set_cons_zero, List.set_cons_succ]
        refine wpAnyIn_ready (rs := [2, 5]) (by kernel_rfl) (by simp) ?_
        refine' AllReadyIn.cons (o := _) ?ho7 (fun K hK => ?st7) (AllReadyIn.cons (o := _) ?ho6 (fun K hK => ?st6) AllReadyIn.nil)
        case ho7 => simp only [List.getElem?_toArray, List.getElem?_cons_succ, List.getElem?_cons_zero]; rfl
        case ho6 => simp only [List.getElem?_toArray, List.getElem?_cons_succ, List.getElem?_cons_zero]; rfl
        case st7 =>
          obtain ⟨c1, Y1, hcv, hc1, hb, hz1, ho1⟩ := conv_bytes Y s
          go_simp
          clear hcv
          refine hK _ _ ?_
          clear hK K
          try simp only [Act.put, List.setIfInBounds_toArray, List.set_cons_zero, List.set_cons_succ]
          have hv1 := (conv_bsl hc1 hz1 ho1).mono (Nat.zero_le _) (Nat.le_refl _)
          clear hc1 hz1 ho1
          replace hJk := hJ k Y Y1 none hJk (grown_of_below hb) (by simp)
          replace hbs : Boxed Y1 Bs 9 (.string s) := (hb.block Bs hbs.lt).trans hbs
          replace hown2 := own_below4 hown2 hb
          replace hsz := Nat.le_trans hsz hb.size
          clear hb
          refine wpAnyIn_ready (rs := [5]) (by kernel_rfl) (by simp) ?_
          refine' AllReadyIn.cons (o := _) ?ho8 (fun K hK => ?st8) AllReadyIn.nil
          case ho8 => simp only [List.getElem?_toArray, List.getElem?_cons_succ, List.getElem?_cons_zero]; rfl
          case st8 =>
            go_simp
            refine ⟨trivial, ?_⟩
            refine (callsIn_wide.2 (num_any (k : Int) 1 (by omega) (by omega) _)).mono ?_
            rintro e Y2 ⟨v3, rfl, hv3, hb⟩
            rw [show clamp 1 = 1 from rfl] at hv3
            replace hv3 := hv3.mono (Nat.zero_le _) (Nat.le_refl _)
            obtain ⟨a3, c3, rfl⟩ := bsl_slice hv3
            refine hK _ _ ?_
            clear hK K
            try simp only [Act.put, List.setIfInBounds_toArray, List.set_cons_zero, List.set_cons_succ]
            replace hJk := hJ k Y1 Y2 none hJk (grown_of_below hb) (by simp)
            replace hbs : Boxed Y2 Bs 9 (.string s) := (hb.block Bs hbs.lt).trans hbs
            replace hown2 := own_below4 hown2 hb
            replace hsz := Nat.le_trans hsz hb.size
            replace hv1 := (hv1.below hb (Nat.le_refl _)).mono (Nat.le_refl _) hb.size
            clear hb
            refine wpAnyIn_ready (rs := [6]) (by kernel_rfl) (by simp) ?_
            refine' AllReadyIn.cons (o := _) ?ho9 (fun K hK => ?st9) AllReadyIn.nil
            case ho9 => simp only [List.getElem?_toArray, List.getElem?_cons_succ, List.getElem?_cons_zero]; rfl
            case st9 =>
              go_simp
              refine hK _ _ ?_
              clear hK K
              try simp only [Act.put, List.setIfInBounds_toArray, List.set_cons_zero, List.set_cons_succ]
              refine wpAnyIn_ready (rs := [7]) (by kernel_rfl) (by simp) ?_
              refine' AllReadyIn.cons (o := _) ?ho10 (fun K hK => ?st10) AllReadyIn.nil
              case ho10 => simp only [List.getElem?_toArray, List.getElem?_cons_succ, List.getElem?_cons_zero]; rfl
              case st10 =>
                go_simp
                refine ⟨trivial, ?_⟩
                have hv2 := (BSl.of_own (l := octs (two (f : Int)) 2) (by rw [octs_length]; exact hown2)).mono (Nat.zero_le _) (Nat.le_refl _)
                refine (callsIn_wide.2 (short_three Y2 _ _ _ s.data.toList (octs (two (f : Int)) 2) (octs (two (k : Int)) 1) hv1 hv2 hv3 (by rw [octs_length, octs_length]; have : s.data.toList.length = s.size := rfl; omega))).mono ?_
                clear hv2
                rintro e Y3 ⟨rfl, hb⟩
                refine hK _ _ ?_
                clear hK K
                try simp only [Act.put, List.setIfInBounds_toArray, List.set_cons_zero, List.set_cons_succ]
                replace hJk := hJ k Y2 Y3 none hJk (grown_of_below hb) (by simp)
                replace hbs : Boxed Y3 Bs 9 (.string s) := (hb.block Bs hbs.lt).trans hbs
                replace hown2 := own_below4 hown2 hb
                replace hsz := Nat.le_trans hsz hb.size
                clear hb hv1 hv3
                refine wpAnyIn_ready (rs := [8]) (by kernel_rfl) (by simp) ?_
                refine' AllReadyIn.cons (o := _) ?ho11 (fun K hK => ?st11) AllReadyIn.nil
                case ho11 => simp only [List.getElem?_toArray, List.getElem?_cons_succ, List.getElem?_cons_zero]; rfl
                case st11 =>
                  obtain ⟨fn, tmps, assign, body, hy, hR⟩ := hY k #[tv (begB s f k)] Y3 hlt ⟨_, begs_at s f hlt, rfl⟩ hJk
                  simp only [tv, begB] at hy
                  go_simp
                  clear hy
                  refine hR.mono ?_
                  rintro e Y4 ⟨rfl, hJ4, hkp1, hkp2⟩
                  refine hK _ _ ?_
                  clear hK K
                  try simp only [Act.put, List.setIfInBounds_toArray, List.set_cons_zero, List.set_cons_succ]
                  refine wpAnyIn_ready (rs := [9]) (by kernel_rfl) (by simp) ?_
                  refine' AllReadyIn.cons (o := _) ?ho12 (fun K hK => ?st12) AllReadyIn.nil
                  case ho12 => simp only [List.getElem?_toArray, List.getElem?_cons_succ, List.getElem?_cons_zero]; rfl
                  case st12 =>
                    go_simp
                    refine hK _ _ ?_
                    clear hK K
                    try simp only [Act.put, List.setIfInBounds_toArray, List.set_cons_zero, List.set_cons_succ]
                    refine wpAnyIn_done (by kernel_rfl) ?_ _
                    replace hbs : Boxed Y4 Bs 9 (.string s) := (hkp1.block Bs hBs).trans hbs
                    replace hown2 := own_butRows hown2 hkp2 (by decide) (by omega) (by omega)
                    replace hsz := Nat.le_trans hsz hkp1.size
                    clear hR hkp1 hkp2
                    gi_wp2_with fail
                    go_roundw
                    case rel => exact ⟨k + 1, by omega, by simp, hJ4, hbs, hown2, hsz⟩
                    case measure => simp [intOf]; omega
        case st6 =>
          go_simp
          refine ⟨trivial, ?_⟩
          refine (callsIn_wide.2 (num_any (k : Int) 1 (by omega) (by omega) _)).mono ?_
          rintro e Y1 ⟨v3, rfl, hv3, hb⟩
          rw [show clamp 1 = 1 from rfl] at hv3
          replace hv3 := hv3.mono (Nat.zero_le _) (Nat.le_refl _)
          obtain ⟨a3, c3, rfl⟩ := bsl_slice hv3
          refine hK _ _ ?_
          clear hK K
          try simp only [Act.put, List.setIfInBounds_toArray, List.set_cons_zero, List.set_cons_succ]
          replace hJk := hJ k Y Y1 none hJk (grown_of_below hb) (by simp)
          replace hbs : Boxed Y1 Bs 9 (.string s) := (hb.block Bs hbs.lt).trans hbs
          replace hown2 := own_below4 hown2 hb
          replace hsz := Nat.le_trans hsz hb.size
          clear hb
          refine wpAnyIn_ready (rs := [2]) (by kernel_rfl) (by simp) ?_
          refine' AllReadyIn.cons (o := _) ?ho13 (fun K hK => ?st13) AllReadyIn.nil
          case ho13 => simp only [List.getElem?_toArray, List.getElem?_cons_succ, List.getElem?_cons_zero]; rfl
          case st13 =>
            obtain ⟨c1, Y2, hcv, hc1, hb, hz1, ho1⟩ := conv_bytes Y1 s
            go_simp
            clear hcv
            refine hK _ _ ?_
            clear hK K
            try simp only [Act.put, List.setIfInBounds_toArray, List.set_cons_zero, List.set_cons_succ]
            have hv1 := (conv_bsl hc1 hz1 ho1).mono (Nat.zero_le _) (Nat.le_refl _)
            clear hc1 hz1 ho1
            replace hJk := hJ k Y1 Y2 none hJk (grown_of_below hb) (by simp)
            replace hbs : Boxed Y2 Bs 9 (.string s) := (hb.block Bs hbs.lt).trans hbs
            replace hown2 := own_below4 hown2 hb
            replace hsz := Nat.le_trans hsz hb.size
            replace hv3 := (hv3.below hb (Nat.le_refl _)).mono (Nat.le_refl _) hb.size
            clear hb
            refine wpAnyIn_ready (rs := [6]) (by kernel_rfl) (by simp) ?_
            refine' AllReadyIn.cons (o := _) ?ho14 (fun K hK => ?st14) AllReadyIn.nil
            case ho14 => simp only [List.getElem?_toArray, List.getElem?_cons_succ, List.getElem?_cons_zero]; rfl
            case st14 =>
              go_simp
              refine hK _ _ ?_
              clear hK K
              try simp only [Act.put, List.setIfInBounds_toArray, List.set_cons_zero, List.set_cons_succ]
              refine wpAnyIn_ready (rs := [7]) (by kernel_rfl) (by simp) ?_
              refine' AllReadyIn.cons (o := _) ?ho15 (fun K hK => ?st15) AllReadyIn.nil
              case ho15 => simp only [List.getElem?_toArray, List.getElem?_cons_succ, List.getElem?_cons_zero]; rfl
              case st15 =>
                go_simp
                refine ⟨trivial, ?_⟩
                have hv2 := (BSl.of_own (l := octs (two (f : Int)) 2) (by rw [octs_length]; exact hown2)).mono (Nat.zero_le _) (Nat.le_refl _)
                refine (callsIn_wide.2 (short_three Y2 _ _ _ s.data.toList (octs (two (f : Int)) 2) (octs (two (k : Int)) 1) hv1 hv2 hv3 (by rw [octs_length, octs_length]; have : s.data.toList.length = s.size := rfl; omega))).mono ?_
                clear hv2
                rintro e Y3 ⟨rfl, hb⟩
                refine hK _ _ ?_
                clear hK K
                try simp only [Act.put, List.setIfInBounds_toArray, List.set_cons_zero, List.set_cons_succ]
                replace hJk := hJ k Y2 Y3 none hJk (grown_of_below hb) (by simp)
                replace hbs : Boxed Y3 Bs 9 (.string s) := (hb.block Bs hbs.lt).trans hbs
                replace hown2 := own_below4 hown2 hb
                replace hsz := Nat.le_trans hsz hb.size
                clear hb hv1 hv3
                refine wpAnyIn_ready (rs := [8]) (by kernel_rfl) (by simp) ?_
                refine' AllReadyIn.cons (o := _) ?ho16 (fun K hK => ?st16) AllReadyIn.nil
                case ho16 => simp only [List.getElem?_toArray, List.getElem?_cons_succ, List.getElem?_cons_zero]; rfl
                case st16 =>
                  obtain ⟨fn, tmps, assign, body, hy, hR⟩ := hY k #[tv (begB s f k)] Y3 hlt ⟨_, begs_at s f hlt, rfl⟩ hJk
                  simp only [tv, begB] at hy
                  go_simp
                  clear hy
                  refine hR.mono ?_
                  rintro e Y4 ⟨rfl, hJ4, hkp1, hkp2⟩
                  refine hK _ _ ?_
                  clear hK K
                  try simp only [Act.put, List.setIfInBounds_toArray, List.set_cons_zero, List.set_cons_succ]
                  refine wpAnyIn_ready (rs := [9]) (by kernel_rfl) (by simp) ?_
                  refine' AllReadyIn.cons (o := _) ?ho17 (fun K hK => ?st17) AllReadyIn.nil
                  case ho17 => simp only [List.getElem?_toArray, List.getElem?_cons_succ, List.getElem?_cons_zero]; rfl
                  case st17 =>
                    go_simp
                    refine hK _ _ ?_
                    clear hK K
                    try simp only [Act.put, List.setIfInBounds_toArray, List.set_cons_zero, List.set_cons_succ]
                    refine wpAnyIn_done (by kernel_rfl) ?_ _
                    replace hbs : Boxed Y4 Bs 9 (.string s) := (hkp1.block Bs hBs).trans hbs
                    replace hown2 := own_butRows hown2 hkp2 (by decide) (by omega) (by omega)
                    replace hsz := Nat.le_trans hsz hkp1.size
                    clear hR hkp1 hkp2
                    gi_wp2_with fail
                    go_roundw
                    case rel => exact ⟨k + 1, by omega, by simp, hJ4, hbs, hown2, hsz⟩
                    case measure => simp [intOf]; omega
      case st4 =>
        go_simp
        refine ⟨trivial, ?_⟩
        refine (callsIn_wide.2 (num_any (k : Int) 1 (by omega) (by omega) _)).mono ?_
        rintro e Y1 ⟨v3, rfl, hv3, hb⟩
        rw [show clamp 1 = 1 from rfl] at hv3
        replace hv3 := hv3.mono (Nat.zero_le _) (Nat.le_refl _)
        obtain ⟨a3, c3, rfl⟩ := bsl_slice hv3
        refine hK _ _ ?_
        clear hK K
        try simp only [Act.put, List.setIfInBounds_toArray, List.set_cons_zero, List.set_cons_succ]
        replace hJk := hJ k Y Y1 none hJk (grown_of_below hb) (by simp)
        replace hbs : Boxed Y1 Bs 9 (.string s) := (hb.block Bs hbs.lt).trans hbs
        replace hown2 := own_below4 hown2 hb
        replace hsz := Nat.le_trans hsz hb.size
        clear hb
        refine wpAnyIn_ready (rs := [1]) (by kernel_rfl) (by simp) ?_
        refine' AllReadyIn.cons (o := _) ?ho18 (fun K hK => ?st18) AllReadyIn.nil
        case ho18 => simp only [List.getElem?_toArray, List.getElem?_cons_succ, List.getElem?_cons_zero]; rfl
        case st18 =>
          have cs := hbs.cell
          go_simp
          clear cs
          refine hK _ _ ?_
          clear hK K
          try simp only [Act.put, List.setIfInBounds_toArray, List.set_cons_zero, List.set_cons_succ]
          refine wpAnyIn_ready (rs := [2]) (by kernel_rfl) (by simp) ?_
          refine' AllReadyIn.cons (o := _) ?ho19 (fun K hK => ?st19) AllReadyIn.nil
          case ho19 => simp only [List.getElem?_toArray, List.getElem?_cons_succ, List.getElem?_cons_zero]; rfl
          case st19 =>
            obtain ⟨c1, Y2, hcv, hc1, hb, hz1, ho1⟩ := conv_bytes Y1 s
            go_simp
            clear hcv
            refine hK _ _ ?_
            clear hK K
            try simp only [Act.put, List.setIfInBounds_toArray, List.set_cons_zero, List.set_cons_succ]
            have hv1 := (conv_bsl hc1 hz1 ho1).mono (Nat.zero_le _) (Nat.le_refl _)
            clear hc1 hz1 ho1
            replace hJk := hJ k Y1 Y2 none hJk (grown_of_below hb) (by simp)
            replace hbs : Boxed Y2 Bs 9 (.string s) := (hb.block Bs hbs.lt).trans hbs
            replace hown2 := own_below4 hown2 hb
            replace hsz := Nat.le_trans hsz hb.size
            replace hv3 := (hv3.below hb (Nat.le_refl _)).mono (Nat.le_refl _) hb.size
            clear hb
            refine wpAnyIn_ready (rs := [6]) (by kernel_rfl) (by simp) ?_
            refine' AllReadyIn.cons (o := _) ?ho20 (fun K hK => ?st20) AllReadyIn.nil
            case ho20 => simp only [List.getElem?_toArray, List.getElem?_cons_succ, List.getElem?_cons_zero]; rfl
            case st20 =>
              go_simp
              refine hK _ _ ?_
              clear hK K
              try simp only [Act.put, List.setIfInBounds_toArray, List.set_cons_zero, List.set_cons_succ]
              refine wpAnyIn_ready (rs := [7]) (by kernel_rfl) (by simp) ?_
              refine' AllReadyIn.cons (o := _) ?ho21 (fun K hK => ?st21) AllReadyIn.nil
              case ho21 => simp only [List.getElem?_toArray, List.getElem?_cons_succ, List.getElem?_cons_zero]; rfl
              case st21 =>
                go_simp
                refine ⟨trivial, ?_⟩
                have hv2 := (BSl.of_own (l := octs (two (f : Int)) 2) (by rw [octs_length]; exact hown2)).mono (Nat.zero_le _) (Nat.le_refl _)
                refine (callsIn_wide.2 (short_three Y2 _ _ _ s.data.toList (octs (two (f : Int)) 2) (octs (two (k : Int)) 1) hv1 hv2 hv3 (by rw [octs_length, octs_length]; have : s.data.toList.length = s.size := rfl; omega))).mono ?_
                clear hv2
                rintro e Y3 ⟨rfl, hb⟩
                refine hK _ _ ?_
                clear hK K
                try simp only [Act.put, List.setIfInBounds_toArray, List.set_cons_zero, List.set_cons_succ]
                replace hJk := hJ k Y2 Y3 none hJk (grown_of_below hb) (by simp)
                replace hbs : Boxed Y3 Bs 9 (.string s) := (hb.block Bs hbs.lt).trans hbs
                replace hown2 := own_below4 hown2 hb
                replace hsz := Nat.le_trans hsz hb.size
                clear hb hv1 hv3
                refine wpAnyIn_ready (rs := [8]) (by kernel_rfl) (by simp) ?_
                refine' AllReadyIn.cons (o := _) ?ho22 (fun K hK => ?st22) AllReadyIn.nil
                case ho22 => simp only [List.getElem?_toArray, List.getElem?_cons_succ, List.getElem?_cons_zero]; rfl
                case st22 =>
                  obtain ⟨fn, tmps, assign, body, hy, hR⟩ := hY k #[tv (begB s f k)] Y3 hlt ⟨_, begs_at s f hlt, rfl⟩ hJk
                  simp only [tv, begB] at hy
                  go_simp
                  clear hy
                  refine hR.mono ?_
                  rintro e Y4 ⟨rfl, hJ4, hkp1, hkp2⟩
                  refine hK _ _ ?_
                  clear hK K
                  try simp only [Act.put, List.setIfInBounds_toArray, List.set_cons_zero, List.set_cons_succ]
                  refine wpAnyIn_ready (rs := [9]) (by kernel_rfl) (by simp) ?_
                  refine' AllReadyIn.cons (o := _) ?ho23 (fun K hK => ?st23) AllReadyIn.nil
                  case ho23 => simp only [List.getElem?_toArray, List.getElem?_cons_succ, List.getElem?_cons_zero]; rfl
                  case st23 =>
                    go_simp
                    refine hK _ _ ?_
                    clear hK K
                    try simp only [Act.put, List.setIfInBounds_toArray, List.set_cons_zero, List.set_cons_succ]
                    refine wpAnyIn_done (by kernel_rfl) ?_ _
                    replace hbs : Boxed Y4 Bs 9 (.string s) := (hkp1.block Bs hBs).trans hbs
                    replace hown2 := own_butRows hown2 hkp2 (by decide) (by omega) (by omega)
                    replace hsz := Nat.le_trans hsz hkp1.size
                    clear hR hkp1 hkp2
                    gi_wp2_with fail
                    go_roundw
                    case rel => exact ⟨k + 1, by omega, by simp, hJ4, hbs, hown2, hsz⟩
                    case measure => simp [intOf]; omega
    · obtain rfl : k = 15 := by omega
      gi_wp2_with fail
      go_end0
      exact ⟨⟨_, rfl⟩, hJk⟩
set_option maxHeartbeats 1000000 in
theorem beginnings_in (F : Fence) (m : Nat) (h : F.fn 290) (hro : F.round = none) (s : ByteArray) (z : Int) (w : World) :
    CallsIn F m Tryz.prog 290 #[.string s, .int .i64 z] w fun e w' => e = .returned (.func (.func 324) #[] #[.pointer (some ⟨w.heap.size + 1, 0, none⟩), .pointer (some ⟨w.heap.size, 0, none⟩)]) ∧ w' = (w.alloc (.cells #[.string s] 9)).alloc (.cells #[.int .i64 z] 3) := by
  refine callsIn_of_wp Tryz.func290 rfl h ?_ hro
  simp only [Tryz.ntmps290, List.size_toArray, List.length_cons, List.length_nil, Nat.reduceAdd, Nat.reduceSub, Array.replicate_succ, Array.replicate_zero, List.push_toArray, List.append_toArray, List.nil_append, List.cons_append]
  gi_wp2
  go_ret
  exact ⟨rfl, rfl⟩
set_option maxHeartbeats 2000000 in
theorem begin_in (m : Nat) (hm : 7 ≤ m) (s : ByteArray) (hs : s.size ≤ 140737488352000) (z : Int) (w : World) :
    CallsIn Fence.wide m Tryz.prog 227 #[.string s, .int .i64 z] w (RowW w.heap.size 9 15 ((begs s (lfN z)).map tv) w) := by
  have h1 : 1 ≤ m := by omega
  refine callsIn_of_wp Tryz.func227 rfl trivial ?_ rfl
  simp only [Tryz.ntmps227, List.size_toArray, List.length_cons, List.length_nil, Nat.reduceAdd, Nat.reduceSub, Array.replicate_succ, Array.replicate_zero, List.push_toArray, List.append_toArray, List.nil_append, List.cons_append]
  have hbl : (begs s (lfN z)).length ≤ 1000000 := by rw [begs_length]; omega
  gi_wp2_with (first
    | (refine ⟨trivial, ?_⟩; gi_at_call 290; refine (beginnings_in Fence.wide (m - 1) trivial rfl _ _ _).mono ?_; rintro e w1 ⟨rfl, hw1⟩; have ks : Boxed w1 w.heap.size 9 (.string s) := (by rw [hw1]; exact (Boxed.new _ _ _).alloc _); have kl : Boxed w1 (w.heap.size + 1) 3 (.int .i64 z) := (by rw [hw1]; exact Blk.new' (vs := [.int .i64 z]) (by simp)); have hb1 : Below w.heap.size w w1 := (by rw [hw1]; exact chainA (chain0 _ _) _); clear hw1)
    | (refine ⟨trivial, ?_⟩; gi_at_call 289; refine (collectT_in (m - 1) (by omega) (begs s (lfN z)) hbl w1 _ _ (enters_of Tryz.func324 (by kernel_rfl) rfl) (fun W hW hlt => by
        rw [begs_length]
        exact beginnings1_rel (m - 1 - 1 - 1) (by omega) s hs z w1.heap.size w1.heap.size w.heap.size (w.heap.size + 1) W hlt ks.lt ((hW.block _ ks.lt).trans ks) ((hW.block _ kl.lt).trans kl))).mono ?_; rintro e w2 ⟨v2, rfl, hown2, hb2⟩; rw [begs_length] at hown2; obtain ⟨g2, c2, rfl⟩ := ownsRow_succ hown2))
  go_ret
  exact ⟨_, rfl, own_base hown2 hb1.size, chain hb1 hb2⟩
theorem begin_any (s : ByteArray) (hs : s.size ≤ 140737488352000) (z : Int) (w : World) :
    Calls Tryz.prog 227 #[.string s, .int .i64 z] w (RowW w.heap.size 9 15 ((begs s (lfN z)).map tv) w) := callsIn_wide.1 (begin_in 7 (by omega) s hs z w)
end Go.Proofs.YtbjpifcgnombaaaGreat
