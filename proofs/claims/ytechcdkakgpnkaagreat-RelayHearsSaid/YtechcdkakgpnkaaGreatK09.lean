/-
  hash.mix: the state behind all rounds; hash.Sum; hash.Text; The sum of one text, by hash.Text; A transfer's key, the digest of a side, the payload of an act; ots.digits: a sequence of a number's digits of 2 bits, the highest first; slices.AppendSeq of digits onto a row of ints of the call's own; slices.Collect of digits; slices.AppendSeq of strings onto a row of the call's own; hash.Short; '[]byte
-/
import Derived.IntWalk
import Derived.Outline
import Derived.Deep.QuietTactic
import Derived.BigQuiet
import Derived.StillTactics
import Derived.Laws.BitsLemmas
import Derived.Lib.ConvBytes
import Derived.Laws.AppendOwn
import Derived.Test.YtechcdkakgpnkaaGreatK08
namespace Go.Proofs.YtechcdkakgpnkaaGreat
open Go.RowKit
set_option maxRecDepth 100000 in
set_option maxHeartbeats 8000000 in
theorem mix_any (f m : Nat → Int) (w : World) : Calls Tryz.prog 159 #[uv f 8, uv m 64] w fun e W' => e = .returned (uv (mixed cb m f) 8) ∧ Below w.heap.size w W' := by
  go_enter Tryz.func159, Tryz.ntmps159
  go_wp2
  generalize hW0 : World.alloc _ _ = W0
  have kS : Blk W0 w.heap.size 232 (us f 8) := by rw [← hW0]; exact ((Blk.new' rfl).alloc _).alloc _
  have kM : Blk W0 (w.heap.size + 1) 239 (us m 64) := by rw [← hW0]; exact (Blk.new' (by simp)).alloc _
  have kR : Blk W0 (w.heap.size + 1 + 1) 232 (us (fun _ => 0) 8) := by rw [← hW0, us0_8]; exact Blk.new' (by simp)
  have d0 : Below w.heap.size w W0 := by rw [← hW0]; exact chainA (chainA (chain0 _ _) _) _
  clear hW0
  have q0 := (kS.cell 0).trans (us_at _ (by omega))
  have q1 := (kS.cell 1).trans (us_at _ (by omega))
  have q2 := (kS.cell 2).trans (us_at _ (by omega))
  have q3 := (kS.cell 3).trans (us_at _ (by omega))
  have q4 := (kS.cell 4).trans (us_at _ (by omega))
  have q5 := (kS.cell 5).trans (us_at _ (by omega))
  have q6 := (kS.cell 6).trans (us_at _ (by omega))
  have q7 := (kS.cell 7).trans (us_at _ (by omega))
  go_quiet (fail)
  go_wp2
  go_quiet (fail)
  go_wp2_with (go_at_call 197; refine (cubeRoots_any _).mono ?_; rintro e w1 ⟨rfl, hb1⟩)
  replace hb1 : Below W0.heap.size W0 w1 := (below_drewN W0 _).trans hb1
  have d1 : Below w.heap.size w w1 := chain d0 hb1
  have kS1 : Blk w1 w.heap.size 232 (us f 8) := Blk.below (n := W0.heap.size) kS hb1 kS.lt
  have kM1 : Blk w1 (w.heap.size + 1) 239 (us m 64) := Blk.below (n := W0.heap.size) kM hb1 kM.lt
  have kR1 : Blk w1 (w.heap.size + 1 + 1) 232 (us (fun _ => 0) 8) := Blk.below (n := W0.heap.size) kR hb1 kR.lt
  clear kS kM kR q0 q1 q2 q3 q4 q5 q6 q7 hb1 d0
  go_loopw [5, 6, 7, 8, 9, 10, 11, 12, 36] (fun a b c d e f' g h i wr => ∃ (k : Nat) (s : S8), k ≤ 64 ∧ Hid (s = rds cb m (s8 f) k) ∧ i = .int .i64 k ∧ a = .int .u32 s.a ∧ b = .int .u32 s.b ∧ c = .int .u32 s.c ∧ d = .int .u32 s.d ∧ e = .int .u32 s.e ∧ f' = .int .u32 s.f ∧ g = .int .u32 s.g ∧ h = .int .u32 s.h ∧
    Blk wr w.heap.size 232 (us f 8) ∧ Blk wr (w.heap.size + 1) 239 (us m 64) ∧ Blk wr (w.heap.size + 1 + 1) 232 (us (fun _ => 0) 8) ∧ Below w.heap.size w wr) (fun _ _ _ _ _ _ _ _ i _ => 64 - (intOf i).toNat)
  case atStart => exact ⟨0, s8 f, by omega, Lib.hid rfl, rfl, rfl, rfl, rfl, rfl, rfl, rfl, rfl, rfl, kS1, kM1, kR1, d1⟩
  clear kS1 kM1 kR1 d1
  case round =>
    obtain ⟨k, ⟨a, b, c, d, e, f', g, h⟩, hk, HS, rfl, rfl, rfl, rfl, rfl, rfl, rfl, rfl, rfl, kS, kM, kR, hB⟩ := hrel
    dsimp only
    by_cases hlt : k < 64
    · have hix := run_index_us 239 64 und64 cb k hlt
      have cM := (kM.cell k).trans (us_at _ hlt)
      have hk0 : (k : Int) < 64 := by omega
      go_wp2_with fail
      have L3 : (0 : Int) ≤ (k : Int) := by omega
      have hsg : (if IntKind.u32.signed = true then (-1 : Int) else IntKind.u32.max) = 4294967295 := by decide
      refine wp_region_still_lit (by kernel_rfl) (by kernel_rfl) ?_
      repeat still_step
      still_call (rotr_still _ _ 6 t6 rfl _)
      repeat still_step
      still_call (rotr_still _ _ 11 t11 rfl _)
      repeat still_step
      still_call (rotr_still _ _ 25 t25 rfl _)
      repeat still_step
      refine wpStill_nil ?_
      generalize hx1 : IntKind.u32.wrap (IntKind.u32.wrap (IntKind.u32.wrap (IntKind.u32.wrap (h + _) + _) + cb k) + m k) = x1
      have HX1 : Hid (tmp1 ⟨a, b, c, d, e, f', g, h⟩ (cb k) (m k) = x1) := Lib.hid (by
        rw [← hx1]; simp only [tmp1, bs1, chs3, IntKind.wrap_u32, Int.emod_add_emod])
      clear hx1
      replace kS : Blk wr.drew w.heap.size 232 (us f 8) := kS
      replace kM : Blk wr.drew (w.heap.size + 1) 239 (us m 64) := kM
      replace kR : Blk wr.drew (w.heap.size + 1 + 1) 232 (us (fun _ => 0) 8) := kR
      replace hB : Below w.heap.size w wr.drew := hB.drew
      change Exit.then _ _ _ _ wr.drew
      generalize wr.drew = wq at *
      clear cM hix hsg
      go_wp2_with fail
      refine (rotr_still _ _ 2 t2 rfl _).mono ?_
      rintro e' w' ⟨rfl, rfl⟩
      go_wp2_with fail
      refine (rotr_still _ _ 13 t13 rfl _).mono ?_
      rintro e' w' ⟨rfl, rfl⟩
      go_wp2_with fail
      refine (rotr_still _ _ 22 t22 rfl _).mono ?_
      rintro e' w' ⟨rfl, rfl⟩
      go_wp2_with fail
      exact ⟨⟨k + 1, rnd ⟨a, b, c, d, e, f', g, h⟩ (cb k) (m k), by omega, Lib.hid (by rw [HS.out]; rfl), by simp, by rw [← HX1.out]; rfl, rfl, rfl, rfl, by rw [← HX1.out]; rfl, rfl, rfl, rfl, kS, kM, kR, hB⟩, by simp [intOf]; omega⟩
    · obtain rfl : k = 64 := by omega
      clear hk hlt
      go_wp2
      go_loopw [107] (fun i wr => ∃ k : Nat, k ≤ 8 ∧ i = .int .i64 k ∧ Blk wr w.heap.size 232 (us (fun t => if t < k then mixed cb m f t else f t) 8) ∧ Blk wr (w.heap.size + 1 + 1) 232 (us (fun _ => 0) 8) ∧ Below w.heap.size w wr) (fun i _ => 8 - (intOf i).toNat)
      case atStart => exact ⟨0, by omega, rfl, kS, kR, hB⟩
      case round =>
        obtain ⟨k, hk, rfl, kS, kR, hB⟩ := hrel
        by_cases hlt : k < 8
        · have hix : ∀ w, (Instr.index 232 (.agg #[.int .u32 a, .int .u32 b, .int .u32 c, .int .u32 d, .int .u32 e, .int .u32 f', .int .u32 g, .int .u32 h]) (.int .i64 (k : Int))).run Tryz.prog w = .ok (.int .u32 (S8.at ⟨a, b, c, d, e, f', g, h⟩ k)) w := run_index_us 232 8 und8 (S8.at ⟨a, b, c, d, e, f', g, h⟩) k hlt
          have cS := (kS.cell k).trans (us_at _ hlt)
          rw [if_neg (by omega)] at cS
          have hf := kS.frozen k
          have hk0 : (k : Int) < 8 := by omega
          have HM : Hid (mixed cb m f k = (f k + S8.at ⟨a, b, c, d, e, f', g, h⟩ k) % 4294967296) := Lib.hid (by unfold mixed; rw [← HS.out])
          generalize S8.at ⟨a, b, c, d, e, f', g, h⟩ k = z at *
          go_wp2_with fail
          rw [← HM.out]
          have kS' := kS.set k (.int .u32 (mixed cb m f k))
          rw [us_set, us_congr (g := fun t => if t < k + 1 then mixed cb m f t else f t) (fun t ht => by
            unfold updI
            by_cases e1 : t = k
            · subst e1; rw [if_pos rfl, if_pos (by omega)]
            · rw [if_neg e1]
              show (if t < k then mixed cb m f t else f t) = _
              by_cases e2 : t < k
              · rw [if_pos e2, if_pos (by omega)]
              · rw [if_neg e2, if_neg (by omega)])] at kS'
          exact ⟨⟨k + 1, by omega, by simp, kS', kR.other _ _ (by omega), hB.setCell (p := ⟨w.heap.size, _, none⟩) (by simp) _⟩, by simp [intOf]; omega⟩
        · obtain rfl : k = 8 := by omega
          rw [us_congr (g := mixed cb m f) (fun t ht => if_pos ht)] at kS
          go_wp2_with (first | (with_reducible refine arr_load arr8 rfl (.tmp 2) rfl w.heap.size rfl 232 (mixed cb m f) kS ?_) | (with_reducible refine arr_store arr8 rfl (.tmp 4) (.tmp 118) rfl (w.heap.size + 1 + 1) rfl (mixed cb m f) rfl 232 (fun _ => 0) kR ?_; intro w5 kR5 hg5))
          exact bodyPost_ret (v := uv (mixed cb m f) 8) (arr_result arr8 rfl _ _ (w.heap.size + 1 + 1) 232 (mixed cb m f) rfl kR5) rfl ⟨rfl, hB.grown hg5 hB.size (fun k e => by have : w.heap.size + 1 + 1 = k := Option.some.inj e; omega)⟩
end Go.Proofs.YtechcdkakgpnkaaGreat
namespace Go.Proofs.YtechcdkakgpnkaaGreat
open Go.RowKit Go.Shelf
attribute [local go_sem] Oper.semAt_some
theorem blk_zero8 (w : World) (t : TypeId) : Blk (w.alloc (.cells #[.int .u32 0, .int .u32 0, .int .u32 0, .int .u32 0, .int .u32 0, .int .u32 0, .int .u32 0, .int .u32 0] t)) w.heap.size t (us (fun _ => 0) 8) := by rw [us0_8]; exact Blk.new' rfl
theorem blk_zero16 (w : World) (t : TypeId) : Blk (w.alloc (.cells #[.int .u32 0, .int .u32 0, .int .u32 0, .int .u32 0, .int .u32 0, .int .u32 0, .int .u32 0, .int .u32 0, .int .u32 0, .int .u32 0, .int .u32 0, .int .u32 0, .int .u32 0, .int .u32 0, .int .u32 0, .int .u32 0] t)) w.heap.size t (us (fun _ => 0) 16) := by rw [us0_16]; exact Blk.new' rfl
theorem sts_succ (kk : Nat → Int) (p : List UInt8) (f : Nat → Int) (n : Nat) : sts kk p f (n + 1) = mixed kk (sch (wd (blk p n)) 48) (sts kk p f n) := rfl
theorem bsl_slice {lo hi : Nat} {W : World} {sv : Value} {l : List UInt8} (h : BSl lo hi W sv l) : ∃ a c, sv = .slice a l.length c := by
  obtain ⟨a, c, e, _⟩ := h
  exact ⟨a, c, e⟩
set_option maxRecDepth 100000 in
set_option maxHeartbeats 8000000 in
theorem sum_in (m : Nat) (hm : 10 ≤ m) (l : List UInt8) (sv : Value) (w : World) (hreach : l.length ≤ 140737488353000) (hsv : BSl 0 w.heap.size w sv l) :
    CallsIn Fence.wide m Tryz.prog 110 #[sv] w (ByO (sumL cb sq l) w) := by
  have h1 : 1 ≤ m := by omega
  have hmx : Tryz.prog.follows .mixedOrders = true := by kernel_rfl
  obtain ⟨i0, hi, hz0, hz1, hz2⟩ := info_parts Tryz.infoByte
  have hsv0 := hsv
  obtain ⟨a, cap, rfl, hcap, hcs⟩ := hsv
  clear hcs
  refine callsIn_of_wp_marks Tryz.func110 rfl trivial ?_ rfl
  simp only [Tryz.ntmps110, List.size_toArray, List.length_cons, List.length_nil, Nat.reduceAdd, Nat.reduceSub, Array.replicate_succ, Array.replicate_zero, List.push_toArray, List.append_toArray, List.nil_append, List.cons_append]
  gi_wp2_with (first
    | (refine ⟨trivial, ?_⟩; gi_at_call 156; refine (callsIn_wide.2 (squareRoots_any _)).mono ?_; rintro e w1 ⟨rfl, hb1⟩)
    | (with_reducible refine arrIn_store arr8 rfl (.tmp 3) (.tmp 8) rfl w1.heap.size rfl sq rfl 232 (fun _ => 0) (blk_zero8 w1 _) ?_; intro w2 kS hg2)
    | (refine ⟨trivial, ?_⟩; gi_at_call 158; (have hb2 : Below w.heap.size w w2 := (chainA hb1 (.cells #[.int .u32 0, .int .u32 0, .int .u32 0, .int .u32 0, .int .u32 0, .int .u32 0, .int .u32 0, .int .u32 0] 232)).grown hg2 (by simp; have := hb1.size; omega) (fun k e => by have : w1.heap.size = k := Option.some.inj e; have := hb1.size; omega)); refine (callsIn_wide.2 (pad_any l _ _ (by omega) ((hsv0.below hb2 (Nat.le_refl _)).mono (Nat.le_refl _) hb2.size))).mono ?_; rintro e w3 ⟨pv, rfl, hown, hb3⟩; obtain ⟨pa, pc, rfl⟩ := ownsRow_slice hown)
    | (refine ⟨trivial, ?_⟩; gi_at_call 157; refine (blocks_in Fence.wide (m - 1) trivial rfl _ _ _ _).mono ?_; rintro e w' ⟨rfl, rfl⟩))
  have hb23 : Below w.heap.size w w3 := chain hb2 hb3
  have hw1 : w.heap.size ≤ w1.heap.size := hb1.size
  have hw2 : w1.heap.size < w2.heap.size := kS.lt
  have hpb := BSl.of_own hown
  have hpl := padL_length l
  have HS : Hid (sumL cb sq l = sumTo (sts cb (padL l) sq ((padL l).length / 64)) 8) := Lib.hid rfl
  generalize hp : padL l = p at *
  clear hp
  obtain ⟨pa', pc', hpe, hpc, hp0⟩ := hpb
  cases hpe
  have hnz : p ≠ [] := fun e => by rw [e] at hpl; simp at hpl; omega
  obtain ⟨pb, po, rfl, hpl0, hpb, hpo⟩ := hp0.resolve_left hnz
  have hcm : pc ≤ maxLen := by
    rcases hown.2 with ⟨e, _⟩ | ⟨g, c, cur, e, _, _, _, hcm, _⟩
    · cases e
    · cases e; exact hcm
  unfold maxLen at hcm
  have hl64 : p.length = 64 * (p.length / 64) := by omega
  have hN1 : 1 ≤ p.length / 64 := by omega
  have hreach' : p.length ≤ 140737488354000 := by omega
  generalize hN : p.length / 64 = N at *
  clear hpl hN hnz hp0
  have kS3 := kS.below hb3 kS.lt
  generalize hW4 : World.alloc _ _ = w4
  have kp : Boxed w4 w3.heap.size 35 (.slice (some ⟨pb, po, none⟩) p.length pc) := by rw [← hW4]; exact Boxed.new _ _ _
  have kS4 : Blk w4 w1.heap.size 232 (us sq 8) := by rw [← hW4]; exact kS3.alloc _
  have hb34 : Below w3.heap.size w3 w4 := by rw [← hW4]; exact chain0 _ _
  have hpo4 := hpo.below hb34 hpb
  have hb4 : Below w.heap.size w w4 := chain hb23 hb34
  have hw4 : w4.heap.size = w3.heap.size + 1 := by rw [← hW4]; simp
  have hw3 := hb3.size
  clear hW4
  generalize hq : p.length = q at *
  have HQ := Lib.hid hq
  have HL64 := Lib.hid hl64
  clear hl64
  have hseq := blocks1_all (m - 1) (by omega) w1.heap.size w3.heap.size pb po pc N p (by rw [HQ.out]; exact HL64.out) hN1 (by rw [HQ.out]; exact hreach') (by rw [HQ.out]; exact hpc) (by omega) w4 (by omega) (by omega) (by omega) hpo4 (by rw [HQ.out]; exact kp)
  clear hq
  refine wpIn_rangeFunc_all (ys := blkWords p N) rfl h1 (gf := 194) (lb := #[.pointer (some ⟨w3.heap.size, 0, none⟩)]) rfl trivial (enters_of Tryz.func194 (by kernel_rfl) rfl)
    hseq AllBut.t (fun X o o' _ _ _ => AllBut.b _ _ X o') (Below.refl _ _) (fun _ => rfl)
    (fun k X => (Blk X w1.heap.size 232 (us (sts cb p sq k) 8) ∧ w4.heap.size ≤ X.heap.size) ∧ Below w.heap.size w X)
    (OwnFrom.and (fun k X Y row hs hg hr => ⟨blk_own w1.heap.size 232 (fun _ : Unit => _) () X Y row hs.1 hg (fun r e => (hr r e).2), Nat.le_trans hs.2 hg.size⟩) (ownFrom_below (Nat.le_refl _) (by omega)))
    ⟨⟨kS4, Nat.le_refl _⟩, hb4⟩
    (fun x a' X => ∃ Bx, w4.heap.size ≤ Bx ∧ Blk X Bx 237 (us x 16) ∧ a' = { tmps := #[.slice a l.length cap, undef, .slice none 0 0, .pointer (some ⟨w1.heap.size, 0, none⟩), .pointer (some ⟨Bx, 0, none⟩), undef, undef, undef, uv sq 8, .slice a l.length cap, .slice (some ⟨pb, po, none⟩) q pc, .func (.func 194) #[] #[.pointer (some ⟨w3.heap.size, 0, none⟩)], uv x 16, undef, undef, undef, undef, undef, undef, undef, undef, undef, undef, undef, undef, undef, undef, undef], defers := [] })
    (fun x a' s X Y row ⟨Bx, h1, h2, h3⟩ hg hr => ⟨Bx, h1, blk_own Bx 237 (fun _ : Unit => _) () X Y row h2 hg (fun r e => (hr r e).2), h3⟩) ?_ ?_ ?_
  · rintro l' k x X K ⟨⟨hS, hsz⟩, hB⟩ hK
    gi_wp2_with (with_reducible refine arrIn_store arr16 rfl (.tmp 4) (.tmp 12) rfl X.heap.size rfl x rfl 237 (fun _ => 0) (blk_zero16 X _) ?_; intro X2 kX hgX)
    have hX2 : Below X.heap.size X X2 := (chain0 X _).grown hgX (by simp) (fun k e => by have : X.heap.size = k := Option.some.inj e; omega)
    exact hK _ _ ⟨hX2.size, fun j o _ hj _ => (hX2.block j (Array.getElem?_eq_some_iff.1 hj).1).trans hj⟩ (AllBut.of_below hX2) ⟨⟨hS.below hX2 hS.lt, Nat.le_trans hsz hX2.size⟩, hB.trans (hX2.mono hB.size)⟩ ⟨X.heap.size, hsz, kX, rfl⟩
  · rintro l' k x a' X hx ⟨⟨hS, hsz⟩, hB⟩ ⟨Bx, hBx, kX, rfl⟩
    have hk : k < N := by have := (List.getElem?_eq_some_iff.1 hx).1; simpa [blkWords] using this
    rw [blkWords_at p hk] at hx
    obtain rfl := Option.some.inj hx
    have hne : w1.heap.size ≠ Bx := by omega
    clear hx
    have hst := Lib.hid (sts_succ cb p sq k)
    generalize sts cb p sq k = st at *
    generalize wd (blk p k) = x at *
    gi_wp2_with fail
    refine wpIn_round_any hmx (by kernel_rfl) ?_
    change wpAny _ _ _ _ _ _ _ X.drew
    replace hS : Blk X.drew w1.heap.size 232 (us st 8) := hS
    replace kX : Blk X.drew Bx 237 (us x 16) := kX
    have hXd : Below X.heap.size X X.drew := (Below.refl _ X).drew
    generalize X.drew = Y at *
    have hFin : ∀ (Y2 Y3 Y4 : World) (a' : Act), Below Y.heap.size Y Y2 → Below Y2.heap.size Y2 Y3 → Blk Y4 w1.heap.size 232 (us (mixed cb (sch x 48) st) 8) → Y3.grownBy Y4 (some w1.heap.size) →
        goesOn w4.heap.size (AllBut w1.heap.size (w4.heap.size + 1)) (fun X => (Blk X w1.heap.size 232 (us (sts cb p sq (k + 1)) 8) ∧ w4.heap.size ≤ X.heap.size) ∧ Below w.heap.size w X) X Exit.normal a' Y4 := fun Y2 Y3 Y4 a' hbY2 hbY3 hS4 hgY => by
      have hXY : Below X.heap.size X Y3 := hXd.trans ((chain hbY2 hbY3).mono hXd.size)
      have hA : ∀ j, j < X.heap.size → j ≠ w1.heap.size → Y4.heap[j]? = X.heap[j]? := fun j hj hne => (hgY.block j (Nat.lt_of_lt_of_le hj hXY.size) (fun e => hne (Option.some.inj e))).trans (hXY.block j hj)
      have hsz4 : X.heap.size ≤ Y4.heap.size := Nat.le_trans hXY.size hgY.size
      refine ⟨⟨hsz4, fun j o hBj hj _ => (hA j (Array.getElem?_eq_some_iff.1 hj).1 (by omega)).trans hj⟩, ⟨hsz4, fun j hj h1 _ => hA j hj h1⟩, ⟨by rw [hst.out]; exact hS4, Nat.le_trans hsz hsz4⟩, ?_⟩
      have hB3 := hB.trans (hXY.mono hB.size)
      exact hB3.grown hgY hB3.size (fun k e => by have : w1.heap.size = k := Option.some.inj e; omega)
    refine wpAny_ready (rs := [0, 1]) (by kernel_rfl) (by simp) ?_
    refine AllReady.cons rfl (fun K hK => ?_) (AllReady.cons rfl (fun K hK => ?_) AllReady.nil)
    · refine step_load_us arr8 rfl (.tmp 3) rfl w1.heap.size rfl 232 st hS ?_
      refine hK _ _ ?_
      clear hK K
      refine wpAny_ready (rs := [1]) (by kernel_rfl) (by simp) ?_
      refine AllReady.cons rfl (fun K hK => ?_) AllReady.nil
      refine step_load_us arr16 rfl (.tmp 4) rfl Bx rfl 237 x kX ?_
      refine hK _ _ ?_
      clear hK K
      refine wpAny_ready (rs := [2]) (by kernel_rfl) (by simp) ?_
      refine AllReady.cons rfl (fun K hK => ?_) AllReady.nil
      go_simp
      refine (schedule_any _ _).mono ?_
      rintro e Y2 ⟨rfl, hbY2⟩
      have hS2 := hS.below hbY2 hS.lt
      refine hK _ _ ?_
      clear hK K
      refine wpAny_ready (rs := [3]) (by kernel_rfl) (by simp) ?_
      refine AllReady.cons rfl (fun K hK => ?_) AllReady.nil
      go_simp
      refine (mix_any _ _ _).mono ?_
      rintro e Y3 ⟨rfl, hbY3⟩
      have hS3 := hS2.below hbY3 hS2.lt
      refine hK _ _ ?_
      clear hK K
      refine wpAny_ready (rs := [4]) (by kernel_rfl) (by simp) ?_
      refine AllReady.cons rfl (fun K hK => ?_) AllReady.nil
      refine step_store_us arr8 rfl (.tmp 3) (.tmp 16) rfl w1.heap.size rfl (mixed cb (sch x 48) st) rfl 232 st hS3 ?_
      intro Y4 hS4 hgY
      refine hK _ _ ?_
      clear hK K
      refine wpAny_done (by kernel_rfl) ?_ _
      exact hFin Y2 Y3 Y4 { tmps := #[], defers := [] } hbY2 hbY3 hS4 hgY
    · refine step_load_us arr16 rfl (.tmp 4) rfl Bx rfl 237 x kX ?_
      refine hK _ _ ?_
      clear hK K
      refine wpAny_ready (rs := [0, 2]) (by kernel_rfl) (by simp) ?_
      refine AllReady.cons rfl (fun K hK => ?_) (AllReady.cons rfl (fun K hK => ?_) AllReady.nil)
      · refine step_load_us arr8 rfl (.tmp 3) rfl w1.heap.size rfl 232 st hS ?_
        refine hK _ _ ?_
        clear hK K
        refine wpAny_ready (rs := [2]) (by kernel_rfl) (by simp) ?_
        refine AllReady.cons rfl (fun K hK => ?_) AllReady.nil
        go_simp
        refine (schedule_any _ _).mono ?_
        rintro e Y2 ⟨rfl, hbY2⟩
        have hS2 := hS.below hbY2 hS.lt
        refine hK _ _ ?_
        clear hK K
        refine wpAny_ready (rs := [3]) (by kernel_rfl) (by simp) ?_
        refine AllReady.cons rfl (fun K hK => ?_) AllReady.nil
        go_simp
        refine (mix_any _ _ _).mono ?_
        rintro e Y3 ⟨rfl, hbY3⟩
        have hS3 := hS2.below hbY3 hS2.lt
        refine hK _ _ ?_
        clear hK K
        refine wpAny_ready (rs := [4]) (by kernel_rfl) (by simp) ?_
        refine AllReady.cons rfl (fun K hK => ?_) AllReady.nil
        refine step_store_us arr8 rfl (.tmp 3) (.tmp 16) rfl w1.heap.size rfl (mixed cb (sch x 48) st) rfl 232 st hS3 ?_
        intro Y4 hS4 hgY
        refine hK _ _ ?_
        clear hK K
        refine wpAny_done (by kernel_rfl) ?_ _
        exact hFin Y2 Y3 Y4 { tmps := #[], defers := [] } hbY2 hbY3 hS4 hgY
      · go_simp
        refine (schedule_any _ _).mono ?_
        rintro e Y2 ⟨rfl, hbY2⟩
        have hS2 := hS.below hbY2 hS.lt
        refine hK _ _ ?_
        clear hK K
        refine wpAny_ready (rs := [0]) (by kernel_rfl) (by simp) ?_
        refine AllReady.cons rfl (fun K hK => ?_) AllReady.nil
        refine step_load_us arr8 rfl (.tmp 3) rfl w1.heap.size rfl 232 st hS2 ?_
        refine hK _ _ ?_
        clear hK K
        refine wpAny_ready (rs := [3]) (by kernel_rfl) (by simp) ?_
        refine AllReady.cons rfl (fun K hK => ?_) AllReady.nil
        go_simp
        refine (mix_any _ _ _).mono ?_
        rintro e Y3 ⟨rfl, hbY3⟩
        have hS3 := hS2.below hbY3 hS2.lt
        refine hK _ _ ?_
        clear hK K
        refine wpAny_ready (rs := [4]) (by kernel_rfl) (by simp) ?_
        refine AllReady.cons rfl (fun K hK => ?_) AllReady.nil
        refine step_store_us arr8 rfl (.tmp 3) (.tmp 16) rfl w1.heap.size rfl (mixed cb (sch x 48) st) rfl 232 st hS3 ?_
        intro Y4 hS4 hgY
        refine hK _ _ ?_
        clear hK K
        refine wpAny_done (by kernel_rfl) ?_ _
        exact hFin Y2 Y3 Y4 { tmps := #[], defers := [] } hbY2 hbY3 hS4 hgY
  · rintro D X hD ⟨⟨hS, hsz⟩, hB⟩ hK
    rw [show (blkWords p N).length = N by simp [blkWords]] at hS
    have hst : Hid (sumL cb sq l = sumTo (sts cb p sq N) 8) := HS
    generalize sts cb p sq N = st at *
    gi_wp2_with (with_reducible refine arrIn_load arr8 rfl (.tmp 3) rfl w1.heap.size rfl 232 st hS ?_)
    gi_loopw [5, 18] (fun v i wr => ∃ k : Nat, k ≤ 8 ∧ i = .int .i64 k ∧ wr.ownsRow w.heap.size 5 1 v (4 * k) ((sumTo st k).map bv) ∧ wr.heap[D]? = some (.deferred (some [])) ∧ Below w.heap.size w wr) (fun _ i _ => 8 - (intOf i).toNat)
    case atStart => exact ⟨0, by omega, rfl, World.ownsRow_nil _ _ _ _, hK, hB⟩
    clear hS hB hK hsz
    case round =>
      obtain ⟨k, hk, rfl, hown, hD', hB⟩ := hrel
      obtain ⟨va, vc, rfl⟩ := ownsRow_slice hown
      have hNW := hB.size
      by_cases hlt : k < 8
      · have hix := run_index_us 232 8 und8 st k hlt
        have hk0 : (k : Int) < 8 := by omega
        gi_wp2_with (first
          | (refine ⟨trivial, ?_⟩; gi_at_call 68; refine (callsIn_wide.2 (num_any _ 4 (by omega) (by omega) _)).mono ?_; rintro e w5 ⟨s4, rfl, hs4, hb5⟩; rw [show clamp 4 = 4 from rfl] at hs4; have hown5 := own_below4 hown hb5; have hNW5 := Nat.le_trans hNW hb5.size; obtain ⟨a4, c4, rfl⟩ := bsl_slice hs4)
          | (gi_at_builtin; refine wpListIn_append_b _ rfl _ _ 35 rfl w.heap.size 5 i0 (.int .u8 0) Tryz.underlying35 hi hz0 hz1 hz2 rfl _ (4 * k) ((sumTo st k).map bv) rfl hown5 _ _ rfl hs4 (by rw [octs_length]; omega) hNW5 ?_; intro v6 w6 hown6 hgrow6))
        have hD5 : w5.heap[D]? = some (.deferred (some [])) := (hb5.block D (Array.getElem?_eq_some_iff.1 hD').1).trans hD'
        have hD6 : w6.heap[D]? = some (.deferred (some [])) := (hgrow6.block D (Array.getElem?_eq_some_iff.1 hD5).1 (fun e => by
          obtain ⟨cur, fr, hc⟩ := ownsRow_block hown5 D e.symm
          rw [hD5] at hc; cases hc)).trans hD5
        rw [octs_length, ← List.map_append] at hown6
        have hB6 : Below w.heap.size w w6 := (chain hB hb5).grown hgrow6 hNW5 (fun j hj => (World.ownsRow.lt hown5 j hj).1)
        go_roundw
        case rel => exact ⟨k + 1, by omega, by simp, hown6, hD6, hB6⟩
        case measure => simp [intOf]; omega
      · obtain rfl : k = 8 := by omega
        gi_wp2_with fail
        have hB' := hB.trans (belowK_b (w := w) (Nat.le_refl _) _ D _ (.deferred none) (by omega) hD' rfl rfl)
        have hown3 := ownsRow_putObj hown (.deferred none) hD' rfl
        refine ⟨by simp, .inl ⟨_, _, rfl, run_takeDeferred hD', ?_⟩⟩
        refine ⟨.slice va (4 * 8) vc, ?_, ?_⟩
        · simp [results, Tryz.f110, go_sem]
        · exact ⟨_, rfl, by rw [hst.out, sumTo_length]; exact hown3, hB'⟩
theorem sum_any (l : List UInt8) (sv : Value) (w : World) (hreach : l.length ≤ 140737488353000) (hsv : BSl 0 w.heap.size w sv l) :
    Calls Tryz.prog 110 #[sv] w (ByO (sumL cb sq l) w) := callsIn_wide.1 (sum_in 10 (by omega) l sv w hreach hsv)
end Go.Proofs.YtechcdkakgpnkaaGreat
namespace Go.Proofs.YtechcdkakgpnkaaGreat
open Go.RowKit Go.Shelf
def sumS (l : List UInt8) : ByteArray := ⟨(sumL cb sq l).toArray⟩
theorem sumS_size (l : List UInt8) : (sumS l).size = 32 := by
  show (sumL cb sq l).toArray.size = 32
  rw [List.size_toArray]
  exact sumTo_length _ 8
set_option maxRecDepth 100000 in
set_option maxHeartbeats 2000000 in
theorem text_any {o : Nat} (sv : Value) (w : World) (zs : List (SX o w.heap.size w)) (hreach : zs.length ≤ 140737488351232) (hfl : (flat zs).length ≤ 140737488353000) (hsv : SSl w.heap.size w sv zs) :
    Calls Tryz.prog 60 #[sv] w fun e W' => e = .returned (.string (sumS (flat zs))) ∧ Below w.heap.size w W' := by
  have hsv0 := hsv
  obtain ⟨a, cap, rfl, _⟩ := hsv
  go_enter Tryz.func60, Tryz.ntmps60
  go_wp2_with fail
  refine (cat_any _ _ zs hreach (by omega) hsv0).mono ?_
  rintro e w1 ⟨cv, rfl, hc, hb1⟩
  go_wp2_with fail
  refine (sum_any (flat zs) _ _ hfl (hc.mono (Nat.zero_le _) (Nat.le_refl _))).mono ?_
  rintro e w2 ⟨sv2, rfl, hown, hb2⟩
  have hcv := run_string (P := Tryz.prog) 35 5 9 Tryz.underlying35 Tryz.underlying5 Tryz.underlying9 w2 (BSl.of_own hown)
  go_wp2_with fail
  go_ret
  exact ⟨rfl, chain hb1 hb2⟩
end Go.Proofs.YtechcdkakgpnkaaGreat
namespace Go.Proofs.YtechcdkakgpnkaaGreat
open Go.RowKit Go.Shelf
theorem text1_any (l1 : List UInt8) (s1 : Value) (w : World) (hl : l1.length ≤ 140737488353000) (h1 : BSl 0 w.heap.size w s1 l1) :
    Calls Tryz.prog 60 #[.slice (some ⟨w.heap.size, 0, none⟩) 1 1] (w.alloc (.cells #[s1] 35)) fun e W' => e = .returned (.string (sumS l1)) ∧ Below w.heap.size w W' := by
  have hb := chain0 w (.cells #[s1] 35)
  have hz : (w.alloc (.cells #[s1] 35)).heap.size = w.heap.size + 1 := by simp
  have k : Blk (w.alloc (.cells #[s1] 35)) w.heap.size 35 [s1] := Blk.new w 35 [s1]
  generalize w.alloc (.cells #[s1] 35) = W at *
  let zs : List (SX 140737488353000 W.heap.size W) := [⟨(s1, l1), (h1.below hb (Nat.le_refl _)).mono (Nat.le_refl _) (by omega), hl⟩]
  have hfl : flat zs = l1 := by simp [flat, zs]
  have := text_any (.slice (some ⟨w.heap.size, 0, none⟩) 1 1) W zs (by simp [zs]) (by rw [hfl]; exact hl)
    ⟨_, _, rfl, .inr ⟨w.heap.size, 0, rfl, by omega, fun i x hx => by
      rw [Nat.zero_add, k.cell i]
      match i, hx with
      | 0, hx => simp only [zs, List.getElem?_cons_zero, Option.some.injEq] at hx; rw [← hx]; rfl
      | i + 1, hx => simp [zs] at hx⟩⟩
  rw [hfl] at this
  exact this.mono fun e W' ⟨h1, h2⟩ => ⟨h1, chain hb h2⟩
end Go.Proofs.YtechcdkakgpnkaaGreat
namespace Go.Proofs.YtechcdkakgpnkaaGreat
open Go.RowKit Go.Shelf
def keyB (i : Trf) : ByteArray := if maybeI i then sumS (putI ([], 0) i).1 else ⟨#[]⟩
def payL (act : Int) (key : ByteArray) (a0 a1 a2 a3 : Nat) : List UInt8 := if (1 ≤ act ∧ act ≤ 2) ∧ key.size = 32 then (paySt act key a0 a1 a2 a3).1 else []
set_option maxRecDepth 100000 in
set_option maxHeartbeats 1000000 in
theorem key_any (i : Trf) (w : World) :
    Calls Tryz.prog 20 #[ivv i] w fun e W' => e = .returned (.string (keyB i)) ∧ Below w.heap.size w W' := by
  have kB := Blk.new w 30 (ivc i)
  have hB := chain0 w (.cells (ivc i).toArray 30)
  have HC := Lib.hid (check_any i)
  by_cases hm : maybeI i
  · have HE := Lib.hid (errI_zero hm)
    have e1 : keyB i = sumS (putI ([], 0) i).1 := if_pos hm
    rw [e1]
    have hlen := (okS_putI okS_new i).2
    have HLE := Lib.hid hlen
    clear hm e1 hlen
    go_enter Tryz.func20, Tryz.ntmps20
    go_wp2_with (first
      | (go_at_call 59; refine (HC.out _).mono ?_; rw [HE.out]; rintro e W1 ⟨rfl, hb1⟩; replace kB := kB.below hb1 kB.lt; replace hB := chain hB hb1; clear hb1)
      | (go_at_call 23; refine (outNewO_any _).mono ?_; rintro e W2 ⟨NB, rfl, hN, hO, hb2⟩; have hne : some w.heap.size ≠ some NB := (fun e => by cases e; exact absurd kB.lt (by omega)); replace kB := kB.below hb2 kB.lt; have hNw := Nat.le_trans hB.size hN; replace hB := chain hB hb2; obtain ⟨c0, c1, c2, c3, c4, c5, c6⟩ := kB.c7; clear hb2)
      | (go_at_call 27; refine (dealPut_any i _ hO).mono ?_; rintro e W3 hD; replace hB := below_did hB hNw hD; obtain ⟨rfl, hO3, hG3⟩ := hD)
      | (go_at_call 61; refine (dealOctets_any _ hO3).mono ?_; rintro e W4 ⟨sv, rfl, hsv, hb4⟩; replace hB := chain hB hb4; obtain ⟨va, vm, vc, rfl⟩ := hsv.shape3)
      | (go_at_call 60; refine (text1_any _ _ _ (by have := HLE.out; omega) hsv).mono ?_; rintro e W5 ⟨rfl, hb5⟩))
    go_ret
    exact ⟨rfl, chain hB hb5⟩
  · have HE := Lib.hid (errI_bad hm)
    have e1 : keyB i = ⟨#[]⟩ := if_neg hm
    rw [e1]
    clear hm e1
    go_enter Tryz.func20, Tryz.ntmps20
    go_wp2_with (first
      | (go_at_call 59; refine (HC.out _).mono ?_; rw [HE.out]; rintro e W1 ⟨rfl, hb1⟩))
    go_ret
    exact ⟨rfl, chain hB hb1⟩
theorem payL_yes {act : Int} {key : ByteArray} {a0 a1 a2 a3 : Nat} (h1 : 1 ≤ act ∧ act ≤ 2) (h2 : key.size = 32) : payL act key a0 a1 a2 a3 = (paySt act key a0 a1 a2 a3).1 := if_pos ⟨h1, h2⟩
theorem payL_no {act : Int} {key : ByteArray} {a0 a1 a2 a3 : Nat} (h : ¬ ((1 ≤ act ∧ act ≤ 2) ∧ key.size = 32)) : payL act key a0 a1 a2 a3 = [] := if_neg h
theorem okS_pay (act : Int) (key : ByteArray) (a0 a1 a2 a3 : Nat) : OkS (paySt act key a0 a1 a2 a3) := okS_wide (okS_txt (okS_num (okS_txt okS_new _) _) _) _ _ _ _
set_option maxRecDepth 100000 in
set_option maxHeartbeats 2000000 in
theorem payload_own (act : Int) (key : ByteArray) {a0 a1 a2 a3 : Nat} (h4 : Ok4 a0 a1 a2 a3) (w : World) :
    Calls Tryz.prog 56 #[.int .i64 act, .string key, wv a0 a1 a2 a3] w (ByW (payL act key a0 a1 a2 a3) w) := by
  have H0 := holds_any act 1 2
  by_cases hx : 1 ≤ act ∧ act ≤ 2
  · rw [hold_yes hx.1 hx.2] at H0
    have H1 := Lib.hid H0
    by_cases hk : key.size = 32
    · rw [payL_yes hx hk]
      have q1 : ((key.size : Int) == 32) = true := by rw [hk]; rfl
      have q2 : ((key.size : Int) != 32) = false := by rw [hk]; rfl
      clear hk hx H0
      have kB : BlkW (w.alloc (.cells #[.int .u64 (a0 : Nat), .int .u64 (a1 : Nat), .int .u64 (a2 : Nat), .int .u64 (a3 : Nat)] 24)) w.heap.size a0 a1 a2 a3 := Blk.new w _ [_, _, _, _]
      have hB := chain0 w (.cells #[.int .u64 (a0 : Nat), .int .u64 (a1 : Nat), .int .u64 (a2 : Nat), .int .u64 (a3 : Nat)] 24)
      go_enter Tryz.func56, Tryz.ntmps56
      go_wp2_with (first
        | (go_at_call 106; refine (H1.out _).mono ?_; rintro e W1 ⟨rfl, hb1⟩; replace hB := chain (chainA hB _) hb1; replace kB := (Blk.alloc kB _).below hb1 (kB.alloc _).lt; clear hb1)
        | (go_at_call 23; refine (outNewO_any _).mono ?_; rintro e W2 ⟨NB, rfl, hN, hO, hb2⟩; have hnv : some w.heap.size ≠ some NB := (fun e => by cases e; exact absurd kB.lt (by omega)); replace kB := kB.below hb2 kB.lt; have hNw := Nat.le_trans hB.size hN; replace hB := chain hB hb2; clear hb2)
        | (go_at_call 30; refine (outText_any _ _ hO).mono ?_; rintro e W4 hD; replace hB := below_did hB hNw hD; obtain ⟨rfl, hO1, hG1⟩ := hD; replace kB := kB.kept hG1 hnv; replace hO := hO1; obtain ⟨c0, c1, c2, c3⟩ := Blk.c4 kB; clear hO1 hG1)
        | (go_at_call 24; refine (outNum_any _ _ hO).mono ?_; rintro e W4 hD; replace hB := below_did hB hNw hD; obtain ⟨rfl, hO1, hG1⟩ := hD; replace kB := kB.kept hG1 hnv; replace hO := hO1; clear hO1 hG1)
        | (go_at_call 29; refine (outWide_any h4 _ hO).mono ?_; rintro e W5 hD; replace hB := below_did hB hNw hD; obtain ⟨rfl, hO2, hG2⟩ := hD)
        | (go_at_call 61; refine (dealOctets_own _ hO2).mono ?_; rintro e W6 ⟨sv, rfl, hsv, hb4⟩; replace hsv := hsv.mono hB.size (Nat.le_refl _); replace hB := chain hB hb4; obtain ⟨va, vm, vc, rfl⟩ := hsv.shape3))
      go_ret
      exact ⟨_, rfl, hsv, hB⟩
    · rw [payL_no (fun h => hk h.2)]
      have q1 : ((key.size : Int) == 32) = false := by simpa using (show ¬ (key.size : Int) = 32 by omega)
      have q2 : ((key.size : Int) != 32) = true := by simpa using (show ¬ (key.size : Int) = 32 by omega)
      clear hk hx H0
      go_enter Tryz.func56, Tryz.ntmps56
      go_wp2_with (first
        | (go_at_call 106; refine (H1.out _).mono ?_; rintro e W1 ⟨rfl, hb1⟩))
      go_ret
      exact ⟨_, rfl, BSl.nil _ _ _, chain (chainA (chain0 _ _) _) hb1⟩
  · rw [hold_no hx] at H0
    rw [payL_no (fun h => hx h.1)]
    have H1 := Lib.hid H0
    clear hx H0
    go_enter Tryz.func56, Tryz.ntmps56
    go_wp2_with (first
      | (go_at_call 106; refine (H1.out _).mono ?_; rintro e W1 ⟨rfl, hb1⟩))
    go_ret
    exact ⟨_, rfl, BSl.nil _ _ _, chain (chainA (chain0 _ _) _) hb1⟩
-- HERE
end Go.Proofs.YtechcdkakgpnkaaGreat
namespace Go.Proofs.YtechcdkakgpnkaaGreat
open Go.RowKit Go.Shelf
attribute [local go_sem] Oper.semAt_some
def dig (x p : Nat) : Nat := x / 2 ^ (p * 2) % 4
def digs (x N : Nat) : List Int := (List.range N).map fun i => (dig x (N - 1 - i) : Int)
theorem digs_length (x N : Nat) : (digs x N).length = N := by simp [digs]
theorem digs_at (x : Nat) {N k : Nat} (h : k < N) : (digs x N)[k]? = some (dig x (N - 1 - k) : Int) := by unfold digs; rw [List.getElem?_map, List.getElem?_range h]; rfl
theorem and3 {a : Nat} (ha : a ≤ 9223372036854775807) : bits .and .i64 (a : Int) 3 = ((a % 4 : Nat) : Int) := by
  have e := (Go.bits_nat .i64 63 (by decide) (fun n h0 h1 => by rw [IntKind.wrap_i64]; omega) a 3 (by simp; omega) (by simp)).1
  have h : a &&& 3 = a % 4 := by
    have := Nat.and_two_pow_sub_one_eq_mod a 2
    simpa using this
  rw [h] at e
  rw [← e]
  rfl
set_option maxRecDepth 100000 in
set_option maxHeartbeats 2000000 in
theorem digits1_rel (m : Nat) (hm : 1 ≤ m) (x N : Nat) (hx : x ≤ 16777215) (hN : N ≤ 16) (Bn Bm : Nat) (w : World) (kn : Boxed w Bn 3 (.int .i64 (x : Nat))) (km : Boxed w Bm 3 (.int .i64 (N : Nat))) :
    SeqRel Fence.wide m Tryz.prog 208 #[.pointer (some ⟨Bm, 0, none⟩), .pointer (some ⟨Bn, 0, none⟩)] N (fun k r _ => ∃ y : Int, (digs x N)[k]? = some y ∧ r = #[iv y]) (fun _ => KeepB2 Bn Bm) w := fun l J W hW _ _ _ hY h0 => by
  have hcn : Boxed W Bn 3 (.int .i64 (x : Nat)) := (hW.block Bn kn.lt).trans kn
  have hcm : Boxed W Bm 3 (.int .i64 (N : Nat)) := (hW.block Bm km.lt).trans km
  refine callsIn_of_wp Tryz.func208 rfl trivial ?_ rfl
  simp only [Tryz.ntmps208, List.size_toArray, List.length_cons, List.length_nil, Nat.reduceAdd, Nat.reduceSub, Array.replicate_succ, Array.replicate_zero, List.push_toArray, List.append_toArray, List.nil_append, List.cons_append]
  have hN' : (N : Int) ≤ 16 := by omega
  have cm := hcm.cell
  gi_wp2
  clear cm
  gi_loopw [7] (fun i wr => ∃ k : Nat, k ≤ N ∧ i = .int .i64 (k : Nat) ∧ (Boxed wr Bn 3 (.int .i64 (x : Nat)) ∧ Boxed wr Bm 3 (.int .i64 (N : Nat))) ∧ J k wr) (fun i _ => N - (intOf i).toNat)
  case atStart => exact ⟨0, by omega, rfl, ⟨hcn, hcm⟩, h0⟩
  clear hcn hcm h0
  case round =>
    obtain ⟨k, hk, rfl, ⟨hbn, hbm⟩, hJ⟩ := hrel
    have cn := hbn.cell
    have cm := hbm.cell
    by_cases hlt : k < N
    · have hlt' : (k : Int) < (N : Int) := by omega
      have hD := digs_at x hlt
      have hp : (N : Int) - 1 - k = ((N - 1 - k : Nat) : Int) := by omega
      have hpl : N - 1 - k ≤ 15 := by omega
      have hpl' : ((N - 1 - k : Nat) : Int) ≤ 15 := by omega
      obtain ⟨fn, tmps, assign, body, hy, hR⟩ := hY k #[iv (dig x (N - 1 - k) : Int)] wr hlt ⟨_, hD, rfl⟩ hJ
      clear hD
      generalize N - 1 - k = p at *
      have hb : bits BinOp.and IntKind.i64 ((x : Int) / 2 ^ (p * 2)) 3 = (dig x p : Int) := by
        have hle : x / 2 ^ (p * 2) ≤ x := Nat.div_le_self _ _
        have h := and3 (a := x / 2 ^ (p * 2)) (by omega)
        rw [show (((x / 2 ^ (p * 2) : Nat)) : Int) = (x : Int) / 2 ^ (p * 2) by simp] at h
        exact h
      simp only [iv] at hy
      gi_wp2
      clear hy hb
      refine hR.mono ?_
      rintro e W3 ⟨rfl, hJ3, hk3⟩
      have hbn3 : Boxed W3 Bn 3 (.int .i64 (x : Nat)) := hk3.1.trans hbn
      have hbm3 : Boxed W3 Bm 3 (.int .i64 (N : Nat)) := hk3.2.trans hbm
      clear cn cm hp
      gi_wp2
      go_roundw
      case rel => exact ⟨k + 1, by omega, by simp, ⟨hbn3, hbm3⟩, hJ3⟩
      case measure => simp [intOf]; omega
    · obtain rfl : k = N := by omega
      gi_wp2
      go_end0
      exact ⟨⟨_, rfl⟩, hJ⟩
set_option maxHeartbeats 1000000 in
theorem digits_in (F : Fence) (m : Nat) (h : F.fn 185) (hro : F.round = none) (x N : Int) (w : World) :
    CallsIn F m Tryz.prog 185 #[.int .i64 x, .int .i64 N] w fun e w' => e = .returned (.func (.func 208) #[] #[.pointer (some ⟨w.heap.size + 1, 0, none⟩), .pointer (some ⟨w.heap.size, 0, none⟩)]) ∧ w' = (w.alloc (.cells #[.int .i64 x] 3)).alloc (.cells #[.int .i64 N] 3) := by
  refine callsIn_of_wp Tryz.func185 rfl h ?_ hro
  simp only [Tryz.ntmps185, List.size_toArray, List.length_cons, List.length_nil, Nat.reduceAdd, Nat.reduceSub, Array.replicate_succ, Array.replicate_zero, List.push_toArray, List.append_toArray, List.nil_append, List.cons_append]
  gi_wp2
  go_ret
  exact ⟨rfl, rfl⟩
end Go.Proofs.YtechcdkakgpnkaaGreat
namespace Go.Proofs.YtechcdkakgpnkaaGreat
open Go.RowKit Go.Shelf
attribute [local go_sem] Oper.semAt_some
theorem Tryz.infoIntI : (Tryz.prog.info? 3).map (fun i => (i.zero, i.size, i.bytes)) = some (some (.int .i64 0), 1, 8) := by kernel_rfl
def SeqII (n₀ B Bn Bm x N k : Nat) (xs ys : List Value) (w : World) (j : Nat) (W : World) : Prop :=
  (((∃ v, Boxed W B 220 v ∧ W.ownsRow n₀ 3 1 v (k + j) (xs ++ ys.take j) ∧ True) ∧ (Boxed W Bn 3 (.int .i64 (x : Nat)) ∧ Boxed W Bm 3 (.int .i64 (N : Nat)))) ∧ Below n₀ w W) ∧ Spares 3 w W
theorem seqII_own {n₀ Bb Bn Bm x N k : Nat} {xs ys : List Value} {w : World} {B : Nat} (h : n₀ ≤ w.heap.size) (hB : w.heap.size ≤ B) : OwnFrom B (SeqII n₀ Bb Bn Bm x N k xs ys w) :=
  OwnFrom.and (OwnFrom.and (OwnFrom.and (Own.from (holdsRow_own n₀ Bb 220 3 1 (fun j : Nat => k + j) (fun j => xs ++ ys.take j) (fun _ _ => True)) _)
    (OwnFrom.and (Own.from (fun _ X Y row hs hg hr => blk_own Bn 3 (fun (_ : Unit) => [.int .i64 (x : Nat)]) () X Y row hs hg hr) _)
      (Own.from (fun _ X Y row hs hg hr => blk_own Bm 3 (fun (_ : Unit) => [.int .i64 (N : Nat)]) () X Y row hs hg hr) _))) (ownFrom_below h (Nat.le_trans h hB))) (ownFrom_spares hB)
def RowW (n₀ : Nat) (e : TypeId) (k : Nat) (xs : List Value) (w : World) (en : Ending) (W' : World) : Prop :=
  ∃ v', en = .returned v' ∧ W'.ownsRow n₀ e 1 v' k xs ∧ Below n₀ w W'
def RowSW (n₀ : Nat) (e : TypeId) (k : Nat) (xs : List Value) (w : World) (en : Ending) (W' : World) : Prop :=
  ∃ v', en = .returned v' ∧ W'.ownsRow n₀ e 1 v' k xs ∧ Below n₀ w W' ∧ Spares e w W'
set_option maxRecDepth 100000 in
set_option maxHeartbeats 4000000 in
theorem appendSeqI_in (m : Nat) (hm : 3 ≤ m) (n₀ k x N : Nat) (hk : k ≤ 1000000) (hx : x ≤ 16777215) (hN : N ≤ 16) (sv : Value) (xs : List Value) (Bn Bm : Nat) (w : World) (hn₀ : n₀ ≤ w.heap.size) (hrow : w.ownsRow n₀ 3 1 sv k xs)
    (kn : Boxed w Bn 3 (.int .i64 (x : Nat))) (km : Boxed w Bm 3 (.int .i64 (N : Nat))) (hne : (Bn < n₀ ∧ Bm < n₀) ∨ 2 ≤ k) :
    CallsIn Fence.wide m Tryz.prog 187 #[sv, .func (.func 208) #[] #[.pointer (some ⟨Bm, 0, none⟩), .pointer (some ⟨Bn, 0, none⟩)]] w (RowSW n₀ 3 (k + N) (xs ++ (digs x N).map iv) w) := by
  have h1 : 1 ≤ m := by omega
  obtain ⟨a, c, rfl⟩ := ownsRow_slice hrow
  refine callsIn_of_wp_marks Tryz.func187 rfl trivial ?_ rfl
  simp only [Tryz.ntmps187, List.size_toArray, List.length_cons, List.length_nil, Nat.reduceAdd, Nat.reduceSub, Array.replicate_succ, Array.replicate_zero, List.push_toArray, List.append_toArray, List.nil_append, List.cons_append]
  obtain ⟨i0, hi, hz0, hz1, hz2⟩ := info_parts Tryz.infoIntI
  gi_wp2
  generalize hW5 : World.alloc _ _ = W5
  have k0 : Boxed W5 w.heap.size 220 (.slice a k c) := by rw [← hW5]; exact Boxed.new _ _ _
  have k1 : Boxed W5 Bn 3 (.int .i64 (x : Nat)) := by rw [← hW5]; exact kn.alloc _
  have k2 : Boxed W5 Bm 3 (.int .i64 (N : Nat)) := by rw [← hW5]; exact km.alloc _
  have hB0 : Below w.heap.size w W5 := by rw [← hW5]; exact chain0 _ _
  have hrow5 : W5.ownsRow n₀ 3 1 (.slice a k c) k xs := by rw [← hW5]; exact hrow.alloc _
  have hz : W5.heap.size = w.heap.size + 1 := by rw [← hW5]; simp
  have hBnw : Bn < w.heap.size := kn.lt
  have hBmw : Bm < w.heap.size := km.lt
  clear hW5
  refine wpIn_rangeFunc_relA rfl h1 (gf := 208) (lb := #[.pointer (some ⟨Bm, 0, none⟩), .pointer (some ⟨Bn, 0, none⟩)]) rfl trivial (enters_of Tryz.func208 (by kernel_rfl) rfl)
    (digits1_rel (m - 1) (by omega) x N hx hN Bn Bm W5 k1 k2) KeepB2.t (fun X o o' h2 h3 h4 => ⟨World.putObj_heap_other (by omega), World.putObj_heap_other (by omega)⟩) (fun X => ⟨rfl, rfl⟩) (Below.refl _ _) (fun _ => rfl)
    (SeqII n₀ w.heap.size Bn Bm x N k xs ((digs x N).map iv) w) (seqII_own hn₀ (by omega))
    ⟨⟨⟨⟨_, k0, by simpa using hrow5, trivial⟩, k1, k2⟩, hB0.mono hn₀⟩, Spares.of_below hB0⟩ (fun _ _ _ _ _ _ h _ _ => h) ?_ ?_ ?_ ?_
  rotate_left
  · intro l k x W K _ hK
    gi_wp2
    exact hK
  · rintro l j y W hlt ⟨⟨⟨⟨v, kv, hown, _⟩, kn, km⟩, hB⟩, hsp⟩ hy
    have ht : ((digs x N).map iv).take (j + 1) = ((digs x N).map iv).take j ++ [iv y] := by rw [List.take_add_one, List.getElem?_map, hy]; rfl
    have HT := Lib.hid ht
    clear ht hy
    have ko := kv.cell
    have kf := kv.frozen
    have hNW : n₀ ≤ W.heap.size := Nat.le_trans hn₀ hB.size
    have hn1 := own_ne (B := Bn) hown kn (by omega)
    have hn2 := own_ne (B := Bm) hown km (by omega)
    generalize ((digs x N).map iv).take j = zs at *
    gi_wp2_with (gi_at_builtin; refine wpListIn_append_own _ rfl _ _ 220 rfl n₀ 3 i0 (.int .i64 0) 1 8 Tryz.underlying220 hi hz0 hz1 hz2 rfl (by decide) v (k + j) (xs ++ zs) rfl (hown.alloc _) ⟨W.heap.size, 0, none⟩ 1 1 [iv y] rfl rfl (cell_one_new _ _ _) (by simp [Value.oneCell']) (by unfold maxLen; omega) (by omega) (by simp; omega) ?_; intro v' w1 hown' hgrow _; obtain ⟨g, cap, rfl⟩ := ownsRow_succ hown'; obtain ⟨hv1, kv', hrow', hk3, hbw⟩ := kv.appended (by decide) hown hNW hn₀ hown' hgrow; have ko1 := hv1.cell; have kf1 := hv1.frozen)
    have kn1 : Boxed w1 Bn 3 (.int .i64 (x : Nat)) := (kn.alloc _).kept hgrow hn1
    have kn3 := kn1.kept (grownBy_setCell' w1 w.heap.size (.slice (some ⟨g, 0, none⟩) (k + j + 1) cap)) (fun e => by cases e; omega)
    have km1 : Boxed w1 Bm 3 (.int .i64 (N : Nat)) := (km.alloc _).kept hgrow hn2
    have km3 := km1.kept (grownBy_setCell' w1 w.heap.size (.slice (some ⟨g, 0, none⟩) (k + j + 1) cap)) (fun e => by cases e; omega)
    have hsp1 := ((hsp.grown (World.grownBy_alloc W (.cells #[iv y] 3) none) (fun r e => by cases e)).grown hgrow (fun r e => .inr (ownsRow_block (hown.alloc _) r e))).grown (grownBy_setCell' w1 w.heap.size (.slice (some ⟨g, 0, none⟩) (k + j + 1) cap)) (fun r e => by cases e; exact .inl (Nat.le_refl _))
    exact ⟨hk3.from _, ⟨kn3.trans kn.symm, km3.trans km.symm⟩, ⟨⟨⟨_, kv', by rw [HT.out]; simpa [Nat.add_assoc] using hrow', trivial⟩, kn3, km3⟩, hB.trans hbw⟩, hsp1⟩
  · rintro D W hD ⟨⟨⟨⟨v, kv, hown, _⟩, _⟩, hB⟩, hsp⟩ hK
    have ko := kv.cell
    have HZ := Lib.hid hz
    clear hz
    gi_wp2
    have hD' : w.heap.size ≤ D := by have := HZ.out; omega
    have hB' := hB.trans (belowK_b (w := w) hn₀ _ D _ (.deferred none) hD' hK rfl rfl)
    have hown3 := ownsRow_putObj hown (.deferred none) hK rfl
    rw [List.take_of_length_le (by simp [digs_length])] at hown3
    refine ⟨by simp, .inl ⟨_, _, rfl, run_takeDeferred hK, ?_⟩⟩
    refine ⟨v, ?_, ?_⟩
    · simp [results, Tryz.f187, go_sem]
    · exact ⟨v, rfl, hown3, hB', hsp.grown (grownBy_putObj' _ D (.deferred none)) (fun r e => by cases e; exact .inl hD')⟩
theorem collectI_in (m : Nat) (hm : 4 ≤ m) (x N : Nat) (hx : x ≤ 16777215) (hN : N ≤ 16) (Bn Bm : Nat) (w : World)
    (kn : Boxed w Bn 3 (.int .i64 (x : Nat))) (km : Boxed w Bm 3 (.int .i64 (N : Nat))) :
    CallsIn Fence.wide m Tryz.prog 184 #[.func (.func 208) #[] #[.pointer (some ⟨Bm, 0, none⟩), .pointer (some ⟨Bn, 0, none⟩)]] w (RowW w.heap.size 3 N ((digs x N).map iv) w) := by
  have h1 : 1 ≤ m := by omega
  refine callsIn_of_wp Tryz.func184 rfl trivial ?_ rfl
  simp only [Tryz.ntmps184, List.size_toArray, List.length_cons, List.length_nil, Nat.reduceAdd, Nat.reduceSub, Array.replicate_succ, Array.replicate_zero, List.push_toArray, List.append_toArray, List.nil_append, List.cons_append]
  gi_wp2_with (refine ⟨trivial, ?_⟩; gi_at_call 187; refine (appendSeqI_in (m - 1) (by omega) w.heap.size 0 x N (by omega) hx hN _ [] Bn Bm w (Nat.le_refl _) (World.ownsRow_nil _ _ _ _) kn km (.inl ⟨kn.lt, km.lt⟩)).mono ?_; rintro e w' ⟨v, rfl, hown, hb, _⟩; obtain ⟨a, c, rfl⟩ := ownsRow_slice hown)
  go_ret
  exact ⟨_, rfl, by simpa using hown, hb⟩
end Go.Proofs.YtechcdkakgpnkaaGreat
namespace Go.Proofs.YtechcdkakgpnkaaGreat
open Go.RowKit Go.Shelf
attribute [local go_sem] Oper.semAt_some
theorem Tryz.infoStr : (Tryz.prog.info? 9).map (fun i => (i.zero, i.size, i.bytes)) = some (some (.string ⟨#[]⟩), 1, 16) := by kernel_rfl
def ButRows (e : TypeId) (B l : Nat) (W W' : World) : Prop := W.heap.size ≤ W'.heap.size ∧ ∀ (j : Nat) (o : Obj), W.heap[j]? = some o → j ≠ B → j ≠ l → (∀ cur fr, o ≠ .cells cur e fr) → W'.heap[j]? = some o
theorem ButRows.refl (e : TypeId) (B l : Nat) (W : World) : ButRows e B l W W := ⟨Nat.le_refl _, fun _ _ h _ _ _ => h⟩
theorem ButRows.t {e : TypeId} {B l : Nat} {X Y Z : World} (h : ButRows e B l X Y) (k : ButRows e B l Y Z) : ButRows e B l X Z :=
  ⟨Nat.le_trans h.1 k.1, fun j o hj h1 h2 h3 => k.2 j o (h.2 j o hj h1 h2 h3) h1 h2 h3⟩
theorem ButRows.b (e : TypeId) (B l : Nat) (W : World) (o' : Obj) : ButRows e B l W (W.putObj l o') := ⟨by simp, fun j o hj _ h2 _ => (World.putObj_heap_other h2).trans hj⟩
theorem own_butRows {W W' : World} {base : Nat} {e e' : TypeId} {size k : Nat} {v : Value} {xs : List Value} {B l : Nat} (h : W.ownsRow base e size v k xs) (hs : ButRows e' B l W W') (hne : e ≠ e') (hB : B < base) (hl : l < base) : W'.ownsRow base e size v k xs := by
  obtain ⟨h1, h2⟩ := h
  refine ⟨h1, ?_⟩
  rcases h2 with h2 | ⟨g, cap, cur, rfl, hb, hh, r⟩
  · exact .inl h2
  · exact .inr ⟨g, cap, cur, rfl, hb, hs.2 g _ hh (by omega) (by omega) (fun cur' fr' e => by cases e; exact hne rfl), r⟩
def SeqTI (n₀ B k : Nat) (xs ys : List Value) (w : World) (j : Nat) (W : World) : Prop :=
  ((∃ v, Boxed W B 157 v ∧ W.ownsRow n₀ 9 1 v (k + j) (xs ++ ys.take j) ∧ True) ∧ Below n₀ w W) ∧ Spares 9 w W
theorem seqTI_own {n₀ Bb k : Nat} {xs ys : List Value} {w : World} {B : Nat} (h : n₀ ≤ w.heap.size) (hB : w.heap.size ≤ B) : OwnFrom B (SeqTI n₀ Bb k xs ys w) :=
  OwnFrom.and (OwnFrom.and (Own.from (holdsRow_own n₀ Bb 157 9 1 (fun j : Nat => k + j) (fun j => xs ++ ys.take j) (fun _ _ => True)) _)
    (ownFrom_below h (Nat.le_trans h hB))) (ownFrom_spares hB)
set_option maxRecDepth 100000 in
set_option maxHeartbeats 4000000 in
theorem appendSeqT_in (m : Nat) (hm : 3 ≤ m) (n₀ k : Nat) (hk : k ≤ 1000000) (zs : List ByteArray) (hz0 : zs.length ≤ 1000000) (sv : Value) (xs : List Value) (w : World) (hn₀ : n₀ ≤ w.heap.size) (hrow : w.ownsRow n₀ 9 1 sv k xs)
    (gf : Nat) (lb : Array Value) (eg : ∀ args w, (callFunc gf args).run Tryz.prog w = .ok (.enter gf args) w)
    (hseq : ∀ W, Below w.heap.size w W → w.heap.size < W.heap.size → SeqRel Fence.wide (m - 1) Tryz.prog gf lb zs.length (fun j r _ => ∃ y, zs[j]? = some y ∧ r = #[tv y]) (fun l A B => Below n₀ A B ∧ ButRows 9 w.heap.size l A B) W) :
    CallsIn Fence.wide m Tryz.prog 212 #[sv, .func (.func gf) #[] lb] w (RowSW n₀ 9 (k + zs.length) (xs ++ zs.map tv) w) := by
  have h1 : 1 ≤ m := by omega
  obtain ⟨a, c, rfl⟩ := ownsRow_slice hrow
  refine callsIn_of_wp_marks Tryz.func212 rfl trivial ?_ rfl
  simp only [Tryz.ntmps212, List.size_toArray, List.length_cons, List.length_nil, Nat.reduceAdd, Nat.reduceSub, Array.replicate_succ, Array.replicate_zero, List.push_toArray, List.append_toArray, List.nil_append, List.cons_append]
  obtain ⟨i0, hi, hz0', hz1, hz2⟩ := info_parts Tryz.infoStr
  gi_wp2
  generalize hW5 : World.alloc _ _ = W5
  have k0 : Boxed W5 w.heap.size 157 (.slice a k c) := by rw [← hW5]; exact Boxed.new _ _ _
  have hB0 : Below w.heap.size w W5 := by rw [← hW5]; exact chain0 _ _
  have hrow5 : W5.ownsRow n₀ 9 1 (.slice a k c) k xs := by rw [← hW5]; exact hrow.alloc _
  have hz : W5.heap.size = w.heap.size + 1 := by rw [← hW5]; simp
  clear hW5
  refine wpIn_rangeFunc_relA (encs := fun y : ByteArray => #[tv y]) rfl h1 (gf := gf) (lb := lb) rfl trivial eg
    (hseq W5 hB0 (by omega)) (fun h k => ⟨h.1.trans k.1, h.2.t k.2⟩) (fun X o o' h2 h3 h4 => ⟨belowK_b (w := w) hn₀ _ _ o o' (by omega) h2 h3 h4, ButRows.b _ _ _ X o'⟩) (fun X => ⟨Below.refl _ X, ButRows.refl _ _ _ X⟩) (Below.refl _ _) (fun _ => rfl)
    (SeqTI n₀ w.heap.size k xs (zs.map tv) w) (seqTI_own hn₀ (by omega))
    ⟨⟨⟨_, k0, by simpa using hrow5, trivial⟩, hB0.mono hn₀⟩, Spares.of_below hB0⟩ (fun _ _ _ _ _ _ h _ _ => h) ?_ ?_ ?_ ?_
  rotate_left
  · intro l j y W K _ hK
    gi_wp2
    exact hK
  · rintro l j y W hlt ⟨⟨⟨v, kv, hown, _⟩, hB⟩, hsp⟩ hy
    have ht : (zs.map tv).take (j + 1) = (zs.map tv).take j ++ [tv y] := by rw [List.take_add_one, List.getElem?_map, hy]; rfl
    have HT := Lib.hid ht
    clear ht hy
    have ko := kv.cell
    have kf := kv.frozen
    have hNW : n₀ ≤ W.heap.size := Nat.le_trans hn₀ hB.size
    have HZ := Lib.hid hz
    clear hz
    generalize (zs.map tv).take j = ts at *
    gi_wp2_with (gi_at_builtin; refine wpListIn_append_own _ rfl _ _ 157 rfl n₀ 9 i0 (.string ⟨#[]⟩) 1 16 Tryz.underlying157 hi hz0' hz1 hz2 rfl (by decide) v (k + j) (xs ++ ts) rfl (hown.alloc _) ⟨W.heap.size, 0, none⟩ 1 1 [tv y] rfl rfl (cell_one_new _ _ _) (by simp [Value.oneCell']) (by unfold maxLen; omega) (by omega) (by simp; omega) ?_; intro v' w1 hown' hgrow _; obtain ⟨g, cap, rfl⟩ := ownsRow_succ hown'; obtain ⟨hv1, kv', hrow', hk3, hbw⟩ := kv.appended (by decide) hown hNW hn₀ hown' hgrow; have ko1 := hv1.cell; have kf1 := hv1.frozen)
    have hspW : Spares 9 W w1 := ((Spares.of_below (Below.refl _ W)).grown (World.grownBy_alloc W (.cells #[tv y] 9) none) (fun r e => by cases e)).grown hgrow (fun r e => .inr (ownsRow_block (hown.alloc _) r e))
    have hbut : ButRows 9 w.heap.size (W5.heap.size + 1) W (w1.setCell ⟨w.heap.size, 0, none⟩ (.slice (some ⟨g, 0, none⟩) (k + j + 1) cap)) :=
      ⟨Nat.le_trans hspW.1 (grownBy_setCell' w1 w.heap.size (.slice (some ⟨g, 0, none⟩) (k + j + 1) cap)).size, fun i o hi' h1' _ h3' => (Below.heap_setCell w1 ⟨w.heap.size, 0, none⟩ _ i h1').trans (hspW.2 i o hi' h3')⟩
    have hsp1 := (hsp.t hspW).grown (grownBy_setCell' w1 w.heap.size (.slice (some ⟨g, 0, none⟩) (k + j + 1) cap)) (fun r e => by cases e; exact .inl (Nat.le_refl _))
    exact ⟨hk3.from _, ⟨hbw, hbut⟩, ⟨⟨_, kv', by rw [HT.out]; simpa [Nat.add_assoc] using hrow', trivial⟩, hB.trans hbw⟩, hsp1⟩
  · rintro D W hD ⟨⟨⟨v, kv, hown, _⟩, hB⟩, hsp⟩ hK
    have ko := kv.cell
    have HZ := Lib.hid hz
    clear hz
    gi_wp2
    have hD' : w.heap.size ≤ D := by have := HZ.out; omega
    have hB' := hB.trans (belowK_b (w := w) hn₀ _ D _ (.deferred none) hD' hK rfl rfl)
    have hown3 := ownsRow_putObj hown (.deferred none) hK rfl
    rw [List.take_of_length_le (by simp)] at hown3
    refine ⟨by simp, .inl ⟨_, _, rfl, run_takeDeferred hK, ?_⟩⟩
    refine ⟨v, ?_, ?_⟩
    · simp [results, Tryz.f212, go_sem]
    · exact ⟨v, rfl, hown3, hB', hsp.grown (grownBy_putObj' _ D (.deferred none)) (fun r e => by cases e; exact .inl hD')⟩
theorem collectT_in (m : Nat) (hm : 4 ≤ m) (zs : List ByteArray) (hz0 : zs.length ≤ 1000000) (w : World)
    (gf : Nat) (lb : Array Value) (eg : ∀ args w, (callFunc gf args).run Tryz.prog w = .ok (.enter gf args) w)
    (hseq : ∀ W, Below w.heap.size w W → w.heap.size < W.heap.size → SeqRel Fence.wide (m - 1 - 1) Tryz.prog gf lb zs.length (fun j r _ => ∃ y, zs[j]? = some y ∧ r = #[tv y]) (fun l A B => Below w.heap.size A B ∧ ButRows 9 w.heap.size l A B) W) :
    CallsIn Fence.wide m Tryz.prog 190 #[.func (.func gf) #[] lb] w (RowW w.heap.size 9 zs.length (zs.map tv) w) := by
  have h1 : 1 ≤ m := by omega
  refine callsIn_of_wp Tryz.func190 rfl trivial ?_ rfl
  simp only [Tryz.ntmps190, List.size_toArray, List.length_cons, List.length_nil, Nat.reduceAdd, Nat.reduceSub, Array.replicate_succ, Array.replicate_zero, List.push_toArray, List.append_toArray, List.nil_append, List.cons_append]
  gi_wp2_with (refine ⟨trivial, ?_⟩; gi_at_call 212; refine (appendSeqT_in (m - 1) (by omega) w.heap.size 0 (by omega) zs hz0 _ [] w (Nat.le_refl _) (World.ownsRow_nil _ _ _ _) gf lb eg hseq).mono ?_; rintro e w' ⟨v, rfl, hown, hb, _⟩; obtain ⟨a, c, rfl⟩ := ownsRow_slice hown)
  go_ret
  exact ⟨_, rfl, by simpa using hown, hb⟩
end Go.Proofs.YtechcdkakgpnkaaGreat
namespace Go.Proofs.YtechcdkakgpnkaaGreat
open Go.RowKit Go.Shelf
set_option maxRecDepth 100000 in
set_option maxHeartbeats 2000000 in
theorem short_any {o : Nat} (sv : Value) (w : World) (zs : List (SX o w.heap.size w)) (hreach : zs.length ≤ 140737488351232) (hfl : (flat zs).length ≤ 140737488353000) (hsv : SSl w.heap.size w sv zs) :
    Calls Tryz.prog 173 #[sv] w fun e W' => e = .returned (.string ((sumS (flat zs)).extract 0 8)) ∧ Below w.heap.size w W' := by
  have hsv0 := hsv
  obtain ⟨a, cap, rfl, _⟩ := hsv
  go_enter Tryz.func173, Tryz.ntmps173
  go_wp2_with fail
  refine (text_any _ _ zs hreach hfl hsv0).mono ?_
  rintro e w1 ⟨rfl, hb1⟩
  have h8 : 8 ≤ (sumS (flat zs)).size := by rw [sumS_size]; omega
  have h8' : (8 : Int) ≤ ((sumS (flat zs)).size : Int) := by omega
  generalize hs : sumS (flat zs) = s at *
  have HS := Lib.hid hs
  clear hs
  go_wp2_with fail
  go_ret
  exact ⟨by rw [HS.out]; rfl, hb1⟩
end Go.Proofs.YtechcdkakgpnkaaGreat
namespace Go.Proofs.YtechcdkakgpnkaaGreat
open Go.RowKit Go.Shelf
def shortB (l : List UInt8) : ByteArray := (sumS l).extract 0 8
theorem shortB_list (l : List UInt8) : (shortB l).data.toList = (sumL cb sq l).take 8 := by
  unfold shortB sumS
  simp [ByteArray.extract, ByteArray.copySlice]
theorem shortB_size (l : List UInt8) : (shortB l).size = 8 := by
  show (shortB l).data.size = 8
  rw [← Array.length_toList, shortB_list, List.length_take, show (sumL cb sq l).length = 32 from sumTo_length _ 8]
  rfl
theorem sx_list {o n : Nat} {w : World} : ∀ (vls : List (Value × List UInt8)), (∀ p ∈ vls, BSl 0 n w p.1 p.2 ∧ p.2.length ≤ o) → ∃ zs : List (SX o n w), zs.map (fun x => x.1) = vls
  | [], _ => ⟨[], rfl⟩
  | p :: vls, h => by
    obtain ⟨zs, hz⟩ := sx_list vls (fun q hq => h q (List.mem_cons_of_mem _ hq))
    exact ⟨⟨p, h p List.mem_cons_self⟩ :: zs, by rw [List.map_cons, hz]⟩
theorem flat_of {o n : Nat} {w : World} {zs : List (SX o n w)} {vls : List (Value × List UInt8)} (h : zs.map (fun x => x.1) = vls) : flat zs = (vls.map (·.2)).flatten := by
  rw [← h, List.map_map]; rfl
theorem short_of (W : World) (sv : Value) (vls : List (Value × List UInt8)) (hn : vls.length ≤ 1000000) (h : ∀ p ∈ vls, BSl 0 W.heap.size W p.1 p.2 ∧ p.2.length ≤ 140737488353000) (hfl : (vls.map (·.2)).flatten.length ≤ 140737488353000) (hsv : VSl 0 W.heap.size W sv (vls.map (·.1))) :
    Calls Tryz.prog 173 #[sv] W fun e W' => e = .returned (.string (shortB (vls.map (·.2)).flatten)) ∧ Below W.heap.size W W' := by
  obtain ⟨zs, hz⟩ := sx_list (o := 140737488353000) vls h
  have hl : zs.length = vls.length := by rw [← hz, List.length_map]
  have hf := flat_of hz
  have := short_any sv W zs (by omega) (by rw [hf]; exact hfl) (by
    obtain ⟨a, cap, e, _, h0⟩ := hsv
    refine ⟨a, cap, by rw [e, List.length_map, hl], ?_⟩
    rcases h0 with h0 | ⟨b, off, ha, _, hb, hr⟩
    · left
      apply List.eq_nil_of_length_eq_zero
      rw [hl]
      simpa using congrArg List.length h0
    · refine .inr ⟨b, off, ha, hb, fun k x hx => hr k _ ?_⟩
      rw [List.getElem?_map, ← hz, List.getElem?_map, hx]
      rfl)
  rw [hf] at this
  exact this
theorem short_one (W : World) (v : Value) (l : List UInt8) (h : BSl 0 W.heap.size W v l) (hl : l.length ≤ 140737488353000) :
    Calls Tryz.prog 173 #[.slice (some ⟨W.heap.size, 0, none⟩) 1 1] (W.alloc (.cells #[v] 35)) fun e W' => e = .returned (.string (shortB l)) ∧ Below W.heap.size W W' := by
  have hb : Below W.heap.size W (W.alloc (.cells #[v] 35)) := chain0 _ _
  have hs := short_of (W.alloc (.cells #[v] 35)) (.slice (some ⟨W.heap.size, 0, none⟩) 1 1) [(v, l)] (by simp) (fun p hp => by
    rw [List.mem_singleton] at hp
    subst hp
    exact ⟨(h.below hb (Nat.le_refl _)).mono (Nat.le_refl _) hb.size, hl⟩) (by simpa using hl) ⟨_, 1, rfl, Nat.le_refl _, .inr ⟨_, 0, rfl, Nat.zero_le _, by simp, fun k x hx => by
      have hk : k = 0 := by have := (List.getElem?_eq_some_iff.1 hx).1; simp at this; omega
      subst hk
      cases hx
      exact (Boxed.new W 35 v).cell⟩⟩
  refine hs.mono fun e W' ⟨he, hb2⟩ => ⟨?_, chain hb hb2⟩
  rw [he]
  simp
def linkB (s : ByteArray) : Nat → ByteArray
  | 0 => s
  | k + 1 => shortB (linkB s k).data.toList
theorem linkB_size (s : ByteArray) (k : Nat) : (linkB s k).size ≤ max s.size 8 := by
  cases k with
  | zero => exact Nat.le_max_left _ _
  | succ k => rw [show linkB s (k + 1) = shortB _ from rfl, shortB_size]; exact Nat.le_max_right _ _
end Go.Proofs.YtechcdkakgpnkaaGreat
namespace Go.Proofs.YtechcdkakgpnkaaGreat
open Go.RowKit Go.Shelf
theorem own_same {W W' : World} {base : Nat} {e : TypeId} {size k : Nat} {v : Value} {xs : List Value} (h : W.ownsRow base e size v k xs) (hk : ∀ g, v.ownBlock = some g → W'.heap[g]? = W.heap[g]?) : W'.ownsRow base e size v k xs := by
  obtain ⟨h1, h2⟩ := h
  refine ⟨h1, ?_⟩
  rcases h2 with h2 | ⟨g, cap, cur, rfl, hb, hh, r⟩
  · exact .inl h2
  · exact .inr ⟨g, cap, cur, rfl, hb, (hk g rfl).trans hh, r⟩
theorem own_below {W W' : World} {base : Nat} {e : TypeId} {size k : Nat} {v : Value} {xs : List Value} (h : W.ownsRow base e size v k xs) (hb : Below W.heap.size W W') : W'.ownsRow base e size v k xs :=
  own_same h fun g hg => hb.block g (World.ownsRow.lt h g hg).2
theorem own_turn {W W' : World} {row : Option Nat} {base : Nat} {e : TypeId} {size k : Nat} {v : Value} {xs : List Value} (h : W.ownsRow base e size v k xs) (hg : W.grownBy W' row) (hrow : ∀ r, row = some r → ∃ o : Obj, W.heap[r]? = some o ∧ o.isCells = false) : W'.ownsRow base e size v k xs :=
  own_same h fun g hgb => hg.block g (World.ownsRow.lt h g hgb).2 (fun e' => by
    obtain ⟨o, ho, hc⟩ := hrow g e'.symm
    obtain ⟨cur, fr, hcc⟩ := ownsRow_block h g hgb
    rw [hcc] at ho; cases ho; cases hc)
theorem own_base {W : World} {base base' : Nat} {e : TypeId} {size k : Nat} {v : Value} {xs : List Value} (h : W.ownsRow base e size v k xs) (hb : base' ≤ base) : W.ownsRow base' e size v k xs := by
  obtain ⟨h1, h2⟩ := h
  refine ⟨h1, ?_⟩
  rcases h2 with h2 | ⟨g, cap, cur, rfl, hg, r⟩
  · exact .inl h2
  · exact .inr ⟨g, cap, cur, rfl, Nat.le_trans hb hg, r⟩
def Pieces (N : Nat) (W : World) (vs : List Value) (bs : List (List UInt8)) : Prop := vs.length = bs.length ∧ ∀ (k : Nat) (v : Value) (b : List UInt8), vs[k]? = some v → bs[k]? = some b → W.ownsRow N 5 1 v b.length (b.map bv)
theorem Pieces.to {N : Nat} {W W' : World} {vs : List Value} {bs : List (List UInt8)} (h : Pieces N W vs bs) (hk : ∀ v b, W.ownsRow N 5 1 v b.length (b.map bv) → W'.ownsRow N 5 1 v (b : List UInt8).length (b.map bv)) : Pieces N W' vs bs :=
  ⟨h.1, fun k v b hv hb => hk v b (h.2 k v b hv hb)⟩
theorem Pieces.snoc {N : Nat} {W : World} {vs : List Value} {bs : List (List UInt8)} (h : Pieces N W vs bs) {v : Value} {b : List UInt8} (hb : W.ownsRow N 5 1 v b.length (b.map bv)) : Pieces N W (vs ++ [v]) (bs ++ [b]) :=
  ⟨by simp [h.1], fun k v' b' hv hb' => by
    by_cases hk : k < vs.length
    · rw [List.getElem?_append_left hk] at hv
      rw [List.getElem?_append_left (by rw [← h.1]; exact hk)] at hb'
      exact h.2 k v' b' hv hb'
    · have hkl : k = vs.length := by have := (List.getElem?_eq_some_iff.1 hv).1; simp at this; omega
      subst hkl
      rw [List.getElem?_append_right (Nat.le_refl _)] at hv
      rw [List.getElem?_append_right (by rw [h.1]; exact Nat.le_refl _), h.1] at hb'
      simp at hv hb'
      rw [← hv, ← hb']; exact hb⟩
end Go.Proofs.YtechcdkakgpnkaaGreat
