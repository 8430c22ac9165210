/-
  hash.blocks: a padded text block by block, each as its words.
-/
import Derived.Test.YtneilnfjnbecbaaGoes
import Derived.Test.YtneilnfjnbecbaaArrIn
import Derived.Test.YtneilnfjnbecbaaChunk
import Derived.Test.YtneilnfjnbecbaaBlobInt
import Derived.Test.YtneilnfjnbecbaaRefBlock
import Derived.Test.YtneilnfjnbecbaaRefOver
import Derived.Outline
namespace Go.Proofs.Ytneilnfjnbecbaa
open Go.RowKit Go.Shelf
attribute [local go_sem] Oper.semAt_some

theorem chunk_all (m : Nat) (hm : 1 ≤ m) (Bs Bn b off cap L s : Nat) (hL : L ≤ 140737488354000) (hcap : L ≤ cap) (hcap' : cap ≤ 9223372036854775807) (hs : 1 ≤ s) (hs' : s ≤ 9223372036854775807)
    (w : World) (k1 : Boxed w Bs 22 (.slice (some ⟨b, off, none⟩) L cap)) (k2 : Boxed w Bn 3 (.int .i64 (s : Nat))) :
    SeqAll Fence.wide m Try.prog 73 #[.pointer (some ⟨Bs, 0, none⟩), .pointer (some ⟨Bn, 0, none⟩)] (cpEnc b off) (fun _ => KeepB2 Bs Bn) (chs L s) w := fun l J W hW _ _ hJ hY h0 => by
  have q1 : Boxed W Bs 22 (.slice (some ⟨b, off, none⟩) L cap) := (hW.block Bs k1.lt).trans k1
  have q2 : Boxed W Bn 3 (.int .i64 (s : Nat)) := (hW.block Bn k2.lt).trans k2
  refine (chunk1_in Fence.wide m trivial rfl hm l Bs Bn b off cap L s hL hcap hcap' hs hs' J (fun _ _ => False) W (fun k X hX => hJ k X X.drew none hX ⟨rfl, rfl, rfl, Nat.le_refl _, fun _ _ _ => rfl⟩ (by simp)) (fun k W1 hj hk => (hY k (chn L s k) W1 (chs_at hk) hj).mono (fun e W' h => .inl h)) q1 q2 h0).mono ?_
  rintro e W' ⟨he, hj | ⟨_, _, h⟩⟩
  · exact ⟨he, by rw [chs_length]; exact hj⟩
  · exact h.elim

/-- The words of a padded text's blocks, each as it is handed on. -/
def blkWords (p : List UInt8) (N : Nat) : List (Nat → Int) := (List.range N).map fun n => wd (blk p n)
theorem blkWords_at (p : List UInt8) {N k : Nat} (h : k < N) : (blkWords p N)[k]? = some (wd (blk p k)) := by unfold blkWords; rw [List.getElem?_map, List.getElem?_range h]; rfl

set_option maxHeartbeats 1000000 in
theorem blocks_in (F : Fence) (m : Nat) (h5 : F.fn 42) (hro : F.round = none) (a : Option Addr) (len cap : Nat) (w : World) :
    CallsIn F m Try.prog 42 #[.slice a len cap] w fun e w' => e = .returned (.func (.func 60) #[] #[.pointer (some ⟨w.heap.size, 0, none⟩)]) ∧ w' = w.alloc (.cells #[.slice a len cap] 22) := by
  refine callsIn_of_wp Try.func42 rfl h5 ?_ hro
  simp only [Try.ntmps42, List.size_toArray, List.length_cons, List.length_nil, Nat.reduceAdd, Nat.reduceSub, Array.replicate_succ, Array.replicate_zero, List.push_toArray, List.append_toArray, List.nil_append, List.cons_append]
  gi_wp2
  go_ret
  exact ⟨rfl, rfl⟩

theorem us0_16 : us (fun _ => 0) 16 = [.int .u32 0, .int .u32 0, .int .u32 0, .int .u32 0, .int .u32 0, .int .u32 0, .int .u32 0, .int .u32 0, .int .u32 0, .int .u32 0, .int .u32 0, .int .u32 0, .int .u32 0, .int .u32 0, .int .u32 0, .int .u32 0] := rfl

set_option maxRecDepth 100000 in
set_option maxHeartbeats 8000000 in
theorem blocks1_all (m : Nat) (hm : 6 ≤ m) (B Bp pb po cap N : Nat) (p : List UInt8) (hp : p.length = 64 * N) (hN : 1 ≤ N) (hreach : p.length ≤ 140737488354000) (hcap : p.length ≤ cap) (hcap' : cap ≤ 9223372036854775807)
    (w : World) (hB : B < w.heap.size) (hpB : pb ≠ B) (hpb : pb < w.heap.size) (hpo : Octs w pb po p) (k1 : Boxed w Bp 22 (.slice (some ⟨pb, po, none⟩) p.length cap)) :
    SeqAll Fence.wide m Try.prog 60 #[.pointer (some ⟨Bp, 0, none⟩)] (fun f => #[uv f 16]) (AllBut B) (blkWords p N) w := fun l J W hW hl0 hl hJ hY h0 => by
  have kp : Boxed W Bp 22 (.slice (some ⟨pb, po, none⟩) p.length cap) := (hW.block Bp k1.lt).trans k1
  replace hpo := hpo.below hW hpb
  have hWs := hW.size
  have hpc := kp.cell
  have h1 : 1 ≤ m := by omega
  generalize hq : p.length = q at *
  have HQ := Lib.hid hq
  have HP := Lib.hid hp
  clear hq hp
  have hBpl := kp.lt
  refine callsIn_of_wp_marks Try.func60 rfl trivial ?_ rfl
  simp only [Try.ntmps60, List.size_toArray, List.length_cons, List.length_nil, Nat.reduceAdd, Nat.reduceSub, Array.replicate_succ, Array.replicate_zero, List.push_toArray, List.append_toArray, List.nil_append, List.cons_append]
  gi_wp2_with (refine ⟨trivial, ?_⟩; gi_at_call 61; refine (chunk_in Fence.wide (m - 1) trivial rfl _ _ _ _ (by omega) _).mono ?_; rintro e w' ⟨rfl, rfl⟩)
  generalize hW5 : World.alloc _ _ = W5
  have kY : Boxed W5 W.heap.size 86 (.func (.yield l) #[] #[]) := by rw [← hW5]; exact ((Boxed.new _ _ _).alloc _).alloc _
  have c1 : Boxed W5 (W.heap.size + 1) 22 (.slice (some ⟨pb, po, none⟩) q cap) := by rw [← hW5]; exact (Blk.new' (vs := [_]) (by simp)).alloc _
  have c2 : Boxed W5 (W.heap.size + 1 + 1) 3 (.int .i64 ((64 : Nat) : Int)) := by rw [← hW5]; exact Blk.new' (vs := [.int .i64 64]) (by simp)
  have hB5 : Below W.heap.size W W5 := by rw [← hW5]; exact chainA (chainA (chain0 _ _) _) _
  have hz5 : W5.heap.size = W.heap.size + 3 := by rw [← hW5]; simp
  clear hW5
  have hpbW : pb < W.heap.size := Nat.lt_of_lt_of_le hpb hWs
  have hq64 : chc q 64 = N := by unfold chc; have := HP.out; omega
  obtain ⟨cur, ct, cfr, hcells⟩ : ∃ cur ct cfr, W.heap[pb]? = some (.cells cur ct cfr) := by
    obtain ⟨x, hx⟩ : ∃ x, p[0]? = some x := ⟨_, List.getElem?_eq_getElem (by have := HQ.out; have := HP.out; omega)⟩
    have hc := hpo 0 x hx
    simp only [World.cell?] at hc
    cases hh : W.heap[pb]? with
    | none => rw [hh] at hc; simp at hc
    | some o =>
      rw [hh] at hc
      cases o <;> first | exact ⟨_, _, _, rfl⟩ | (simp at hc)
  refine wpIn_rangeFunc_allA (ys := chs q 64) rfl h1 (gf := 73) (lb := #[.pointer (some ⟨W.heap.size + 1, 0, none⟩), .pointer (some ⟨W.heap.size + 1 + 1, 0, none⟩)]) rfl trivial (enters_of Try.func73 (by kernel_rfl) rfl)
    (chunk_all (m - 1) (by omega) (W.heap.size + 1) (W.heap.size + 1 + 1) pb po cap q 64 (by omega) hcap hcap' (by omega) (by omega) W5 c1 c2) KeepB2.t (fun X o o' h2 h3 h4 => ⟨World.putObj_heap_other (by omega), World.putObj_heap_other (by omega)⟩) (fun X => ⟨rfl, rfl⟩) (Below.refl _ _) (fun _ => rfl)
    (fun k X => (J k X ∧ KeepB pb W X) ∧ (Boxed X W.heap.size 86 (.func (.yield l) #[] #[]) ∧ Boxed X (W.heap.size + 1) 22 (.slice (some ⟨pb, po, none⟩) q cap) ∧ Boxed X (W.heap.size + 1 + 1) 3 (.int .i64 ((64 : Nat) : Int))) ∧ W5.heap.size ≤ X.heap.size)
    (fun k X Y row ⟨⟨hj, hk⟩, ⟨hy, hc1, hc2⟩, hsz⟩ hg hr => ⟨⟨hJ k X Y row hj hg (fun r e => ⟨by have := (hr r e).1; omega, (hr r e).2⟩), (hg.block pb (by omega) (fun e => by have := (hr _ e.symm).1; omega)).trans hk⟩, ⟨boxed_own _ _ (fun _ : Unit => _) () X Y row hy hg (fun r e => (hr r e).2), boxed_own _ _ (fun _ : Unit => _) () X Y row hc1 hg (fun r e => (hr r e).2), boxed_own _ _ (fun _ : Unit => _) () X Y row hc2 hg (fun r e => (hr r e).2)⟩, Nat.le_trans hsz hg.size⟩)
    ⟨⟨hJ 0 W W5 none h0 (grown_of_below hB5) (by simp), hB5.block pb hpbW⟩, ⟨kY, c1, c2⟩, Nat.le_refl _⟩ ?_ ?_ ?_ ?_
  rotate_left
  · intro l' x X K hK
    gi_wp2
    exact hK
  · rintro l' k x X hx ⟨⟨hj, hkp⟩, ⟨hy, hc1, hc2⟩, hsz⟩
    have hk : k < N := by have := (List.getElem?_eq_some_iff.1 hx).1; rw [chs_length, hq64] at this; exact this
    rw [chs_at (by rw [hq64]; exact hk)] at hx
    obtain rfl := (Option.some.inj hx).symm
    have hlp : 64 * k + 64 ≤ p.length := by rw [HQ.out, HP.out]; omega
    have hchn : chn q 64 k = ⟨(64 * k, 64), by rw [← HQ.out]; exact hlp⟩ := by
      rw [chn_of (by rw [HP.out]; omega)]
      apply Subtype.ext
      show (k * 64, min 64 (q - k * 64)) = _
      rw [Nat.mul_comm k 64, Nat.min_eq_left (by rw [HP.out]; omega)]
    rw [hchn]
    have hoX : Octs X pb (po + 64 * k) (blk p k) := sub_octs (fun j z hz => (World.cell?_of_block (a := ⟨pb, _, none⟩) hkp).trans (hpo j z hz)) (64 * k) 64
    have hlb : (blk p k).length = 64 := by unfold blk; simp; omega
    have hpX : pb < X.heap.size := by omega
    clear hchn
    gi_wp2_with fail
    gi_loopw [9] (fun i wr => ∃ t : Nat, t ≤ 16 ∧ i = .int .i64 t ∧ Blk wr X.heap.size 68 (us (fun j => if j < t then wd (blk p k) j else 0) 16) ∧ Below X.heap.size X wr) (fun i _ => 16 - (intOf i).toNat)
    case atStart => exact ⟨0, by omega, rfl, by rw [us_congr (g := fun _ => 0) (fun t _ => if_neg (by omega)), us0_16]; exact Blk.new' rfl, chain0 _ _⟩
    case round =>
      obtain ⟨t, ht, rfl, kA, hbel⟩ := hrel
      by_cases hlt : t < 16
      · have cA := (kA.cell t).trans (us_at _ hlt)
        have fA := kA.frozen t
        have i1 : (t : Int) < 16 := by omega
        have i2 : (0 : Int) ≤ (t : Int) * 4 := by omega
        have i3 : (t : Int) * 4 ≤ 64 := by omega
        have i4 : ¬ 64 = t * 4 := by omega
        have n1 : ((t : Int) * 4).toNat = t * 4 := by omega
        gi_wp2_with fail
        rw [Nat.mul_comm t 4]
        have hpw : pb < wr.heap.size := Nat.lt_of_lt_of_le hpX hbel.size
        have hbsl := sub_bsl (hoX.below hbel hpX) hpw (4 * t) 4 (by rw [hlb]; omega) (show 4 ≤ 64 - 4 * t by omega)
        refine ⟨trivial, fun h => (by cases h), ?_⟩
        refine (CallsIn.inRound l' (callsIn_wide.2 (blobInt_any (((blk p k).drop (4 * t)).take 4) _ wr (by simp; omega) hbsl))).mono ?_
        rintro e w2 ⟨rfl, hb2⟩
        obtain ⟨hw, hw0, hw1⟩ := wd_be (l := blk p k) t
        rw [hw]
        have kA2 := kA.below hb2 kA.lt
        have hX2 : Below X.heap.size X w2 := chain hbel hb2
        have cA2 := (kA2.cell t).trans (us_at _ hlt)
        have fA2 := kA2.frozen t
        have HU : Hid (us (updI (fun j => if j < t then wd (blk p k) j else 0) t (wd (blk p k) t)) 16 = us (fun j => if j < t + 1 then wd (blk p k) j else 0) 16) := Lib.hid (us_congr fun j _ => by
          unfold updI
          by_cases e1 : j = t
          · subst e1; rw [if_pos rfl, if_pos (by omega)]
          · rw [if_neg e1]
            show (if j < t then wd (blk p k) j else 0) = _
            by_cases e2 : j < t
            · rw [if_pos e2, if_pos (by omega)]
            · rw [if_neg e2, if_neg (by omega)])
        clear hw cA fA i2 i3 i4 n1
        generalize hx : wd (blk p k) t = x at *
        gi_wp2_with fail
        have kA' := kA2.set t (.int .u32 x)
        rw [us_set, HU.out] at kA'
        go_roundw
        case rel => exact ⟨t + 1, by omega, by simp, kA', hX2.setCell (p := ⟨X.heap.size, _, none⟩) (by simp) _⟩
        case measure => simp [intOf]; omega
      · obtain rfl : t = 16 := by omega
        rw [us_congr (g := wd (blk p k)) (fun j hj => if_pos hj)] at kA
        obtain ⟨fn, tmps, assign, body, hyr, hR⟩ := hY k (wd (blk p k)) wr (blkWords_at p hk) (hJ k X wr none hj (grown_of_below hbel) (by simp))
        have hyc : wr.cell? ⟨W.heap.size, 0, none⟩ = some (.func (.yield l) #[] #[]) := (hbel.cell (p := ⟨W.heap.size, 0, none⟩) hy.lt).trans hy.cell
        gi_wp2_with (with_reducible refine arrIn_load arr16 rfl (.tmp 4) rfl X.heap.size rfl 68 (wd (blk p k)) kA ?_)
        refine ⟨fun h => (by cases h), ?_⟩
        refine (roundIn_any hR).mono ?_
        rintro e W3 ⟨rfl, hJ3, hk3⟩
        clear hyr
        gi_wp2_with fail
        have hXW : AllBut B l X W3 := (AllBut.of_below hbel).t hk3
        have ly := hy.lt
        have l1 := hc1.lt
        have l2 := hc2.lt
        refine ⟨⟨hXW.1, fun j o hBj hj ho => (hXW.2 j (Array.getElem?_eq_some_iff.1 hj).1 (by omega) (by omega)).trans hj⟩, ⟨hXW.2 _ l1 (by omega) (by omega), hXW.2 _ l2 (by omega) (by omega)⟩, ⟨hJ3, (hXW.2 pb hpX hpB (by omega)).trans hkp⟩, ⟨(hXW.2 _ ly (by omega) (by omega)).trans hy, (hXW.2 _ l1 (by omega) (by omega)).trans hc1, (hXW.2 _ l2 (by omega) (by omega)).trans hc2⟩, Nat.le_trans hsz hXW.1⟩
  · rintro D X hD ⟨⟨hj, _⟩, _, _⟩ hK
    rw [chs_length, hq64] at hj
    gi_wp2_with fail
    refine ⟨by simp, .inl ⟨_, _, rfl, run_takeDeferred hK, ?_⟩⟩
    refine ⟨_, results_none rfl _ _ _, ⟨_, rfl⟩, ?_⟩
    rw [show (blkWords p N).length = N by simp [blkWords]]
    exact hJ.putObj _ hj (by omega) hK rfl
end Go.Proofs.Ytneilnfjnbecbaa
