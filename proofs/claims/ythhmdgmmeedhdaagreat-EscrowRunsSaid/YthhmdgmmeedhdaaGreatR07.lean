/-
  The reference's Cat; The reference's Pad; The reference's Over and Sum; hash.blocks: a padded text block by block, each as its words; hash.mix: the state behind all rounds; hash.Sum; hash.Text; The sum of one text, by hash.Text; A new Out; octets that are handed back; A transfer's key, the digest of a side, the payload of an act; The words of a wide number's 32 octets; What is put of fields, and r
-/
import Derived.StillTailTactics
import Derived.Outline
import Derived.IntWalk
import Derived.Deep.QuietTactic
import Derived.BigQuiet
import Derived.StillTactics
import Derived.Maps.Range
import Derived.Deep.Cut
import Derived.Laws.BitsLemmas
import Derived.Lib.ConvBytes
import Derived.Laws.AppendOwn
import Derived.OrdersIn
import Derived.WalkKit
import Derived.CallsIn
import Derived.TacticsInMore
import Derived.Test.YthhmdgmmeedhdaaGreatR06
namespace Go.Proofs.YthhmdgmmeedhdaaGreat
open Go.RowKit Go.Shelf
set_option maxRecDepth 100000 in
set_option maxHeartbeats 2000000 in
theorem refCat_any (l1 l2 : List UInt8) (s1 s2 : Value) (w : World) {lo1 lo2 : Nat} (hreach : l1.length + l2.length ≤ 140737488355328) (h1 : BSl lo1 w.heap.size w s1 l1) (h2 : BSl lo2 w.heap.size w s2 l2) :
  Calls Tryz.prog 121 #[s1, s2] w (ByO (l1 ++ l2) w) := by
 obtain ⟨i0, hi, hz0, hz1, hz2⟩ := info_parts Tryz.infoByte
 have h1' := h1
 have h2' := h2
 obtain ⟨a1, c1, rfl, _⟩ := h1'
 obtain ⟨a2, c2, rfl, _⟩ := h2'
 generalize hn1 : l1.length = n1 at *
 generalize hn2 : l2.length = n2 at *
 have HN1 := Lib.hid hn1
 have HN2 := Lib.hid hn2
 clear hn1 hn2
 go_enter Tryz.func121, Tryz.ntmps121
 go_wp2_with (first
  | (at_builtin; refine wpList_append_b _ rfl _ _ 95 rfl w.heap.size 5 i0 (.int .u8 0) Tryz.underlying95 hi hz0 hz1 hz2 rfl _ 0 [] rfl (World.ownsRow_lit w #[] 0 (Nat.le_refl _) (by unfold maxLen; omega) rfl) _ l1 rfl (h1.below ((Below.refl w.heap.size w).alloc (Nat.le_refl _) _) (Nat.le_refl _)) (by rw [HN1.out]; omega) (by simp) ?_; intro v' w1 hown' hgrow; (have hb1 : Below w.heap.size w w1 := (chain0 w _).grown hgrow (by simp) (fun k e => by have : w.heap.size = k := Option.some.inj e; omega)); have h21 := h2.below hb1 (Nat.le_refl _); rw [Nat.zero_add, List.nil_append] at hown')
  | (at_builtin; refine wpList_append_b _ rfl _ _ 95 rfl w.heap.size 5 i0 (.int .u8 0) Tryz.underlying95 hi hz0 hz1 hz2 rfl _ l1.length (l1.map bv) rfl hown' _ l2 rfl h21 (by rw [HN1.out, HN2.out]; omega) hb1.size ?_; intro v2 w2 hown2 hgrow2))
 go_ret
 refine ⟨_, rfl, ?_, hb1.grown hgrow2 hb1.size (fun j hj => (World.ownsRow.lt hown' j hj).1)⟩
 rw [List.length_append, List.map_append]
 exact hown2
end Go.Proofs.YthhmdgmmeedhdaaGreat
namespace Go.Proofs.YthhmdgmmeedhdaaGreat
open Go.RowKit Go.Shelf
def slLen : Value → Nat
 | .slice _ n _ => n
 | _ => 0
def midL (l : List UInt8) (j : Nat) : List UInt8 := l ++ [128] ++ List.replicate j 0
theorem midL_length (l : List UInt8) (j : Nat) : (midL l j).length = l.length + 1 + j := by simp [midL]; omega
theorem midL_succ (l : List UInt8) (j : Nat) : midL l (j + 1) = midL l j ++ [0] := by
 unfold midL; rw [List.replicate_succ', ← List.append_assoc]
theorem own_below4 {W W' : World} {base : Nat} {e : TypeId} {size k : Nat} {v : Value} {xs : List Value} (h : W.ownsRow base e size v k xs) (hb : Below W.heap.size W W') : W'.ownsRow base e size v k xs := by
 obtain ⟨h1, h2⟩ := h
 refine ⟨h1, ?_⟩
 rcases h2 with h2 | ⟨g, cap, cur, rfl, hg, hh, r⟩
 ·
  exact .inl h2
 ·
  exact .inr ⟨g, cap, cur, rfl, hg, (hb.block g (Array.getElem?_eq_some_iff.1 hh).1).trans hh, r⟩
set_option maxRecDepth 100000 in
set_option maxHeartbeats 2000000 in
theorem refPad_any (l : List UInt8) (sv : Value) (w : World) (hreach : l.length ≤ 140737488353000) (hsv : BSl 0 w.heap.size w sv l) :
  Calls Tryz.prog 119 #[sv] w (ByO (padL l) w) := by
 obtain ⟨i0, hi, hz0, hz1, hz2⟩ := info_parts Tryz.infoByte
 have hsv0 := hsv
 obtain ⟨a, cap, rfl, hcap, hcs⟩ := hsv
 clear hcs
 go_enter Tryz.func119, Tryz.ntmps119
 go_wp2_with fail
 have hb0 : Below w.heap.size w (w.alloc (.cells #[.int .u8 128] 5)) := chain0 _ _
 have hm : BSl 0 (w.alloc (.cells #[.int .u8 128] 5)).heap.size (w.alloc (.cells #[.int .u8 128] 5)) (.slice (some ⟨w.heap.size, 0, none⟩) 1 1) [128] := ⟨_, 1, rfl, Nat.le_refl _, .inr ⟨_, 0, rfl, Nat.zero_le _, by simp, fun k x hx => by
  have hk : k = 0 := by have := (List.getElem?_eq_some_iff.1 hx).1; simp at this; omega
  subst hk
  have hc := (Blk.new' (t := 5) (vs := [.int .u8 128]) (rfl : w.heap.size = w.heap.size)).cell 0
  refine hc.trans ?_
  simp at hx
  subst hx
  rfl⟩⟩
 refine (refCat_any l [128] _ _ _ (by simp; omega) ((hsv0.below hb0 (Nat.le_refl _)).mono (Nat.le_refl _) hb0.size) hm).mono ?_
 rintro e w1 ⟨v, rfl, hown, hb1⟩
 replace hb1 := chain hb0 hb1
 replace hown := own_base4 (base' := w.heap.size) hown (by simp)
 clear hm hb0
 go_wp2_with fail
 go_loopw [3] (fun v wr => ∃ j : Nat, j ≤ 63 - (l.length + 8) % 64 ∧ wr.ownsRow w.heap.size 5 1 v (l.length + 1 + j) ((midL l j).map bv) ∧ Below w.heap.size w wr) (fun v _ => l.length + 65 - slLen v)
 case atStart => exact ⟨0, by omega, by simpa [midL] using hown, hb1⟩
 clear hown hb1
 case round =>
  obtain ⟨j, hj, hown, hB⟩ := hrel
  obtain ⟨va, vc, rfl⟩ := ownsRow_slice hown
  have hNW : w.heap.size ≤ wr.heap.size := hB.size
  have HM := Lib.hid (midL_succ l j)
  generalize hn : l.length + 1 + j = n at *
  have hn63 : (n : Int) ≤ 9223372036854775807 := by omega
  by_cases hlt : j < 63 - (l.length + 8) % 64
  ·
   have h56 : ¬ ((n : Int) % 64 = 56) := by omega
   have h56' : ((n : Int) % 64 == 56) = false := by simpa using h56
   have HN := Lib.hid hn
   clear hn
   go_wp2_with (at_builtin; refine wpList_append_own _ rfl _ _ 95 rfl w.heap.size 5 i0 (.int .u8 0) 1 1 Tryz.underlying95 hi hz0 hz1 hz2 rfl (by decide) _ n ((midL l j).map bv) rfl (hown.alloc _) ⟨wr.heap.size, 0, none⟩ 1 1 [bv 0] rfl rfl (cell_one_new _ _ _) (by simp [Value.oneCell']) (by unfold maxLen; have := HN.out; omega) (by have := HN.out; omega) (by simp; omega) ?_; intro v' w1 hown' hgrow _)
   have hbw : Below w.heap.size wr w1 := ((Below.refl w.heap.size wr).alloc hNW _).grown hgrow (by simp; omega) (fun k e => (World.ownsRow.lt hown k e).1)
   refine ⟨⟨j + 1, by omega, ?_, hB.trans hbw⟩, by have := HN.out; show l.length + 65 - slLen v' < l.length + 65 - n; obtain ⟨_, _, rfl⟩ := ownsRow_slice hown'; show l.length + 65 - (n + 1) < _; omega⟩
   rw [HM.out, List.map_append, show l.length + 1 + (j + 1) = n + 1 by have := HN.out; omega]
   exact hown'
  ·
   obtain rfl : j = 63 - (l.length + 8) % 64 := by omega
   have h56 : (n : Int) % 64 = 56 := by omega
   have H56 := Lib.hid h56
   have h56' : ((n : Int) % 64 == 56) = true := by simpa using h56
   have HN := Lib.hid hn
   clear hn h56
   go_wp2_with fail
   refine (refNum_any (8 * (l.length : Int)) 8 (by omega) (by omega) _).mono ?_
   rintro e w2 ⟨s4, rfl, hs4, hb2⟩
   rw [show clamp 8 = 8 from rfl, show (8 * (l.length : Int)) = ((l.length * 8 : Nat) : Int) by omega] at hs4
   have hown2 := own_below4 hown hb2
   have hbs : BSl 0 w2.heap.size w2 (.slice va n vc) (midL l (63 - (l.length + 8) % 64)) := by
    have hq := hown2
    rw [show n = (midL l (63 - (l.length + 8) % 64)).length by rw [midL_length]; exact HN.out.symm] at hq ⊢
    exact (BSl.of_own hq).mono (Nat.zero_le _) (Nat.le_refl _)
   have hL4 := hs4.mono (Nat.zero_le _) (Nat.le_refl _)
   obtain ⟨a4, c4, rfl, _⟩ := hs4
   have hlen : (midL l (63 - (l.length + 8) % 64)).length + (octs (two ((l.length * 8 : Nat) : Int)) 8).length ≤ 140737488355328 := by
    rw [midL_length, octs_length]; omega
   go_wp2_with fail
   refine (refCat_any _ _ _ _ _ hlen hbs hL4).mono ?_
   rintro e w3 ⟨sv, rfl, hown3, hb3⟩
   go_wp2_with fail
   go_ret
   exact ⟨sv, rfl, own_base4 hown3 (Nat.le_trans hNW hb2.size), hB.trans ((hb2.mono hNW).trans (hb3.mono (Nat.le_trans hNW hb2.size)))⟩
end Go.Proofs.YthhmdgmmeedhdaaGreat
namespace Go.Proofs.YthhmdgmmeedhdaaGreat
open Go.RowKit Go.Shelf
def blk (p : List UInt8) (n : Nat) : List UInt8 := (p.drop (64 * n)).take 64
def sts (kk : Nat → Int) (p : List UInt8) (f : Nat → Int) : Nat → Nat → Int
 | 0 => f
 | n + 1 => mixed kk (sch (wd (blk p n)) 48) (sts kk p f n)
def sumTo (st : Nat → Int) : Nat → List UInt8
 | 0 => []
 | k + 1 => sumTo st k ++ octs (two (wrap64 (st k))) 4
theorem sumTo_length (st : Nat → Int) (k : Nat) : (sumTo st k).length = 4 * k := by
 induction k with
 | zero => rfl
 | succ k ih => simp [sumTo, ih, octs_length]; omega
def sumL (kk f : Nat → Int) (l : List UInt8) : List UInt8 := sumTo (sts kk (padL l) f ((padL l).length / 64)) 8
set_option maxRecDepth 100000 in
set_option maxHeartbeats 4000000 in
theorem refOver_any (l : List UInt8) (sv : Value) (f kk : Nat → Int) (w : World) (hreach : l.length ≤ 140737488353000) (hsv : BSl 0 w.heap.size w sv l) :
  Calls Tryz.prog 86 #[sv, uv f 8, uv kk 64] w (ByO (sumL kk f l) w) := by
 have hsv0 := hsv
 obtain ⟨a, cap, rfl, hcap, hcs⟩ := hsv
 clear hcs
 have hpl := padL_length l
 have hS : Hid (sumL kk f l = sumTo (sts kk (padL l) f ((padL l).length / 64)) 8) := Lib.hid rfl
 generalize hp : padL l = p at *
 have HP := Lib.hid hp
 clear hp
 go_enter Tryz.func86, Tryz.ntmps86
 go_wp2_with fail
 generalize hW0 : World.alloc _ _ = W0
 have kS : Blk W0 w.heap.size 142 (us f 8) := by rw [← hW0]; exact (Blk.new' rfl).alloc _
 have kK : Blk W0 (w.heap.size + 1) 143 (us kk 64) := by rw [← hW0]; exact Blk.new' (by simp)
 have d0 : Below w.heap.size w W0 := by rw [← hW0]; exact chainA (chain0 _ _) _
 have hz0 : W0.heap.size = w.heap.size + 2 := by rw [← hW0]; simp
 clear hW0
 refine (refPad_any l _ _ hreach ((hsv0.below d0 (Nat.le_refl _)).mono (Nat.le_refl _) d0.size)).mono ?_
 rintro e w1 ⟨pv, rfl, hown, hb1⟩
 rw [HP.out] at hown
 have hpb := BSl.of_own hown
 have hd1 := chain d0 hb1
 replace kS := kS.below hb1 kS.lt
 replace kK := kK.below hb1 kK.lt
 obtain ⟨pa, pc, rfl⟩ := ownsRow_slice hown
 obtain ⟨pa', pc', hpe, hpc, hp0⟩ := hpb
 cases hpe
 have hnz : p ≠ [] := fun e => by rw [e] at hpl; simp at hpl; omega
 obtain ⟨pb, po, rfl, hpl0, hpb, hpo⟩ := hp0.resolve_left hnz
 have hpw : w.heap.size < pb := by omega
 clear hz0 hpl0
 have hcm : pc ≤ maxLen := by
  rcases hown.2 with ⟨e, _⟩ | ⟨g, c, cur, e, _, _, _, hcm, _⟩
  ·
   cases e
  ·
   cases e; exact hcm
 unfold maxLen at hcm
 clear hown
 have hl64 : p.length = 64 * (p.length / 64) := by omega
 generalize hN : p.length / 64 = N at *
 clear hpl hN hnz hp0 d0 hb1
 generalize hq : p.length = q at *
 have HQ := Lib.hid hq
 clear hq
 have hq63 : (q : Int) ≤ 9223372036854775807 := by omega
 have HL64 := Lib.hid hl64
 clear hl64
 go_wp2_with fail
 go_loopw [8] (fun i wr => ∃ n : Nat, n ≤ N ∧ i = .int .i64 ((64 * n : Nat) : Int) ∧ Blk wr w.heap.size 142 (us (sts kk p f n) 8) ∧ Blk wr (w.heap.size + 1) 143 (us kk 64) ∧ Octs wr pb po p ∧ Below w.heap.size w wr ∧ pb < wr.heap.size) (fun i _ => 64 * N - (intOf i).toNat)
 case atStart => exact ⟨0, by omega, rfl, kS, kK, hpo, hd1, hpb⟩
 case round =>
  obtain ⟨n, hn, rfl, kS, kK, hpo, hB, hpb⟩ := hrel
  by_cases hlt : n < N
  ·
   have hlen : (blk p n).length = 64 := by unfold blk; simp; have := HQ.out; have := HL64.out; omega
   have hob : Octs wr.drew pb (po + 64 * n) (blk p n) := sub_octs hpo (64 * n) 64
   have hE : ((64 * n : Nat) : Int) + 64 = ((64 * (n + 1) : Nat) : Int) := by omega
   have HE := Lib.hid hE
   clear hE
   have hi1 : ((64 * n : Nat) : Int) < (q : Int) := by have := HL64.out; omega
   have hst : Hid (sts kk p f (n + 1) = mixed kk (sch (wd (blk p n)) 48) (sts kk p f n)) := Lib.hid rfl
   generalize hI : 64 * n = i at *
   have hi2 : (i : Int) + 64 ≤ (pc : Int) := by have := HL64.out; omega
   have hne : ¬ pc = i := by have := HL64.out; omega
   have hi3 : (i : Int) ≤ (i : Int) + 64 := by omega
   have hi4 : (0 : Int) ≤ (i : Int) + 64 := by omega
   have li : IntKind.i64.wrap ((i : Int) + 64) = (i : Int) + 64 := by rw [IntKind.wrap_i64]; omega
   have HI := Lib.hid hI
   clear hI
   go_wp2_with fail
   refine wp_region_still_tail 7 (by kernel_rfl) (by kernel_rfl) ?_
   simp only [List.take_succ_cons, List.take_zero, List.drop_succ_cons, List.drop_zero]
   rw [show ({ heap := wr.heap, tape := wr.tape, drawn := wr.drawn + 1, os := wr.os, output := wr.output } : World) = wr.drew from rfl]
   replace kS : Blk wr.drew w.heap.size 142 (us (sts kk p f n) 8) := kS
   replace kK : Blk wr.drew (w.heap.size + 1) 143 (us kk 64) := kK
   replace hB : Below w.heap.size w wr.drew := hB.drew
   replace hpo : Octs wr.drew pb po p := hpo
   replace hpb : pb < wr.drew.heap.size := hpb
   generalize wr.drew = wq at *
   refine still_load arr8 rfl (.tmp 4) rfl w.heap.size rfl 142 (sts kk p f n) kS ?_
   refine still_load arr64 rfl (.tmp 5) rfl (w.heap.size + 1) rfl 143 kk kK ?_
   repeat still_step
   refine wpStill_nil ?_
   clear li
   go_wp2_with fail
   rw [show i + 64 - i = 64 by omega]
   refine (refBlock_any _ _ (blk p n) hlen pb (po + i) (pc - i) (by omega) (by omega) _ hpb hob).mono ?_
   rintro e w2 ⟨rfl, hb2⟩
   rw [← hst.out]
   have kS2 := kS.below hb2 kS.lt
   have kK2 := kK.below hb2 kK.lt
   have hpo2 := hpo.below hb2 hpb
   have hB2 := chain hB hb2
   go_wp2_with ((with_reducible refine arr_store arr8 rfl (.tmp 4) (.tmp 26) rfl w.heap.size rfl (sts kk p f (n + 1)) rfl 142 (sts kk p f n) kS2 ?_); intro w5 kS5 hg5)
   exact ⟨⟨n + 1, by omega, by rw [HE.out], kS5, kK2.kept hg5 (by simp), hpo2.kept (Nat.lt_of_lt_of_le hpb hb2.size) hg5 (fun e => by have := Option.some.inj e; omega), hB2.grown hg5 hB2.size (fun k e => by have : w.heap.size = k := Option.some.inj e; omega), Nat.lt_of_lt_of_le (Nat.lt_of_lt_of_le hpb hb2.size) hg5.size⟩, by simp [intOf]; have := HI.out; omega⟩
  ·
   obtain rfl : n = N := by omega
   have hi1 : ¬ ((64 * n : Nat) : Int) < (q : Int) := by have := HL64.out; omega
   generalize hst : sts kk p f n = st at *
   have HST := Lib.hid hst
   clear hst hlt hn
   go_wp2_with fail
   go_loopw [9, 10] (fun v i wr => ∃ k : Nat, k ≤ 8 ∧ i = .int .i64 k ∧ wr.ownsRow w.heap.size 5 1 v (4 * k) ((sumTo st k).map bv) ∧ Blk wr w.heap.size 142 (us st 8) ∧ Below w.heap.size w wr) (fun _ i _ => 8 - (intOf i).toNat)
   case atStart => exact ⟨0, by omega, rfl, World.ownsRow_nil _ _ _ _, kS, hB⟩
   clear kS hB hpb hpo kK
   case round =>
    obtain ⟨k, hk, rfl, hown, kS, hB⟩ := hrel
    obtain ⟨va, vc, rfl⟩ := ownsRow_slice hown
    have hNW := hB.size
    by_cases hlt : k < 8
    ·
     have cS := (kS.cell k).trans (us_at _ hlt)
     have hk0 : (k : Int) < 8 := by omega
     go_wp2_with fail
     refine (refNum_any _ 4 (by omega) (by omega) _).mono ?_
     rintro e w2 ⟨s4, rfl, hs4, hb2⟩
     rw [show clamp 4 = 4 from rfl] at hs4
     have hown2 := own_below4 hown hb2
     have hbs : BSl 0 w2.heap.size w2 (.slice va (4 * k) vc) (sumTo st k) := by
      have hq := hown2
      rw [← sumTo_length st k] at hq ⊢
      exact (BSl.of_own hq).mono (Nat.zero_le _) (Nat.le_refl _)
     have hL4 := hs4.mono (Nat.zero_le _) (Nat.le_refl _)
     obtain ⟨a4, c4, rfl, _⟩ := hs4
     go_wp2_with fail
     refine (refCat_any _ _ _ _ _ (by rw [sumTo_length, octs_length]; omega) hbs hL4).mono ?_
     rintro e w3 ⟨sv3, rfl, hown3, hb3⟩
     go_wp2_with fail
     have hown4 := own_base4 (base' := w.heap.size) hown3 (Nat.le_trans hNW hb2.size)
     change w3.ownsRow w.heap.size 5 1 sv3 (sumTo st (k + 1)).length ((sumTo st (k + 1)).map bv) at hown4
     rw [sumTo_length] at hown4
     have hb23 := chain hb2 hb3
     exact ⟨⟨k + 1, by omega, by simp, hown4, kS.below hb23 kS.lt, chain hB hb23⟩, by simp [intOf]; omega⟩
    ·
     obtain rfl : k = 8 := by omega
     go_wp2_with fail
     go_ret
     exact ⟨_, rfl, by rw [hS.out, sumTo_length]; exact hown, hB⟩
end Go.Proofs.YthhmdgmmeedhdaaGreat
namespace Go.Proofs.YthhmdgmmeedhdaaGreat
open Go.RowKit Go.Shelf
attribute [local go_sem] Oper.semAt_some
theorem chunk_all (m : Nat) (hm : 1 ≤ m) (Bs Bn b off cap L s : Nat) (hL : L ≤ 140737488354000) (hcap : L ≤ cap) (hcap' : cap ≤ 9223372036854775807) (hs : 1 ≤ s) (hs' : s ≤ 9223372036854775807)
  (w : World) (k1 : Boxed w Bs 95 (.slice (some ⟨b, off, none⟩) L cap)) (k2 : Boxed w Bn 3 (.int .i64 (s : Nat))) :
  SeqAll Fence.wide m Tryz.prog 152 #[.pointer (some ⟨Bs, 0, none⟩), .pointer (some ⟨Bn, 0, none⟩)] (cpEnc b off) (fun _ => KeepB2 Bs Bn) (chs L s) w := fun l J W hW _ _ hJ hY h0 => by
 have q1 : Boxed W Bs 95 (.slice (some ⟨b, off, none⟩) L cap) := (hW.block Bs k1.lt).trans k1
 have q2 : Boxed W Bn 3 (.int .i64 (s : Nat)) := (hW.block Bn k2.lt).trans k2
 refine (chunk1_in Fence.wide m trivial rfl hm l Bs Bn b off cap L s hL hcap hcap' hs hs' J (fun _ _ => False) W (fun k X hX => hJ k X X.drew none hX ⟨rfl, rfl, rfl, Nat.le_refl _, fun _ _ _ => rfl⟩ (by simp)) (fun k W1 hj hk => (hY k (chn L s k) W1 (chs_at hk) hj).mono (fun e W' h => .inl h)) q1 q2 h0).mono ?_
 rintro e W' ⟨he, hj | ⟨_, _, h⟩⟩
 ·
  exact ⟨he, by rw [chs_length]; exact hj⟩
 ·
  exact h.elim
def blkWords (p : List UInt8) (N : Nat) : List (Nat → Int) := (List.range N).map fun n => wd (blk p n)
theorem blkWords_at (p : List UInt8) {N k : Nat} (h : k < N) : (blkWords p N)[k]? = some (wd (blk p k)) := by unfold blkWords; rw [List.getElem?_map, List.getElem?_range h]; rfl
set_option maxHeartbeats 1000000 in
theorem blocks_in (F : Fence) (m : Nat) (h5 : F.fn 112) (hro : F.round = none) (a : Option Addr) (len cap : Nat) (w : World) :
  CallsIn F m Tryz.prog 112 #[.slice a len cap] w fun e w' => e = .returned (.func (.func 134) #[] #[.pointer (some ⟨w.heap.size, 0, none⟩)]) ∧ w' = w.alloc (.cells #[.slice a len cap] 95) := by
 refine callsIn_of_wp Tryz.func112 rfl h5 ?_ hro
 simp only [Tryz.ntmps112, List.size_toArray, List.length_cons, List.length_nil, Nat.reduceAdd, Nat.reduceSub, Array.replicate_succ, Array.replicate_zero, List.push_toArray, List.append_toArray, List.nil_append, List.cons_append]
 gi_wp2
 go_ret
 exact ⟨rfl, rfl⟩
theorem us0_16 : us (fun _ => 0) 16 = [.int .u32 0, .int .u32 0, .int .u32 0, .int .u32 0, .int .u32 0, .int .u32 0, .int .u32 0, .int .u32 0, .int .u32 0, .int .u32 0, .int .u32 0, .int .u32 0, .int .u32 0, .int .u32 0, .int .u32 0, .int .u32 0] := rfl
set_option maxRecDepth 100000 in
set_option maxHeartbeats 8000000 in
theorem blocks1_all (m : Nat) (hm : 6 ≤ m) (B Bp pb po cap N : Nat) (p : List UInt8) (hp : p.length = 64 * N) (hN : 1 ≤ N) (hreach : p.length ≤ 140737488354000) (hcap : p.length ≤ cap) (hcap' : cap ≤ 9223372036854775807)
  (w : World) (hB : B < w.heap.size) (hpB : pb ≠ B) (hpb : pb < w.heap.size) (hpo : Octs w pb po p) (k1 : Boxed w Bp 95 (.slice (some ⟨pb, po, none⟩) p.length cap)) :
  SeqAll Fence.wide m Tryz.prog 134 #[.pointer (some ⟨Bp, 0, none⟩)] (fun f => #[uv f 16]) (AllBut B) (blkWords p N) w := fun l J W hW hl0 hl hJ hY h0 => by
 have kp : Boxed W Bp 95 (.slice (some ⟨pb, po, none⟩) p.length cap) := (hW.block Bp k1.lt).trans k1
 replace hpo := hpo.below hW hpb
 have hWs := hW.size
 have hpc := kp.cell
 have h1 : 1 ≤ m := by omega
 generalize hq : p.length = q at *
 have HQ := Lib.hid hq
 have HP := Lib.hid hp
 clear hq hp
 have hBpl := kp.lt
 refine callsIn_of_wp_marks Tryz.func134 rfl trivial ?_ rfl
 simp only [Tryz.ntmps134, List.size_toArray, List.length_cons, List.length_nil, Nat.reduceAdd, Nat.reduceSub, Array.replicate_succ, Array.replicate_zero, List.push_toArray, List.append_toArray, List.nil_append, List.cons_append]
 gi_wp2_with (refine ⟨trivial, ?_⟩; gi_at_call 135; refine (chunk_in Fence.wide (m - 1) trivial rfl _ _ _ _ (by omega) _).mono ?_; rintro e w' ⟨rfl, rfl⟩)
 generalize hW5 : World.alloc _ _ = W5
 have kY : Boxed W5 W.heap.size 187 (.func (.yield l) #[] #[]) := by rw [← hW5]; exact ((Boxed.new _ _ _).alloc _).alloc _
 have c1 : Boxed W5 (W.heap.size + 1) 95 (.slice (some ⟨pb, po, none⟩) q cap) := by rw [← hW5]; exact (Blk.new' (vs := [_]) (by simp)).alloc _
 have c2 : Boxed W5 (W.heap.size + 1 + 1) 3 (.int .i64 ((64 : Nat) : Int)) := by rw [← hW5]; exact Blk.new' (vs := [.int .i64 64]) (by simp)
 have hB5 : Below W.heap.size W W5 := by rw [← hW5]; exact chainA (chainA (chain0 _ _) _) _
 have hz5 : W5.heap.size = W.heap.size + 3 := by rw [← hW5]; simp
 clear hW5
 have hpbW : pb < W.heap.size := Nat.lt_of_lt_of_le hpb hWs
 have hq64 : chc q 64 = N := by unfold chc; have := HP.out; omega
 obtain ⟨cur, ct, cfr, hcells⟩ : ∃ cur ct cfr, W.heap[pb]? = some (.cells cur ct cfr) := by
  obtain ⟨x, hx⟩ : ∃ x, p[0]? = some x := ⟨_, List.getElem?_eq_getElem (by have := HQ.out; have := HP.out; omega)⟩
  have hc := hpo 0 x hx
  simp only [World.cell?] at hc
  cases hh : W.heap[pb]? with
  | none => rw [hh] at hc; simp at hc
  | some o =>
   rw [hh] at hc
   cases o <;> first | exact ⟨_, _, _, rfl⟩ | (simp at hc)
 refine wpIn_rangeFunc_allA (ys := chs q 64) rfl h1 (gf := 152) (lb := #[.pointer (some ⟨W.heap.size + 1, 0, none⟩), .pointer (some ⟨W.heap.size + 1 + 1, 0, none⟩)]) rfl trivial (enters_of Tryz.func152 (by kernel_rfl) rfl)
  (chunk_all (m - 1) (by omega) (W.heap.size + 1) (W.heap.size + 1 + 1) pb po cap q 64 (by omega) hcap hcap' (by omega) (by omega) W5 c1 c2) KeepB2.t (fun X o o' h2 h3 h4 => ⟨World.putObj_heap_other (by omega), World.putObj_heap_other (by omega)⟩) (fun X => ⟨rfl, rfl⟩) (Below.refl _ _) (fun _ => rfl)
  (fun k X => (J k X ∧ KeepB pb W X) ∧ (Boxed X W.heap.size 187 (.func (.yield l) #[] #[]) ∧ Boxed X (W.heap.size + 1) 95 (.slice (some ⟨pb, po, none⟩) q cap) ∧ Boxed X (W.heap.size + 1 + 1) 3 (.int .i64 ((64 : Nat) : Int))) ∧ W5.heap.size ≤ X.heap.size)
  (fun k X Y row ⟨⟨hj, hk⟩, ⟨hy, hc1, hc2⟩, hsz⟩ hg hr => ⟨⟨hJ k X Y row hj hg (fun r e => ⟨by have := (hr r e).1; omega, (hr r e).2⟩), (hg.block pb (by omega) (fun e => by have := (hr _ e.symm).1; omega)).trans hk⟩, ⟨boxed_own _ _ (fun _ : Unit => _) () X Y row hy hg (fun r e => (hr r e).2), boxed_own _ _ (fun _ : Unit => _) () X Y row hc1 hg (fun r e => (hr r e).2), boxed_own _ _ (fun _ : Unit => _) () X Y row hc2 hg (fun r e => (hr r e).2)⟩, Nat.le_trans hsz hg.size⟩)
  ⟨⟨hJ 0 W W5 none h0 (grown_of_below hB5) (by simp), hB5.block pb hpbW⟩, ⟨kY, c1, c2⟩, Nat.le_refl _⟩ ?_ ?_ ?_ ?_
 rotate_left
 ·
  intro l' x X K hK
  gi_wp2
  exact hK
 ·
  rintro l' k x X hx ⟨⟨hj, hkp⟩, ⟨hy, hc1, hc2⟩, hsz⟩
  have hk : k < N := by have := (List.getElem?_eq_some_iff.1 hx).1; rw [chs_length, hq64] at this; exact this
  rw [chs_at (by rw [hq64]; exact hk)] at hx
  obtain rfl := (Option.some.inj hx).symm
  have hlp : 64 * k + 64 ≤ p.length := by rw [HQ.out, HP.out]; omega
  have hchn : chn q 64 k = ⟨(64 * k, 64), by rw [← HQ.out]; exact hlp⟩ := by
   rw [chn_of (by rw [HP.out]; omega)]
   apply Subtype.ext
   show (k * 64, min 64 (q - k * 64)) = _
   rw [Nat.mul_comm k 64, Nat.min_eq_left (by rw [HP.out]; omega)]
  rw [hchn]
  have hoX : Octs X pb (po + 64 * k) (blk p k) := sub_octs (fun j z hz => (World.cell?_of_block (a := ⟨pb, _, none⟩) hkp).trans (hpo j z hz)) (64 * k) 64
  have hlb : (blk p k).length = 64 := by unfold blk; simp; omega
  have hpX : pb < X.heap.size := by omega
  clear hchn
  gi_wp2_with fail
  gi_loopw [9] (fun i wr => ∃ t : Nat, t ≤ 16 ∧ i = .int .i64 t ∧ Blk wr X.heap.size 167 (us (fun j => if j < t then wd (blk p k) j else 0) 16) ∧ Below X.heap.size X wr) (fun i _ => 16 - (intOf i).toNat)
  case atStart => exact ⟨0, by omega, rfl, by rw [us_congr (g := fun _ => 0) (fun t _ => if_neg (by omega)), us0_16]; exact Blk.new' rfl, chain0 _ _⟩
  case round =>
   obtain ⟨t, ht, rfl, kA, hbel⟩ := hrel
   by_cases hlt : t < 16
   ·
    have cA := (kA.cell t).trans (us_at _ hlt)
    have fA := kA.frozen t
    have i1 : (t : Int) < 16 := by omega
    have i2 : (0 : Int) ≤ (t : Int) * 4 := by omega
    have i3 : (t : Int) * 4 ≤ 64 := by omega
    have i4 : ¬ 64 = t * 4 := by omega
    have n1 : ((t : Int) * 4).toNat = t * 4 := by omega
    gi_wp2_with fail
    rw [Nat.mul_comm t 4]
    have hpw : pb < wr.heap.size := Nat.lt_of_lt_of_le hpX hbel.size
    have hbsl := sub_bsl (hoX.below hbel hpX) hpw (4 * t) 4 (by rw [hlb]; omega) (show 4 ≤ 64 - 4 * t by omega)
    refine ⟨trivial, fun h => (by cases h), ?_⟩
    refine (CallsIn.inRound l' (callsIn_wide.2 (blobInt_any (((blk p k).drop (4 * t)).take 4) _ wr (by simp; omega) hbsl))).mono ?_
    rintro e w2 ⟨rfl, hb2⟩
    obtain ⟨hw, hw0, hw1⟩ := wd_be (l := blk p k) t
    rw [hw]
    have kA2 := kA.below hb2 kA.lt
    have hX2 : Below X.heap.size X w2 := chain hbel hb2
    have cA2 := (kA2.cell t).trans (us_at _ hlt)
    have fA2 := kA2.frozen t
    have HU : Hid (us (updI (fun j => if j < t then wd (blk p k) j else 0) t (wd (blk p k) t)) 16 = us (fun j => if j < t + 1 then wd (blk p k) j else 0) 16) := Lib.hid (us_congr fun j _ => by
     unfold updI
     by_cases e1 : j = t
     ·
      subst e1; rw [if_pos rfl, if_pos (by omega)]
     ·
      rw [if_neg e1]
      show (if j < t then wd (blk p k) j else 0) = _
      by_cases e2 : j < t
      ·
       rw [if_pos e2, if_pos (by omega)]
      ·
       rw [if_neg e2, if_neg (by omega)])
    clear hw cA fA i2 i3 i4 n1
    generalize hx : wd (blk p k) t = x at *
    gi_wp2_with fail
    have kA' := kA2.set t (.int .u32 x)
    rw [us_set, HU.out] at kA'
    go_roundw
    case rel => exact ⟨t + 1, by omega, by simp, kA', hX2.setCell (p := ⟨X.heap.size, _, none⟩) (by simp) _⟩
    case measure => simp [intOf]; omega
   ·
    obtain rfl : t = 16 := by omega
    rw [us_congr (g := wd (blk p k)) (fun j hj => if_pos hj)] at kA
    obtain ⟨fn, tmps, assign, body, hyr, hR⟩ := hY k (wd (blk p k)) wr (blkWords_at p hk) (hJ k X wr none hj (grown_of_below hbel) (by simp))
    have hyc : wr.cell? ⟨W.heap.size, 0, none⟩ = some (.func (.yield l) #[] #[]) := (hbel.cell (p := ⟨W.heap.size, 0, none⟩) hy.lt).trans hy.cell
    gi_wp2_with (with_reducible refine arrIn_load arr16 rfl (.tmp 4) rfl X.heap.size rfl 167 (wd (blk p k)) kA ?_)
    refine ⟨fun h => (by cases h), ?_⟩
    refine (roundIn_any hR).mono ?_
    rintro e W3 ⟨rfl, hJ3, hk3⟩
    clear hyr
    gi_wp2_with fail
    have hXW : AllBut B l X W3 := (AllBut.of_below hbel).t hk3
    have ly := hy.lt
    have l1 := hc1.lt
    have l2 := hc2.lt
    refine ⟨⟨hXW.1, fun j o hBj hj ho => (hXW.2 j (Array.getElem?_eq_some_iff.1 hj).1 (by omega) (by omega)).trans hj⟩, ⟨hXW.2 _ l1 (by omega) (by omega), hXW.2 _ l2 (by omega) (by omega)⟩, ⟨hJ3, (hXW.2 pb hpX hpB (by omega)).trans hkp⟩, ⟨(hXW.2 _ ly (by omega) (by omega)).trans hy, (hXW.2 _ l1 (by omega) (by omega)).trans hc1, (hXW.2 _ l2 (by omega) (by omega)).trans hc2⟩, Nat.le_trans hsz hXW.1⟩
 ·
  rintro D X hD ⟨⟨hj, _⟩, _, _⟩ hK
  rw [chs_length, hq64] at hj
  gi_wp2_with fail
  refine ⟨by simp, .inl ⟨_, _, rfl, run_takeDeferred hK, ?_⟩⟩
  refine ⟨_, results_none rfl _ _ _, ⟨_, rfl⟩, ?_⟩
  rw [show (blkWords p N).length = N by simp [blkWords]]
  exact hJ.putObj _ hj (by omega) hK rfl
end Go.Proofs.YthhmdgmmeedhdaaGreat
namespace Go.Proofs.YthhmdgmmeedhdaaGreat
open Go.RowKit
set_option maxRecDepth 100000 in
set_option maxHeartbeats 8000000 in
theorem mix_any (f m : Nat → Int) (w : World) : Calls Tryz.prog 114 #[uv f 8, uv m 64] w fun e W' => e = .returned (uv (mixed cb m f) 8) ∧ Below w.heap.size w W' := by
 go_enter Tryz.func114, Tryz.ntmps114
 go_wp2
 generalize hW0 : World.alloc _ _ = W0
 have kS : Blk W0 w.heap.size 142 (us f 8) := by rw [← hW0]; exact ((Blk.new' rfl).alloc _).alloc _
 have kM : Blk W0 (w.heap.size + 1) 143 (us m 64) := by rw [← hW0]; exact (Blk.new' (by simp)).alloc _
 have kR : Blk W0 (w.heap.size + 1 + 1) 142 (us (fun _ => 0) 8) := by rw [← hW0, us0_8]; exact Blk.new' (by simp)
 have d0 : Below w.heap.size w W0 := by rw [← hW0]; exact chainA (chainA (chain0 _ _) _) _
 clear hW0
 have q0 := (kS.cell 0).trans (us_at _ (by omega))
 have q1 := (kS.cell 1).trans (us_at _ (by omega))
 have q2 := (kS.cell 2).trans (us_at _ (by omega))
 have q3 := (kS.cell 3).trans (us_at _ (by omega))
 have q4 := (kS.cell 4).trans (us_at _ (by omega))
 have q5 := (kS.cell 5).trans (us_at _ (by omega))
 have q6 := (kS.cell 6).trans (us_at _ (by omega))
 have q7 := (kS.cell 7).trans (us_at _ (by omega))
 go_quiet (fail)
 go_wp2
 go_quiet (fail)
 go_wp2_with (go_at_call 138; refine (cubeRoots_any _).mono ?_; rintro e w1 ⟨rfl, hb1⟩)
 replace hb1 : Below W0.heap.size W0 w1 := (below_drewN W0 _).trans hb1
 have d1 : Below w.heap.size w w1 := chain d0 hb1
 have kS1 : Blk w1 w.heap.size 142 (us f 8) := Blk.below (n := W0.heap.size) kS hb1 kS.lt
 have kM1 : Blk w1 (w.heap.size + 1) 143 (us m 64) := Blk.below (n := W0.heap.size) kM hb1 kM.lt
 have kR1 : Blk w1 (w.heap.size + 1 + 1) 142 (us (fun _ => 0) 8) := Blk.below (n := W0.heap.size) kR hb1 kR.lt
 clear kS kM kR q0 q1 q2 q3 q4 q5 q6 q7 hb1 d0
 go_loopw [5, 6, 7, 8, 9, 10, 11, 12, 36] (fun a b c d e f' g h i wr => ∃ (k : Nat) (s : S8), k ≤ 64 ∧ Hid (s = rds cb m (s8 f) k) ∧ i = .int .i64 k ∧ a = .int .u32 s.a ∧ b = .int .u32 s.b ∧ c = .int .u32 s.c ∧ d = .int .u32 s.d ∧ e = .int .u32 s.e ∧ f' = .int .u32 s.f ∧ g = .int .u32 s.g ∧ h = .int .u32 s.h ∧
  Blk wr w.heap.size 142 (us f 8) ∧ Blk wr (w.heap.size + 1) 143 (us m 64) ∧ Blk wr (w.heap.size + 1 + 1) 142 (us (fun _ => 0) 8) ∧ Below w.heap.size w wr) (fun _ _ _ _ _ _ _ _ i _ => 64 - (intOf i).toNat)
 case atStart => exact ⟨0, s8 f, by omega, Lib.hid rfl, rfl, rfl, rfl, rfl, rfl, rfl, rfl, rfl, rfl, kS1, kM1, kR1, d1⟩
 clear kS1 kM1 kR1 d1
 case round =>
  obtain ⟨k, ⟨a, b, c, d, e, f', g, h⟩, hk, HS, rfl, rfl, rfl, rfl, rfl, rfl, rfl, rfl, rfl, kS, kM, kR, hB⟩ := hrel
  dsimp only
  by_cases hlt : k < 64
  ·
   have hix := run_index_us 143 64 und64 cb k hlt
   have cM := (kM.cell k).trans (us_at _ hlt)
   have hk0 : (k : Int) < 64 := by omega
   go_wp2_with fail
   have L3 : (0 : Int) ≤ (k : Int) := by omega
   have hsg : (if IntKind.u32.signed = true then (-1 : Int) else IntKind.u32.max) = 4294967295 := by decide
   refine wp_region_still_lit (by kernel_rfl) (by kernel_rfl) ?_
   repeat still_step
   still_call (rotr_still _ _ 6 t6 rfl _)
   repeat still_step
   still_call (rotr_still _ _ 11 t11 rfl _)
   repeat still_step
   still_call (rotr_still _ _ 25 t25 rfl _)
   repeat still_step
   refine wpStill_nil ?_
   generalize hx1 : IntKind.u32.wrap (IntKind.u32.wrap (IntKind.u32.wrap (IntKind.u32.wrap (h + _) + _) + cb k) + m k) = x1
   have HX1 : Hid (tmp1 ⟨a, b, c, d, e, f', g, h⟩ (cb k) (m k) = x1) := Lib.hid (by
    rw [← hx1]; simp only [tmp1, bs1, chs3, IntKind.wrap_u32, Int.emod_add_emod])
   clear hx1
   replace kS : Blk wr.drew w.heap.size 142 (us f 8) := kS
   replace kM : Blk wr.drew (w.heap.size + 1) 143 (us m 64) := kM
   replace kR : Blk wr.drew (w.heap.size + 1 + 1) 142 (us (fun _ => 0) 8) := kR
   replace hB : Below w.heap.size w wr.drew := hB.drew
   change Exit.then _ _ _ _ wr.drew
   generalize wr.drew = wq at *
   clear cM hix hsg
   go_wp2_with fail
   refine (rotr_still _ _ 2 t2 rfl _).mono ?_
   rintro e' w' ⟨rfl, rfl⟩
   go_wp2_with fail
   refine (rotr_still _ _ 13 t13 rfl _).mono ?_
   rintro e' w' ⟨rfl, rfl⟩
   go_wp2_with fail
   refine (rotr_still _ _ 22 t22 rfl _).mono ?_
   rintro e' w' ⟨rfl, rfl⟩
   go_wp2_with fail
   exact ⟨⟨k + 1, rnd ⟨a, b, c, d, e, f', g, h⟩ (cb k) (m k), by omega, Lib.hid (by rw [HS.out]; rfl), by simp, by rw [← HX1.out]; rfl, rfl, rfl, rfl, by rw [← HX1.out]; rfl, rfl, rfl, rfl, kS, kM, kR, hB⟩, by simp [intOf]; omega⟩
  ·
   obtain rfl : k = 64 := by omega
   clear hk hlt
   go_wp2
   go_loopw [107] (fun i wr => ∃ k : Nat, k ≤ 8 ∧ i = .int .i64 k ∧ Blk wr w.heap.size 142 (us (fun t => if t < k then mixed cb m f t else f t) 8) ∧ Blk wr (w.heap.size + 1 + 1) 142 (us (fun _ => 0) 8) ∧ Below w.heap.size w wr) (fun i _ => 8 - (intOf i).toNat)
   case atStart => exact ⟨0, by omega, rfl, kS, kR, hB⟩
   case round =>
    obtain ⟨k, hk, rfl, kS, kR, hB⟩ := hrel
    by_cases hlt : k < 8
    ·
     have hix : ∀ w, (Instr.index 142 (.agg #[.int .u32 a, .int .u32 b, .int .u32 c, .int .u32 d, .int .u32 e, .int .u32 f', .int .u32 g, .int .u32 h]) (.int .i64 (k : Int))).run Tryz.prog w = .ok (.int .u32 (S8.at ⟨a, b, c, d, e, f', g, h⟩ k)) w := run_index_us 142 8 und8 (S8.at ⟨a, b, c, d, e, f', g, h⟩) k hlt
     have cS := (kS.cell k).trans (us_at _ hlt)
     rw [if_neg (by omega)] at cS
     have hf := kS.frozen k
     have hk0 : (k : Int) < 8 := by omega
     have HM : Hid (mixed cb m f k = (f k + S8.at ⟨a, b, c, d, e, f', g, h⟩ k) % 4294967296) := Lib.hid (by unfold mixed; rw [← HS.out])
     generalize S8.at ⟨a, b, c, d, e, f', g, h⟩ k = z at *
     go_wp2_with fail
     rw [← HM.out]
     have kS' := kS.set k (.int .u32 (mixed cb m f k))
     rw [us_set, us_congr (g := fun t => if t < k + 1 then mixed cb m f t else f t) (fun t ht => by
      unfold updI
      by_cases e1 : t = k
      ·
       subst e1; rw [if_pos rfl, if_pos (by omega)]
      ·
       rw [if_neg e1]
       show (if t < k then mixed cb m f t else f t) = _
       by_cases e2 : t < k
       ·
        rw [if_pos e2, if_pos (by omega)]
       ·
        rw [if_neg e2, if_neg (by omega)])] at kS'
     exact ⟨⟨k + 1, by omega, by simp, kS', kR.other _ _ (by omega), hB.setCell (p := ⟨w.heap.size, _, none⟩) (by simp) _⟩, by simp [intOf]; omega⟩
    ·
     obtain rfl : k = 8 := by omega
     rw [us_congr (g := mixed cb m f) (fun t ht => if_pos ht)] at kS
     go_wp2_with (first | (with_reducible refine arr_load arr8 rfl (.tmp 2) rfl w.heap.size rfl 142 (mixed cb m f) kS ?_) | (with_reducible refine arr_store arr8 rfl (.tmp 4) (.tmp 118) rfl (w.heap.size + 1 + 1) rfl (mixed cb m f) rfl 142 (fun _ => 0) kR ?_; intro w5 kR5 hg5))
     exact bodyPost_ret (v := uv (mixed cb m f) 8) (arr_result arr8 rfl _ _ (w.heap.size + 1 + 1) 142 (mixed cb m f) rfl kR5) rfl ⟨rfl, hB.grown hg5 hB.size (fun k e => by have : w.heap.size + 1 + 1 = k := Option.some.inj e; omega)⟩
end Go.Proofs.YthhmdgmmeedhdaaGreat
namespace Go.Proofs.YthhmdgmmeedhdaaGreat
open Go.RowKit Go.Shelf
attribute [local go_sem] Oper.semAt_some
theorem blk_zero8 (w : World) (t : TypeId) : Blk (w.alloc (.cells #[.int .u32 0, .int .u32 0, .int .u32 0, .int .u32 0, .int .u32 0, .int .u32 0, .int .u32 0, .int .u32 0] t)) w.heap.size t (us (fun _ => 0) 8) := by rw [us0_8]; exact Blk.new' rfl
theorem blk_zero16 (w : World) (t : TypeId) : Blk (w.alloc (.cells #[.int .u32 0, .int .u32 0, .int .u32 0, .int .u32 0, .int .u32 0, .int .u32 0, .int .u32 0, .int .u32 0, .int .u32 0, .int .u32 0, .int .u32 0, .int .u32 0, .int .u32 0, .int .u32 0, .int .u32 0, .int .u32 0] t)) w.heap.size t (us (fun _ => 0) 16) := by rw [us0_16]; exact Blk.new' rfl
theorem sts_succ (kk : Nat → Int) (p : List UInt8) (f : Nat → Int) (n : Nat) : sts kk p f (n + 1) = mixed kk (sch (wd (blk p n)) 48) (sts kk p f n) := rfl
theorem bsl_slice {lo hi : Nat} {W : World} {sv : Value} {l : List UInt8} (h : BSl lo hi W sv l) : ∃ a c, sv = .slice a l.length c := by
 obtain ⟨a, c, e, _⟩ := h
 exact ⟨a, c, e⟩
set_option maxRecDepth 100000 in
set_option maxHeartbeats 8000000 in
theorem sum_in (m : Nat) (hm : 10 ≤ m) (l : List UInt8) (sv : Value) (w : World) (hreach : l.length ≤ 140737488353000) (hsv : BSl 0 w.heap.size w sv l) :
  CallsIn Fence.wide m Tryz.prog 83 #[sv] w (ByO (sumL cb sq l) w) := by
 have h1 : 1 ≤ m := by omega
 have hmx : Tryz.prog.follows .mixedOrders = true := by kernel_rfl
 obtain ⟨i0, hi, hz0, hz1, hz2⟩ := info_parts Tryz.infoByte
 have hsv0 := hsv
 obtain ⟨a, cap, rfl, hcap, hcs⟩ := hsv
 clear hcs
 refine callsIn_of_wp_marks Tryz.func83 rfl trivial ?_ rfl
 simp only [Tryz.ntmps83, List.size_toArray, List.length_cons, List.length_nil, Nat.reduceAdd, Nat.reduceSub, Array.replicate_succ, Array.replicate_zero, List.push_toArray, List.append_toArray, List.nil_append, List.cons_append]
 gi_wp2_with (first
  | (refine ⟨trivial, ?_⟩; gi_at_call 111; refine (callsIn_wide.2 (squareRoots_any _)).mono ?_; rintro e w1 ⟨rfl, hb1⟩)
  | (with_reducible refine arrIn_store arr8 rfl (.tmp 3) (.tmp 8) rfl w1.heap.size rfl sq rfl 142 (fun _ => 0) (blk_zero8 w1 _) ?_; intro w2 kS hg2)
  | (refine ⟨trivial, ?_⟩; gi_at_call 113; (have hb2 : Below w.heap.size w w2 := (chainA hb1 (.cells #[.int .u32 0, .int .u32 0, .int .u32 0, .int .u32 0, .int .u32 0, .int .u32 0, .int .u32 0, .int .u32 0] 142)).grown hg2 (by simp; have := hb1.size; omega) (fun k e => by have : w1.heap.size = k := Option.some.inj e; have := hb1.size; omega)); refine (callsIn_wide.2 (pad_any l _ _ (by omega) ((hsv0.below hb2 (Nat.le_refl _)).mono (Nat.le_refl _) hb2.size))).mono ?_; rintro e w3 ⟨pv, rfl, hown, hb3⟩; obtain ⟨pa, pc, rfl⟩ := ownsRow_slice hown)
  | (refine ⟨trivial, ?_⟩; gi_at_call 112; refine (blocks_in Fence.wide (m - 1) trivial rfl _ _ _ _).mono ?_; rintro e w' ⟨rfl, rfl⟩))
 have hb23 : Below w.heap.size w w3 := chain hb2 hb3
 have hw1 : w.heap.size ≤ w1.heap.size := hb1.size
 have hw2 : w1.heap.size < w2.heap.size := kS.lt
 have hpb := BSl.of_own hown
 have hpl := padL_length l
 have HS : Hid (sumL cb sq l = sumTo (sts cb (padL l) sq ((padL l).length / 64)) 8) := Lib.hid rfl
 generalize hp : padL l = p at *
 clear hp
 obtain ⟨pa', pc', hpe, hpc, hp0⟩ := hpb
 cases hpe
 have hnz : p ≠ [] := fun e => by rw [e] at hpl; simp at hpl; omega
 obtain ⟨pb, po, rfl, hpl0, hpb, hpo⟩ := hp0.resolve_left hnz
 have hcm : pc ≤ maxLen := by
  rcases hown.2 with ⟨e, _⟩ | ⟨g, c, cur, e, _, _, _, hcm, _⟩
  ·
   cases e
  ·
   cases e; exact hcm
 unfold maxLen at hcm
 have hl64 : p.length = 64 * (p.length / 64) := by omega
 have hN1 : 1 ≤ p.length / 64 := by omega
 have hreach' : p.length ≤ 140737488354000 := by omega
 generalize hN : p.length / 64 = N at *
 clear hpl hN hnz hp0
 have kS3 := kS.below hb3 kS.lt
 generalize hW4 : World.alloc _ _ = w4
 have kp : Boxed w4 w3.heap.size 95 (.slice (some ⟨pb, po, none⟩) p.length pc) := by rw [← hW4]; exact Boxed.new _ _ _
 have kS4 : Blk w4 w1.heap.size 142 (us sq 8) := by rw [← hW4]; exact kS3.alloc _
 have hb34 : Below w3.heap.size w3 w4 := by rw [← hW4]; exact chain0 _ _
 have hpo4 := hpo.below hb34 hpb
 have hb4 : Below w.heap.size w w4 := chain hb23 hb34
 have hw4 : w4.heap.size = w3.heap.size + 1 := by rw [← hW4]; simp
 have hw3 := hb3.size
 clear hW4
 generalize hq : p.length = q at *
 have HQ := Lib.hid hq
 have HL64 := Lib.hid hl64
 clear hl64
 have hseq := blocks1_all (m - 1) (by omega) w1.heap.size w3.heap.size pb po pc N p (by rw [HQ.out]; exact HL64.out) hN1 (by rw [HQ.out]; exact hreach') (by rw [HQ.out]; exact hpc) (by omega) w4 (by omega) (by omega) (by omega) hpo4 (by rw [HQ.out]; exact kp)
 clear hq
 refine wpIn_rangeFunc_all (ys := blkWords p N) rfl h1 (gf := 134) (lb := #[.pointer (some ⟨w3.heap.size, 0, none⟩)]) rfl trivial (enters_of Tryz.func134 (by kernel_rfl) rfl)
  hseq AllBut.t (fun X o o' _ _ _ => AllBut.b _ _ X o') (Below.refl _ _) (fun _ => rfl)
  (fun k X => (Blk X w1.heap.size 142 (us (sts cb p sq k) 8) ∧ w4.heap.size ≤ X.heap.size) ∧ Below w.heap.size w X)
  (OwnFrom.and (fun k X Y row hs hg hr => ⟨blk_own w1.heap.size 142 (fun _ : Unit => _) () X Y row hs.1 hg (fun r e => (hr r e).2), Nat.le_trans hs.2 hg.size⟩) (ownFrom_below (Nat.le_refl _) (by omega)))
  ⟨⟨kS4, Nat.le_refl _⟩, hb4⟩
  (fun x a' X => ∃ Bx, w4.heap.size ≤ Bx ∧ Blk X Bx 167 (us x 16) ∧ a' = { tmps := #[.slice a l.length cap, undef, .slice none 0 0, .pointer (some ⟨w1.heap.size, 0, none⟩), .pointer (some ⟨Bx, 0, none⟩), undef, undef, undef, uv sq 8, .slice a l.length cap, .slice (some ⟨pb, po, none⟩) q pc, .func (.func 134) #[] #[.pointer (some ⟨w3.heap.size, 0, none⟩)], uv x 16, undef, undef, undef, undef, undef, undef, undef, undef, undef, undef, undef, undef, undef, undef, undef], defers := [] })
  (fun x a' s X Y row ⟨Bx, h1, h2, h3⟩ hg hr => ⟨Bx, h1, blk_own Bx 167 (fun _ : Unit => _) () X Y row h2 hg (fun r e => (hr r e).2), h3⟩) ?_ ?_ ?_
 ·
  rintro l' k x X K ⟨⟨hS, hsz⟩, hB⟩ hK
  gi_wp2_with (with_reducible refine arrIn_store arr16 rfl (.tmp 4) (.tmp 12) rfl X.heap.size rfl x rfl 167 (fun _ => 0) (blk_zero16 X _) ?_; intro X2 kX hgX)
  have hX2 : Below X.heap.size X X2 := (chain0 X _).grown hgX (by simp) (fun k e => by have : X.heap.size = k := Option.some.inj e; omega)
  exact hK _ _ ⟨hX2.size, fun j o _ hj _ => (hX2.block j (Array.getElem?_eq_some_iff.1 hj).1).trans hj⟩ (AllBut.of_below hX2) ⟨⟨hS.below hX2 hS.lt, Nat.le_trans hsz hX2.size⟩, hB.trans (hX2.mono hB.size)⟩ ⟨X.heap.size, hsz, kX, rfl⟩
 ·
  rintro l' k x a' X hx ⟨⟨hS, hsz⟩, hB⟩ ⟨Bx, hBx, kX, rfl⟩
  have hk : k < N := by have := (List.getElem?_eq_some_iff.1 hx).1; simpa [blkWords] using this
  rw [blkWords_at p hk] at hx
  obtain rfl := Option.some.inj hx
  have hne : w1.heap.size ≠ Bx := by omega
  clear hx
  have hst := Lib.hid (sts_succ cb p sq k)
  generalize sts cb p sq k = st at *
  generalize wd (blk p k) = x at *
  gi_wp2_with fail
  refine wpIn_round_any hmx (by kernel_rfl) ?_
  change wpAny _ _ _ _ _ _ _ X.drew
  replace hS : Blk X.drew w1.heap.size 142 (us st 8) := hS
  replace kX : Blk X.drew Bx 167 (us x 16) := kX
  have hXd : Below X.heap.size X X.drew := (Below.refl _ X).drew
  generalize X.drew = Y at *
  have hFin : ∀ (Y2 Y3 Y4 : World) (a' : Act), Below Y.heap.size Y Y2 → Below Y2.heap.size Y2 Y3 → Blk Y4 w1.heap.size 142 (us (mixed cb (sch x 48) st) 8) → Y3.grownBy Y4 (some w1.heap.size) →
    goesOn w4.heap.size (AllBut w1.heap.size (w4.heap.size + 1)) (fun X => (Blk X w1.heap.size 142 (us (sts cb p sq (k + 1)) 8) ∧ w4.heap.size ≤ X.heap.size) ∧ Below w.heap.size w X) X Exit.normal a' Y4 := fun Y2 Y3 Y4 a' hbY2 hbY3 hS4 hgY => by
   have hXY : Below X.heap.size X Y3 := hXd.trans ((chain hbY2 hbY3).mono hXd.size)
   have hA : ∀ j, j < X.heap.size → j ≠ w1.heap.size → Y4.heap[j]? = X.heap[j]? := fun j hj hne => (hgY.block j (Nat.lt_of_lt_of_le hj hXY.size) (fun e => hne (Option.some.inj e))).trans (hXY.block j hj)
   have hsz4 : X.heap.size ≤ Y4.heap.size := Nat.le_trans hXY.size hgY.size
   refine ⟨⟨hsz4, fun j o hBj hj _ => (hA j (Array.getElem?_eq_some_iff.1 hj).1 (by omega)).trans hj⟩, ⟨hsz4, fun j hj h1 _ => hA j hj h1⟩, ⟨by rw [hst.out]; exact hS4, Nat.le_trans hsz hsz4⟩, ?_⟩
   have hB3 := hB.trans (hXY.mono hB.size)
   exact hB3.grown hgY hB3.size (fun k e => by have : w1.heap.size = k := Option.some.inj e; omega)
  refine wpAny_ready (rs := [0, 1]) (by kernel_rfl) (by simp) ?_
  refine AllReady.cons rfl (fun K hK => ?_) (AllReady.cons rfl (fun K hK => ?_) AllReady.nil)
  ·
   refine step_load_us arr8 rfl (.tmp 3) rfl w1.heap.size rfl 142 st hS ?_
   refine hK _ _ ?_
   clear hK K
   refine wpAny_ready (rs := [1]) (by kernel_rfl) (by simp) ?_
   refine AllReady.cons rfl (fun K hK => ?_) AllReady.nil
   refine step_load_us arr16 rfl (.tmp 4) rfl Bx rfl 167 x kX ?_
   refine hK _ _ ?_
   clear hK K
   refine wpAny_ready (rs := [2]) (by kernel_rfl) (by simp) ?_
   refine AllReady.cons rfl (fun K hK => ?_) AllReady.nil
   go_simp
   refine (schedule_any _ _).mono ?_
   rintro e Y2 ⟨rfl, hbY2⟩
   have hS2 := hS.below hbY2 hS.lt
   refine hK _ _ ?_
   clear hK K
   refine wpAny_ready (rs := [3]) (by kernel_rfl) (by simp) ?_
   refine AllReady.cons rfl (fun K hK => ?_) AllReady.nil
   go_simp
   refine (mix_any _ _ _).mono ?_
   rintro e Y3 ⟨rfl, hbY3⟩
   have hS3 := hS2.below hbY3 hS2.lt
   refine hK _ _ ?_
   clear hK K
   refine wpAny_ready (rs := [4]) (by kernel_rfl) (by simp) ?_
   refine AllReady.cons rfl (fun K hK => ?_) AllReady.nil
   refine step_store_us arr8 rfl (.tmp 3) (.tmp 16) rfl w1.heap.size rfl (mixed cb (sch x 48) st) rfl 142 st hS3 ?_
   intro Y4 hS4 hgY
   refine hK _ _ ?_
   clear hK K
   refine wpAny_done (by kernel_rfl) ?_ _
   exact hFin Y2 Y3 Y4 { tmps := #[], defers := [] } hbY2 hbY3 hS4 hgY
  ·
   refine step_load_us arr16 rfl (.tmp 4) rfl Bx rfl 167 x kX ?_
   refine hK _ _ ?_
   clear hK K
   refine wpAny_ready (rs := [0, 2]) (by kernel_rfl) (by simp) ?_
   refine AllReady.cons rfl (fun K hK => ?_) (AllReady.cons rfl (fun K hK => ?_) AllReady.nil)
   ·
    refine step_load_us arr8 rfl (.tmp 3) rfl w1.heap.size rfl 142 st hS ?_
    refine hK _ _ ?_
    clear hK K
    refine wpAny_ready (rs := [2]) (by kernel_rfl) (by simp) ?_
    refine AllReady.cons rfl (fun K hK => ?_) AllReady.nil
    go_simp
    refine (schedule_any _ _).mono ?_
    rintro e Y2 ⟨rfl, hbY2⟩
    have hS2 := hS.below hbY2 hS.lt
    refine hK _ _ ?_
    clear hK K
    refine wpAny_ready (rs := [3]) (by kernel_rfl) (by simp) ?_
    refine AllReady.cons rfl (fun K hK => ?_) AllReady.nil
    go_simp
    refine (mix_any _ _ _).mono ?_
    rintro e Y3 ⟨rfl, hbY3⟩
    have hS3 := hS2.below hbY3 hS2.lt
    refine hK _ _ ?_
    clear hK K
    refine wpAny_ready (rs := [4]) (by kernel_rfl) (by simp) ?_
    refine AllReady.cons rfl (fun K hK => ?_) AllReady.nil
    refine step_store_us arr8 rfl (.tmp 3) (.tmp 16) rfl w1.heap.size rfl (mixed cb (sch x 48) st) rfl 142 st hS3 ?_
    intro Y4 hS4 hgY
    refine hK _ _ ?_
    clear hK K
    refine wpAny_done (by kernel_rfl) ?_ _
    exact hFin Y2 Y3 Y4 { tmps := #[], defers := [] } hbY2 hbY3 hS4 hgY
   ·
    go_simp
    refine (schedule_any _ _).mono ?_
    rintro e Y2 ⟨rfl, hbY2⟩
    have hS2 := hS.below hbY2 hS.lt
    refine hK _ _ ?_
    clear hK K
    refine wpAny_ready (rs := [0]) (by kernel_rfl) (by simp) ?_
    refine AllReady.cons rfl (fun K hK => ?_) AllReady.nil
    refine step_load_us arr8 rfl (.tmp 3) rfl w1.heap.size rfl 142 st hS2 ?_
    refine hK _ _ ?_
    clear hK K
    refine wpAny_ready (rs := [3]) (by kernel_rfl) (by simp) ?_
    refine AllReady.cons rfl (fun K hK => ?_) AllReady.nil
    go_simp
    refine (mix_any _ _ _).mono ?_
    rintro e Y3 ⟨rfl, hbY3⟩
    have hS3 := hS2.below hbY3 hS2.lt
    refine hK _ _ ?_
    clear hK K
    refine wpAny_ready (rs := [4]) (by kernel_rfl) (by simp) ?_
    refine AllReady.cons rfl (fun K hK => ?_) AllReady.nil
    refine step_store_us arr8 rfl (.tmp 3) (.tmp 16) rfl w1.heap.size rfl (mixed cb (sch x 48) st) rfl 142 st hS3 ?_
    intro Y4 hS4 hgY
    refine hK _ _ ?_
    clear hK K
    refine wpAny_done (by kernel_rfl) ?_ _
    exact hFin Y2 Y3 Y4 { tmps := #[], defers := [] } hbY2 hbY3 hS4 hgY
 ·
  rintro D X hD ⟨⟨hS, hsz⟩, hB⟩ hK
  rw [show (blkWords p N).length = N by simp [blkWords]] at hS
  have hst : Hid (sumL cb sq l = sumTo (sts cb p sq N) 8) := HS
  generalize sts cb p sq N = st at *
  gi_wp2_with (with_reducible refine arrIn_load arr8 rfl (.tmp 3) rfl w1.heap.size rfl 142 st hS ?_)
  gi_loopw [5, 18] (fun v i wr => ∃ k : Nat, k ≤ 8 ∧ i = .int .i64 k ∧ wr.ownsRow w.heap.size 5 1 v (4 * k) ((sumTo st k).map bv) ∧ wr.heap[D]? = some (.deferred (some [])) ∧ Below w.heap.size w wr) (fun _ i _ => 8 - (intOf i).toNat)
  case atStart => exact ⟨0, by omega, rfl, World.ownsRow_nil _ _ _ _, hK, hB⟩
  clear hS hB hK hsz
  case round =>
   obtain ⟨k, hk, rfl, hown, hD', hB⟩ := hrel
   obtain ⟨va, vc, rfl⟩ := ownsRow_slice hown
   have hNW := hB.size
   by_cases hlt : k < 8
   ·
    have hix := run_index_us 142 8 und8 st k hlt
    have hk0 : (k : Int) < 8 := by omega
    gi_wp2_with (first
     | (refine ⟨trivial, ?_⟩; gi_at_call 110; refine (callsIn_wide.2 (num_any _ 4 (by omega) (by omega) _)).mono ?_; rintro e w5 ⟨s4, rfl, hs4, hb5⟩; rw [show clamp 4 = 4 from rfl] at hs4; have hown5 := own_below4 hown hb5; have hNW5 := Nat.le_trans hNW hb5.size; obtain ⟨a4, c4, rfl⟩ := bsl_slice hs4)
     | (gi_at_builtin; refine wpListIn_append_b _ rfl _ _ 95 rfl w.heap.size 5 i0 (.int .u8 0) Tryz.underlying95 hi hz0 hz1 hz2 rfl _ (4 * k) ((sumTo st k).map bv) rfl hown5 _ _ rfl hs4 (by rw [octs_length]; omega) hNW5 ?_; intro v6 w6 hown6 hgrow6))
    have hD5 : w5.heap[D]? = some (.deferred (some [])) := (hb5.block D (Array.getElem?_eq_some_iff.1 hD').1).trans hD'
    have hD6 : w6.heap[D]? = some (.deferred (some [])) := (hgrow6.block D (Array.getElem?_eq_some_iff.1 hD5).1 (fun e => by
     obtain ⟨cur, fr, hc⟩ := ownsRow_block hown5 D e.symm
     rw [hD5] at hc; cases hc)).trans hD5
    rw [octs_length, ← List.map_append] at hown6
    have hB6 : Below w.heap.size w w6 := (chain hB hb5).grown hgrow6 hNW5 (fun j hj => (World.ownsRow.lt hown5 j hj).1)
    go_roundw
    case rel => exact ⟨k + 1, by omega, by simp, hown6, hD6, hB6⟩
    case measure => simp [intOf]; omega
   ·
    obtain rfl : k = 8 := by omega
    gi_wp2_with fail
    have hB' := hB.trans (belowK_b (w := w) (Nat.le_refl _) _ D _ (.deferred none) (by omega) hD' rfl rfl)
    have hown3 := ownsRow_putObj hown (.deferred none) hD' rfl
    refine ⟨by simp, .inl ⟨_, _, rfl, run_takeDeferred hD', ?_⟩⟩
    refine ⟨.slice va (4 * 8) vc, ?_, ?_⟩
    ·
     simp [results, Tryz.f83, go_sem]
    ·
     exact ⟨_, rfl, by rw [hst.out, sumTo_length]; exact hown3, hB'⟩
theorem sum_any (l : List UInt8) (sv : Value) (w : World) (hreach : l.length ≤ 140737488353000) (hsv : BSl 0 w.heap.size w sv l) :
  Calls Tryz.prog 83 #[sv] w (ByO (sumL cb sq l) w) := callsIn_wide.1 (sum_in 10 (by omega) l sv w hreach hsv)
end Go.Proofs.YthhmdgmmeedhdaaGreat
namespace Go.Proofs.YthhmdgmmeedhdaaGreat
open Go.RowKit Go.Shelf
def sumS (l : List UInt8) : ByteArray := ⟨(sumL cb sq l).toArray⟩
theorem sumS_size (l : List UInt8) : (sumS l).size = 32 := by
 show (sumL cb sq l).toArray.size = 32
 rw [List.size_toArray]
 exact sumTo_length _ 8
set_option maxRecDepth 100000 in
set_option maxHeartbeats 2000000 in
theorem text_any {o : Nat} (sv : Value) (w : World) (zs : List (SX o w.heap.size w)) (hreach : zs.length ≤ 140737488351232) (hfl : (flat zs).length ≤ 140737488353000) (hsv : SSl w.heap.size w sv zs) :
  Calls Tryz.prog 48 #[sv] w fun e W' => e = .returned (.string (sumS (flat zs))) ∧ Below w.heap.size w W' := by
 have hsv0 := hsv
 obtain ⟨a, cap, rfl, _⟩ := hsv
 go_enter Tryz.func48, Tryz.ntmps48
 go_wp2_with fail
 refine (cat_any _ _ zs hreach (by omega) hsv0).mono ?_
 rintro e w1 ⟨cv, rfl, hc, hb1⟩
 go_wp2_with fail
 refine (sum_any (flat zs) _ _ hfl (hc.mono (Nat.zero_le _) (Nat.le_refl _))).mono ?_
 rintro e w2 ⟨sv2, rfl, hown, hb2⟩
 have hcv := run_string (P := Tryz.prog) 95 5 9 Tryz.underlying95 Tryz.underlying5 Tryz.underlying9 w2 (BSl.of_own hown)
 go_wp2_with fail
 go_ret
 exact ⟨rfl, chain hb1 hb2⟩
end Go.Proofs.YthhmdgmmeedhdaaGreat
namespace Go.Proofs.YthhmdgmmeedhdaaGreat
open Go.RowKit Go.Shelf
theorem text1_any (l1 : List UInt8) (s1 : Value) (w : World) (hl : l1.length ≤ 140737488353000) (h1 : BSl 0 w.heap.size w s1 l1) :
  Calls Tryz.prog 48 #[.slice (some ⟨w.heap.size, 0, none⟩) 1 1] (w.alloc (.cells #[s1] 95)) fun e W' => e = .returned (.string (sumS l1)) ∧ Below w.heap.size w W' := by
 have hb := chain0 w (.cells #[s1] 95)
 have hz : (w.alloc (.cells #[s1] 95)).heap.size = w.heap.size + 1 := by simp
 have k : Blk (w.alloc (.cells #[s1] 95)) w.heap.size 95 [s1] := Blk.new w 95 [s1]
 generalize w.alloc (.cells #[s1] 95) = W at *
 let zs : List (SX 140737488353000 W.heap.size W) := [⟨(s1, l1), (h1.below hb (Nat.le_refl _)).mono (Nat.le_refl _) (by omega), hl⟩]
 have hfl : flat zs = l1 := by simp [flat, zs]
 have := text_any (.slice (some ⟨w.heap.size, 0, none⟩) 1 1) W zs (by simp [zs]) (by rw [hfl]; exact hl)
  ⟨_, _, rfl, .inr ⟨w.heap.size, 0, rfl, by omega, fun i x hx => by
   rw [Nat.zero_add, k.cell i]
   match i, hx with
   | 0, hx => simp only [zs, List.getElem?_cons_zero, Option.some.injEq] at hx; rw [← hx]; rfl
   | i + 1, hx => simp [zs] at hx⟩⟩
 rw [hfl] at this
 exact this.mono fun e W' ⟨h1, h2⟩ => ⟨h1, chain hb h2⟩
end Go.Proofs.YthhmdgmmeedhdaaGreat
namespace Go.Proofs.YthhmdgmmeedhdaaGreat
open Go.RowKit Go.Shelf
def NewO (w : World) (e : Ending) (W' : World) : Prop := ∃ NB, e = .returned (.pointer (some ⟨NB, 0, none⟩)) ∧ w.heap.size ≤ NB ∧ ObjP 132 W' (some ⟨NB, 0, none⟩) ([], 0) ∧ Below w.heap.size w W'
theorem outNewO_any (w : World) : Calls Tryz.prog 46 #[] w (NewO w) :=
 (outNew_any w).mono fun _ _ ⟨h1, _, h3, h4⟩ => ⟨_, h1, Nat.le_refl _, h3, h4⟩
theorem below_did {T : TypeId} {NB : Nat} {s : St} {w W : World} {e : Ending} {W' : World} (hB : Below w.heap.size w W) (hN : w.heap.size ≤ NB) (h : DidS T (some ⟨NB, 0, none⟩) s W e W') : Below w.heap.size w W' :=
 hB.grown h.2.2 hB.size (fun k e => by cases e; exact hN)
def OctsL (l : List UInt8) (w : World) (e : Ending) (W' : World) : Prop := ∃ sv, e = .returned sv ∧ BSl 0 W'.heap.size W' sv l ∧ Below w.heap.size w W'
end Go.Proofs.YthhmdgmmeedhdaaGreat
namespace Go.Proofs.YthhmdgmmeedhdaaGreat
open Go.RowKit Go.Shelf
def keyB (i : Trf) : ByteArray := if maybeI i then sumS (putI ([], 0) i).1 else ⟨#[]⟩
def digB (i : Trf) (v : Sid) : ByteArray := if maybeI i ∧ maybeV v then sumS (putV (txtS ([], 0) (keyB i)) v).1 else ⟨#[]⟩
def payL (act : Int) (key : ByteArray) (a0 a1 a2 a3 : Nat) : List UInt8 := if (1 ≤ act ∧ act ≤ 2) ∧ key.size = 32 then (paySt act key a0 a1 a2 a3).1 else []
set_option maxRecDepth 100000 in
set_option maxHeartbeats 1000000 in
theorem key_any (i : Trf) (w : World) :
  Calls Tryz.prog 21 #[ivv i] w fun e W' => e = .returned (.string (keyB i)) ∧ Below w.heap.size w W' := by
 have kB := Blk.new w 46 (ivc i)
 have hB := chain0 w (.cells (ivc i).toArray 46)
 have HC := Lib.hid (check_any i)
 by_cases hm : maybeI i
 ·
  have HE := Lib.hid (errI_zero hm)
  have e1 : keyB i = sumS (putI ([], 0) i).1 := if_pos hm
  rw [e1]
  have hlen := (okS_putI okS_new i).2
  have HLE := Lib.hid hlen
  clear hm e1 hlen
  go_enter Tryz.func21, Tryz.ntmps21
  go_wp2_with (first
   | (go_at_call 45; refine (HC.out _).mono ?_; rw [HE.out]; rintro e W1 ⟨rfl, hb1⟩; replace kB := kB.below hb1 kB.lt; replace hB := chain hB hb1; clear hb1)
   | (go_at_call 46; refine (outNewO_any _).mono ?_; rintro e W2 ⟨NB, rfl, hN, hO, hb2⟩; have hne : some w.heap.size ≠ some NB := (fun e => by cases e; exact absurd kB.lt (by omega)); replace kB := kB.below hb2 kB.lt; have hNw := Nat.le_trans hB.size hN; replace hB := chain hB hb2; obtain ⟨c0, c1, c2, c3, c4, c5, c6⟩ := kB.c7; clear hb2)
   | (go_at_call 47; refine (dealPut_any i _ hO).mono ?_; rintro e W3 hD; replace hB := below_did hB hNw hD; obtain ⟨rfl, hO3, hG3⟩ := hD)
   | (go_at_call 49; refine (dealOctets_any _ hO3).mono ?_; rintro e W4 ⟨sv, rfl, hsv, hb4⟩; replace hB := chain hB hb4; obtain ⟨va, vm, vc, rfl⟩ := hsv.shape3)
   | (go_at_call 48; refine (text1_any _ _ _ (by have := HLE.out; omega) hsv).mono ?_; rintro e W5 ⟨rfl, hb5⟩))
  go_ret
  exact ⟨rfl, chain hB hb5⟩
 ·
  have HE := Lib.hid (errI_bad hm)
  have e1 : keyB i = ⟨#[]⟩ := if_neg hm
  rw [e1]
  clear hm e1
  go_enter Tryz.func21, Tryz.ntmps21
  go_wp2_with (first
   | (go_at_call 45; refine (HC.out _).mono ?_; rw [HE.out]; rintro e W1 ⟨rfl, hb1⟩))
  go_ret
  exact ⟨rfl, chain hB hb1⟩
theorem okS_dig (i : Trf) (v : Sid) : OkS (putV (txtS ([], 0) (keyB i)) v) := okS_putV (okS_txt okS_new _) v
set_option maxRecDepth 100000 in
set_option maxHeartbeats 2000000 in
theorem digest_any (i : Trf) (v : Sid) (hv4 : Ok4 v.a0 v.a1 v.a2 v.a3) (w : World) :
  Calls Tryz.prog 101 #[ivv i, svv v] w fun e W' => e = .returned (.string (digB i v)) ∧ Below w.heap.size w W' := by
 have kB : Blk ((w.alloc (.cells (ivc i).toArray 46)).alloc (.cells (svc v).toArray 48)) w.heap.size 46 (ivc i) := (Blk.new w 46 (ivc i)).alloc _
 have kV : Blk ((w.alloc (.cells (ivc i).toArray 46)).alloc (.cells (svc v).toArray 48)) (w.heap.size + 1) 48 (svc v) := Blk.new' (by simp)
 have hB := chainA (chain0 w (.cells (ivc i).toArray 46)) (.cells (svc v).toArray 48)
 have HC := Lib.hid (check_any i)
 have HS := Lib.hid (sound_any v)
 by_cases hm : maybeI i
 ·
  have HE := Lib.hid (errI_zero hm)
  by_cases hn : maybeV v
  ·
   have HF := Lib.hid (errV_zero hn)
   have e1 : digB i v = sumS (putV (txtS ([], 0) (keyB i)) v).1 := if_pos ⟨hm, hn⟩
   rw [e1]
   have hlen := (okS_dig i v).2
   have HLE := Lib.hid hlen
   clear hm hn e1 hlen
   generalize hk : keyB i = kk at *
   have HK := Lib.hid hk
   clear hk
   go_enter Tryz.func101, Tryz.ntmps101
   go_wp2_with (first
    | (go_at_call 45; refine (HC.out _).mono ?_; rw [HE.out]; rintro e W1 ⟨rfl, hb1⟩; replace kB := kB.below hb1 kB.lt; replace kV := kV.below hb1 kV.lt; replace hB := chain hB hb1; obtain ⟨d0, d1, d2, d3, d4⟩ := kV.c5; clear hb1)
    | (go_at_call 124; refine (HS.out _).mono ?_; rw [HF.out]; rintro e W1 ⟨rfl, hb1⟩; replace kB := kB.below hb1 kB.lt; replace kV := kV.below hb1 kV.lt; replace hB := chain hB hb1; clear hb1 d0 d1 d2 d3 d4)
    | (go_at_call 46; refine (outNewO_any _).mono ?_; rintro e W2 ⟨NB, rfl, hN, hO, hb2⟩; have hnv : some (w.heap.size + 1) ≠ some NB := (fun e => by cases e; exact absurd kV.lt (by omega)); replace kB := kB.below hb2 kB.lt; replace kV := kV.below hb2 kV.lt; have hNw := Nat.le_trans hB.size hN; replace hB := chain hB hb2; obtain ⟨c0, c1, c2, c3, c4, c5, c6⟩ := kB.c7; clear hb2)
    | (go_at_call 21; refine (key_any i _).mono ?_; rw [HK.out]; rintro e W3 ⟨rfl, hb3⟩; replace hO := hO.below hb3; replace kV := kV.below hb3 kV.lt; replace hB := chain hB hb3; clear hb3)
    | (go_at_call 81; refine (outText_any _ _ hO).mono ?_; rintro e W4 hD; replace hB := below_did hB hNw hD; obtain ⟨rfl, hO1, hG1⟩ := hD; replace kV := kV.kept hG1 hnv; obtain ⟨d0, d1, d2, d3, d4⟩ := kV.c5)
    | (go_at_call 127; refine (dealPutVar_any v hv4 _ hO1).mono ?_; rintro e W5 hD; replace hB := below_did hB hNw hD; obtain ⟨rfl, hO2, hG2⟩ := hD)
    | (go_at_call 49; refine (dealOctets_any _ hO2).mono ?_; rintro e W6 ⟨sv, rfl, hsv, hb4⟩; replace hB := chain hB hb4; obtain ⟨va, vm, vc, rfl⟩ := hsv.shape3)
    | (go_at_call 48; refine (text1_any _ _ _ (by have := HLE.out; omega) hsv).mono ?_; rintro e W7 ⟨rfl, hb5⟩))
   go_ret
   exact ⟨rfl, chain hB hb5⟩
  ·
   have HF := Lib.hid (errV_bad hn)
   have e1 : digB i v = ⟨#[]⟩ := if_neg fun h => hn h.2
   rw [e1]
   clear hm hn e1
   go_enter Tryz.func101, Tryz.ntmps101
   go_wp2_with (first
    | (go_at_call 45; refine (HC.out _).mono ?_; rw [HE.out]; rintro e W1 ⟨rfl, hb1⟩; replace kV := kV.below hb1 kV.lt; obtain ⟨d0, d1, d2, d3, d4⟩ := kV.c5)
    | (go_at_call 124; refine (HS.out _).mono ?_; rw [HF.out]; rintro e W2 ⟨rfl, hb2⟩))
   go_ret
   exact ⟨rfl, chain (chain hB hb1) hb2⟩
 ·
  have HE := Lib.hid (errI_bad hm)
  have e1 : digB i v = ⟨#[]⟩ := if_neg fun h => hm h.1
  rw [e1]
  clear hm e1
  go_enter Tryz.func101, Tryz.ntmps101
  go_wp2_with (first
   | (go_at_call 45; refine (HC.out _).mono ?_; rw [HE.out]; rintro e W1 ⟨rfl, hb1⟩))
  go_ret
  exact ⟨rfl, chain hB hb1⟩
theorem payL_yes {act : Int} {key : ByteArray} {a0 a1 a2 a3 : Nat} (h1 : 1 ≤ act ∧ act ≤ 2) (h2 : key.size = 32) : payL act key a0 a1 a2 a3 = (paySt act key a0 a1 a2 a3).1 := if_pos ⟨h1, h2⟩
theorem payL_no {act : Int} {key : ByteArray} {a0 a1 a2 a3 : Nat} (h : ¬ ((1 ≤ act ∧ act ≤ 2) ∧ key.size = 32)) : payL act key a0 a1 a2 a3 = [] := if_neg h
set_option maxRecDepth 100000 in
set_option maxHeartbeats 2000000 in
theorem payload_any (act : Int) (key : ByteArray) {a0 a1 a2 a3 : Nat} (h4 : Ok4 a0 a1 a2 a3) (w : World) :
  Calls Tryz.prog 129 #[.int .i64 act, .string key, wv a0 a1 a2 a3] w (OctsL (payL act key a0 a1 a2 a3) w) := by
 have H0 := holds_any act 1 2
 by_cases hx : 1 ≤ act ∧ act ≤ 2
 ·
  rw [hold_yes hx.1 hx.2] at H0
  have H1 := Lib.hid H0
  by_cases hk : key.size = 32
  ·
   rw [payL_yes hx hk]
   have q1 : ((key.size : Int) == 32) = true := by rw [hk]; rfl
   have q2 : ((key.size : Int) != 32) = false := by rw [hk]; rfl
   clear hk hx H0
   have kB : BlkW (w.alloc (.cells #[.int .u64 (a0 : Nat), .int .u64 (a1 : Nat), .int .u64 (a2 : Nat), .int .u64 (a3 : Nat)] 27)) w.heap.size a0 a1 a2 a3 := Blk.new w _ [_, _, _, _]
   have hB := chain0 w (.cells #[.int .u64 (a0 : Nat), .int .u64 (a1 : Nat), .int .u64 (a2 : Nat), .int .u64 (a3 : Nat)] 27)
   go_enter Tryz.func129, Tryz.ntmps129
   go_wp2_with (first
    | (go_at_call 80; refine (H1.out _).mono ?_; rintro e W1 ⟨rfl, hb1⟩; replace hB := chain (chainA hB _) hb1; replace kB := (Blk.alloc kB _).below hb1 (kB.alloc _).lt; clear hb1)
    | (go_at_call 46; refine (outNewO_any _).mono ?_; rintro e W2 ⟨NB, rfl, hN, hO, hb2⟩; have hnv : some w.heap.size ≠ some NB := (fun e => by cases e; exact absurd kB.lt (by omega)); replace kB := kB.below hb2 kB.lt; have hNw := Nat.le_trans hB.size hN; replace hB := chain hB hb2; clear hb2)
    | (go_at_call 81; refine (outText_any _ _ hO).mono ?_; rintro e W4 hD; replace hB := below_did hB hNw hD; obtain ⟨rfl, hO1, hG1⟩ := hD; replace kB := kB.kept hG1 hnv; replace hO := hO1; obtain ⟨c0, c1, c2, c3⟩ := Blk.c4 kB; clear hO1 hG1)
    | (go_at_call 82; refine (outNum_any _ _ hO).mono ?_; rintro e W4 hD; replace hB := below_did hB hNw hD; obtain ⟨rfl, hO1, hG1⟩ := hD; replace kB := kB.kept hG1 hnv; replace hO := hO1; clear hO1 hG1)
    | (go_at_call 143; refine (outWide_any h4 _ hO).mono ?_; rintro e W5 hD; replace hB := below_did hB hNw hD; obtain ⟨rfl, hO2, hG2⟩ := hD)
    | (go_at_call 49; refine (dealOctets_any _ hO2).mono ?_; rintro e W6 ⟨sv, rfl, hsv, hb4⟩; replace hB := chain hB hb4; obtain ⟨va, vm, vc, rfl⟩ := hsv.shape3))
   go_ret
   exact ⟨_, rfl, hsv, hB⟩
  ·
   rw [payL_no (fun h => hk h.2)]
   have q1 : ((key.size : Int) == 32) = false := by simpa using (show ¬ (key.size : Int) = 32 by omega)
   have q2 : ((key.size : Int) != 32) = true := by simpa using (show ¬ (key.size : Int) = 32 by omega)
   clear hk hx H0
   go_enter Tryz.func129, Tryz.ntmps129
   go_wp2_with (first
    | (go_at_call 80; refine (H1.out _).mono ?_; rintro e W1 ⟨rfl, hb1⟩))
   go_ret
   exact ⟨_, rfl, BSl.nil _ _ _, chain (chainA (chain0 _ _) _) hb1⟩
 ·
  rw [hold_no hx] at H0
  rw [payL_no (fun h => hx h.1)]
  have H1 := Lib.hid H0
  clear hx H0
  go_enter Tryz.func129, Tryz.ntmps129
  go_wp2_with (first
   | (go_at_call 80; refine (H1.out _).mono ?_; rintro e W1 ⟨rfl, hb1⟩))
  go_ret
  exact ⟨_, rfl, BSl.nil _ _ _, chain (chainA (chain0 _ _) _) hb1⟩
end Go.Proofs.YthhmdgmmeedhdaaGreat
namespace Go.Proofs.YthhmdgmmeedhdaaGreat
open Go.RowKit Go.Shelf
theorem wide8_length (a0 a1 a2 a3 : Nat) : (wide8 a0 a1 a2 a3).length = 32 := by simp [wide8, octs_length]
end Go.Proofs.YthhmdgmmeedhdaaGreat
namespace Go.Proofs.YthhmdgmmeedhdaaGreat
open Go.RowKit Go.Shelf
theorem add_ok {l x : List UInt8} (h : l.length + x.length ≤ 8192) : addS (l, 0) x = (l ++ x, 0) := by
 unfold addS; rw [if_pos rfl, if_pos h]
theorem num_ok {l : List UInt8} {n : Int} (h0 : 0 ≤ n) (h1 : n ≤ 1099511627776) (h : l.length ≤ 8000) : numS (l, 0) n = (l ++ octs (two n) 6, 0) := by
 unfold numS; rw [if_pos ⟨h0, h1⟩, add_ok (by rw [octs_length]; omega)]
theorem txt_ok {l : List UInt8} {t : ByteArray} (h1 : t.size ≤ 100) (h : l.length ≤ 8000) : txtS (l, 0) t = (l ++ (octs t.size 2 ++ t.data.toList), 0) := by
 have hl : t.data.toList.length = t.size := by rw [Array.length_toList]; rfl
 unfold txtS; rw [if_pos (by omega), add_ok (by rw [List.length_append, octs_length, hl]; omega)]
theorem wide_ok {l : List UInt8} {a0 a1 a2 a3 : Nat} (h : l.length ≤ 8000) : wideS (l, 0) a0 a1 a2 a3 = (l ++ wide8 a0 a1 a2 a3, 0) := by
 unfold wideS; rw [add_ok (by rw [wide8_length]; omega)]
def encT (t : ByteArray) : List UInt8 := octs t.size 2 ++ t.data.toList
theorem encT_length (t : ByteArray) : (encT t).length = t.size + 2 := by
 have hl : t.data.toList.length = t.size := by rw [Array.length_toList]; rfl
 rw [encT, List.length_append, octs_length, hl]; omega
def encN (n : Int) : List UInt8 := octs (two n) 6
theorem encN_length (n : Int) : (encN n).length = 6 := octs_length _ _
end Go.Proofs.YthhmdgmmeedhdaaGreat
namespace Go.Proofs.YthhmdgmmeedhdaaGreat
open Go.RowKit Go.Shelf
theorem actB_size : actB.size = 3 := rfl
end Go.Proofs.YthhmdgmmeedhdaaGreat
namespace Go.Proofs.YthhmdgmmeedhdaaGreat
open Go.RowKit Go.Shelf
theorem pay_ok {act : Int} {key : ByteArray} (h : 1 ≤ act ∧ act ≤ 2) (hk : key.size = 32) (a0 a1 a2 a3 : Nat) :
  payL act key a0 a1 a2 a3 = (encT actB ++ encN act) ++ (encT key ++ wide8 a0 a1 a2 a3) := by
 have hr : key.data.toList.length = 32 := by rw [Array.length_toList]; exact hk
 rw [payL_yes h hk]
 unfold paySt
 rw [txt_ok (t := actB) (by decide) (by simp)]
 rw [num_ok (by omega) (by omega) (by simp [octs_length, actB])]
 rw [txt_ok (by omega) (by simp [octs_length, actB])]
 rw [wide_ok (by simp only [List.length_append, octs_length, hr]; simp [actB])]
 unfold encT encN
 simp only [List.nil_append, List.append_assoc]
theorem pay_len {act : Int} {key : ByteArray} (h : 1 ≤ act ∧ act ≤ 2) (hk : key.size = 32) (a0 a1 a2 a3 : Nat) : (payL act key a0 a1 a2 a3).length = 77 := by
 rw [pay_ok h hk]
 simp only [List.length_append, encT_length, encN_length, wide8_length, hk, actB_size]
end Go.Proofs.YthhmdgmmeedhdaaGreat
namespace Go.Proofs.YthhmdgmmeedhdaaGreat
open Go.RowKit Go.Shelf
attribute [local go_sem] Oper.semAt_some
def dig (x p : Nat) : Nat := x / 2 ^ (p * 2) % 4
def digs (x N : Nat) : List Int := (List.range N).map fun i => (dig x (N - 1 - i) : Int)
theorem digs_length (x N : Nat) : (digs x N).length = N := by simp [digs]
theorem digs_at (x : Nat) {N k : Nat} (h : k < N) : (digs x N)[k]? = some (dig x (N - 1 - k) : Int) := by unfold digs; rw [List.getElem?_map, List.getElem?_range h]; rfl
theorem and3 {a : Nat} (ha : a ≤ 9223372036854775807) : bits .and .i64 (a : Int) 3 = ((a % 4 : Nat) : Int) := by
 have e := (Go.bits_nat .i64 63 (by decide) (fun n h0 h1 => by rw [IntKind.wrap_i64]; omega) a 3 (by simp; omega) (by simp)).1
 have h : a &&& 3 = a % 4 := by
  have := Nat.and_two_pow_sub_one_eq_mod a 2
  simpa using this
 rw [h] at e
 rw [← e]
 rfl
set_option maxRecDepth 100000 in
set_option maxHeartbeats 2000000 in
theorem digits1_rel (m : Nat) (hm : 1 ≤ m) (x N : Nat) (hx : x ≤ 16777215) (hN : N ≤ 16) (Bn Bm : Nat) (w : World) (kn : Boxed w Bn 3 (.int .i64 (x : Nat))) (km : Boxed w Bm 3 (.int .i64 (N : Nat))) :
  SeqRel Fence.wide m Tryz.prog 178 #[.pointer (some ⟨Bm, 0, none⟩), .pointer (some ⟨Bn, 0, none⟩)] N (fun k r _ => ∃ y : Int, (digs x N)[k]? = some y ∧ r = #[iv y]) (fun _ => KeepB2 Bn Bm) w := fun l J W hW _ _ _ hY h0 => by
 have hcn : Boxed W Bn 3 (.int .i64 (x : Nat)) := (hW.block Bn kn.lt).trans kn
 have hcm : Boxed W Bm 3 (.int .i64 (N : Nat)) := (hW.block Bm km.lt).trans km
 refine callsIn_of_wp Tryz.func178 rfl trivial ?_ rfl
 simp only [Tryz.ntmps178, List.size_toArray, List.length_cons, List.length_nil, Nat.reduceAdd, Nat.reduceSub, Array.replicate_succ, Array.replicate_zero, List.push_toArray, List.append_toArray, List.nil_append, List.cons_append]
 have hN' : (N : Int) ≤ 16 := by omega
 have cm := hcm.cell
 gi_wp2
 clear cm
 gi_loopw [7] (fun i wr => ∃ k : Nat, k ≤ N ∧ i = .int .i64 (k : Nat) ∧ (Boxed wr Bn 3 (.int .i64 (x : Nat)) ∧ Boxed wr Bm 3 (.int .i64 (N : Nat))) ∧ J k wr) (fun i _ => N - (intOf i).toNat)
 case atStart => exact ⟨0, by omega, rfl, ⟨hcn, hcm⟩, h0⟩
 clear hcn hcm h0
 case round =>
  obtain ⟨k, hk, rfl, ⟨hbn, hbm⟩, hJ⟩ := hrel
  have cn := hbn.cell
  have cm := hbm.cell
  by_cases hlt : k < N
  ·
   have hlt' : (k : Int) < (N : Int) := by omega
   have hD := digs_at x hlt
   have hp : (N : Int) - 1 - k = ((N - 1 - k : Nat) : Int) := by omega
   have hpl : N - 1 - k ≤ 15 := by omega
   have hpl' : ((N - 1 - k : Nat) : Int) ≤ 15 := by omega
   obtain ⟨fn, tmps, assign, body, hy, hR⟩ := hY k #[iv (dig x (N - 1 - k) : Int)] wr hlt ⟨_, hD, rfl⟩ hJ
   clear hD
   generalize N - 1 - k = p at *
   have hb : bits BinOp.and IntKind.i64 ((x : Int) / 2 ^ (p * 2)) 3 = (dig x p : Int) := by
    have hle : x / 2 ^ (p * 2) ≤ x := Nat.div_le_self _ _
    have h := and3 (a := x / 2 ^ (p * 2)) (by omega)
    rw [show (((x / 2 ^ (p * 2) : Nat)) : Int) = (x : Int) / 2 ^ (p * 2) by simp] at h
    exact h
   simp only [iv] at hy
   gi_wp2
   clear hy hb
   refine hR.mono ?_
   rintro e W3 ⟨rfl, hJ3, hk3⟩
   have hbn3 : Boxed W3 Bn 3 (.int .i64 (x : Nat)) := hk3.1.trans hbn
   have hbm3 : Boxed W3 Bm 3 (.int .i64 (N : Nat)) := hk3.2.trans hbm
   clear cn cm hp
   gi_wp2
   go_roundw
   case rel => exact ⟨k + 1, by omega, by simp, ⟨hbn3, hbm3⟩, hJ3⟩
   case measure => simp [intOf]; omega
  ·
   obtain rfl : k = N := by omega
   gi_wp2
   go_end0
   exact ⟨⟨_, rfl⟩, hJ⟩
set_option maxHeartbeats 1000000 in
theorem digits_in (F : Fence) (m : Nat) (h : F.fn 169) (hro : F.round = none) (x N : Int) (w : World) :
  CallsIn F m Tryz.prog 169 #[.int .i64 x, .int .i64 N] w fun e w' => e = .returned (.func (.func 178) #[] #[.pointer (some ⟨w.heap.size + 1, 0, none⟩), .pointer (some ⟨w.heap.size, 0, none⟩)]) ∧ w' = (w.alloc (.cells #[.int .i64 x] 3)).alloc (.cells #[.int .i64 N] 3) := by
 refine callsIn_of_wp Tryz.func169 rfl h ?_ hro
 simp only [Tryz.ntmps169, List.size_toArray, List.length_cons, List.length_nil, Nat.reduceAdd, Nat.reduceSub, Array.replicate_succ, Array.replicate_zero, List.push_toArray, List.append_toArray, List.nil_append, List.cons_append]
 gi_wp2
 go_ret
 exact ⟨rfl, rfl⟩
end Go.Proofs.YthhmdgmmeedhdaaGreat
namespace Go.Proofs.YthhmdgmmeedhdaaGreat
open Go.RowKit Go.Shelf
attribute [local go_sem] Oper.semAt_some
theorem Tryz.infoIntI : (Tryz.prog.info? 3).map (fun i => (i.zero, i.size, i.bytes)) = some (some (.int .i64 0), 1, 8) := by kernel_rfl
def SeqII (n₀ B Bn Bm x N k : Nat) (xs ys : List Value) (w : World) (j : Nat) (W : World) : Prop :=
 (((∃ v, Boxed W B 23 v ∧ W.ownsRow n₀ 3 1 v (k + j) (xs ++ ys.take j) ∧ True) ∧ (Boxed W Bn 3 (.int .i64 (x : Nat)) ∧ Boxed W Bm 3 (.int .i64 (N : Nat)))) ∧ Below n₀ w W) ∧ Spares 3 w W
theorem seqII_own {n₀ Bb Bn Bm x N k : Nat} {xs ys : List Value} {w : World} {B : Nat} (h : n₀ ≤ w.heap.size) (hB : w.heap.size ≤ B) : OwnFrom B (SeqII n₀ Bb Bn Bm x N k xs ys w) :=
 OwnFrom.and (OwnFrom.and (OwnFrom.and (Own.from (holdsRow_own n₀ Bb 23 3 1 (fun j : Nat => k + j) (fun j => xs ++ ys.take j) (fun _ _ => True)) _)
  (OwnFrom.and (Own.from (fun _ X Y row hs hg hr => blk_own Bn 3 (fun (_ : Unit) => [.int .i64 (x : Nat)]) () X Y row hs hg hr) _)
   (Own.from (fun _ X Y row hs hg hr => blk_own Bm 3 (fun (_ : Unit) => [.int .i64 (N : Nat)]) () X Y row hs hg hr) _))) (ownFrom_below h (Nat.le_trans h hB))) (ownFrom_spares hB)
def RowW (n₀ : Nat) (e : TypeId) (k : Nat) (xs : List Value) (w : World) (en : Ending) (W' : World) : Prop :=
 ∃ v', en = .returned v' ∧ W'.ownsRow n₀ e 1 v' k xs ∧ Below n₀ w W'
def RowSW (n₀ : Nat) (e : TypeId) (k : Nat) (xs : List Value) (w : World) (en : Ending) (W' : World) : Prop :=
 ∃ v', en = .returned v' ∧ W'.ownsRow n₀ e 1 v' k xs ∧ Below n₀ w W' ∧ Spares e w W'
set_option maxRecDepth 100000 in
set_option maxHeartbeats 4000000 in
theorem appendSeqI_in (m : Nat) (hm : 3 ≤ m) (n₀ k x N : Nat) (hk : k ≤ 1000000) (hx : x ≤ 16777215) (hN : N ≤ 16) (sv : Value) (xs : List Value) (Bn Bm : Nat) (w : World) (hn₀ : n₀ ≤ w.heap.size) (hrow : w.ownsRow n₀ 3 1 sv k xs)
  (kn : Boxed w Bn 3 (.int .i64 (x : Nat))) (km : Boxed w Bm 3 (.int .i64 (N : Nat))) (hne : (Bn < n₀ ∧ Bm < n₀) ∨ 2 ≤ k) :
  CallsIn Fence.wide m Tryz.prog 171 #[sv, .func (.func 178) #[] #[.pointer (some ⟨Bm, 0, none⟩), .pointer (some ⟨Bn, 0, none⟩)]] w (RowSW n₀ 3 (k + N) (xs ++ (digs x N).map iv) w) := by
 have h1 : 1 ≤ m := by omega
 obtain ⟨a, c, rfl⟩ := ownsRow_slice hrow
 refine callsIn_of_wp_marks Tryz.func171 rfl trivial ?_ rfl
 simp only [Tryz.ntmps171, List.size_toArray, List.length_cons, List.length_nil, Nat.reduceAdd, Nat.reduceSub, Array.replicate_succ, Array.replicate_zero, List.push_toArray, List.append_toArray, List.nil_append, List.cons_append]
 obtain ⟨i0, hi, hz0, hz1, hz2⟩ := info_parts Tryz.infoIntI
 gi_wp2
 generalize hW5 : World.alloc _ _ = W5
 have k0 : Boxed W5 w.heap.size 23 (.slice a k c) := by rw [← hW5]; exact Boxed.new _ _ _
 have k1 : Boxed W5 Bn 3 (.int .i64 (x : Nat)) := by rw [← hW5]; exact kn.alloc _
 have k2 : Boxed W5 Bm 3 (.int .i64 (N : Nat)) := by rw [← hW5]; exact km.alloc _
 have hB0 : Below w.heap.size w W5 := by rw [← hW5]; exact chain0 _ _
 have hrow5 : W5.ownsRow n₀ 3 1 (.slice a k c) k xs := by rw [← hW5]; exact hrow.alloc _
 have hz : W5.heap.size = w.heap.size + 1 := by rw [← hW5]; simp
 have hBnw : Bn < w.heap.size := kn.lt
 have hBmw : Bm < w.heap.size := km.lt
 clear hW5
 refine wpIn_rangeFunc_relA rfl h1 (gf := 178) (lb := #[.pointer (some ⟨Bm, 0, none⟩), .pointer (some ⟨Bn, 0, none⟩)]) rfl trivial (enters_of Tryz.func178 (by kernel_rfl) rfl)
  (digits1_rel (m - 1) (by omega) x N hx hN Bn Bm W5 k1 k2) KeepB2.t (fun X o o' h2 h3 h4 => ⟨World.putObj_heap_other (by omega), World.putObj_heap_other (by omega)⟩) (fun X => ⟨rfl, rfl⟩) (Below.refl _ _) (fun _ => rfl)
  (SeqII n₀ w.heap.size Bn Bm x N k xs ((digs x N).map iv) w) (seqII_own hn₀ (by omega))
  ⟨⟨⟨⟨_, k0, by simpa using hrow5, trivial⟩, k1, k2⟩, hB0.mono hn₀⟩, Spares.of_below hB0⟩ (fun _ _ _ _ _ _ h _ _ => h) ?_ ?_ ?_ ?_
 rotate_left
 ·
  intro l k x W K _ hK
  gi_wp2
  exact hK
 ·
  rintro l j y W hlt ⟨⟨⟨⟨v, kv, hown, _⟩, kn, km⟩, hB⟩, hsp⟩ hy
  have ht : ((digs x N).map iv).take (j + 1) = ((digs x N).map iv).take j ++ [iv y] := by rw [List.take_add_one, List.getElem?_map, hy]; rfl
  have HT := Lib.hid ht
  clear ht hy
  have ko := kv.cell
  have kf := kv.frozen
  have hNW : n₀ ≤ W.heap.size := Nat.le_trans hn₀ hB.size
  have hn1 := own_ne (B := Bn) hown kn (by omega)
  have hn2 := own_ne (B := Bm) hown km (by omega)
  generalize ((digs x N).map iv).take j = zs at *
  gi_wp2_with (gi_at_builtin; refine wpListIn_append_own _ rfl _ _ 23 rfl n₀ 3 i0 (.int .i64 0) 1 8 Tryz.underlying23 hi hz0 hz1 hz2 rfl (by decide) v (k + j) (xs ++ zs) rfl (hown.alloc _) ⟨W.heap.size, 0, none⟩ 1 1 [iv y] rfl rfl (cell_one_new _ _ _) (by simp [Value.oneCell']) (by unfold maxLen; omega) (by omega) (by simp; omega) ?_; intro v' w1 hown' hgrow _; obtain ⟨g, cap, rfl⟩ := ownsRow_succ hown'; obtain ⟨hv1, kv', hrow', hk3, hbw⟩ := kv.appended (by decide) hown hNW hn₀ hown' hgrow; have ko1 := hv1.cell; have kf1 := hv1.frozen)
  have kn1 : Boxed w1 Bn 3 (.int .i64 (x : Nat)) := (kn.alloc _).kept hgrow hn1
  have kn3 := kn1.kept (grownBy_setCell' w1 w.heap.size (.slice (some ⟨g, 0, none⟩) (k + j + 1) cap)) (fun e => by cases e; omega)
  have km1 : Boxed w1 Bm 3 (.int .i64 (N : Nat)) := (km.alloc _).kept hgrow hn2
  have km3 := km1.kept (grownBy_setCell' w1 w.heap.size (.slice (some ⟨g, 0, none⟩) (k + j + 1) cap)) (fun e => by cases e; omega)
  have hsp1 := ((hsp.grown (World.grownBy_alloc W (.cells #[iv y] 3) none) (fun r e => by cases e)).grown hgrow (fun r e => .inr (ownsRow_block (hown.alloc _) r e))).grown (grownBy_setCell' w1 w.heap.size (.slice (some ⟨g, 0, none⟩) (k + j + 1) cap)) (fun r e => by cases e; exact .inl (Nat.le_refl _))
  exact ⟨hk3.from _, ⟨kn3.trans kn.symm, km3.trans km.symm⟩, ⟨⟨⟨_, kv', by rw [HT.out]; simpa [Nat.add_assoc] using hrow', trivial⟩, kn3, km3⟩, hB.trans hbw⟩, hsp1⟩
 ·
  rintro D W hD ⟨⟨⟨⟨v, kv, hown, _⟩, _⟩, hB⟩, hsp⟩ hK
  have ko := kv.cell
  have HZ := Lib.hid hz
  clear hz
  gi_wp2
  have hD' : w.heap.size ≤ D := by have := HZ.out; omega
  have hB' := hB.trans (belowK_b (w := w) hn₀ _ D _ (.deferred none) hD' hK rfl rfl)
  have hown3 := ownsRow_putObj hown (.deferred none) hK rfl
  rw [List.take_of_length_le (by simp [digs_length])] at hown3
  refine ⟨by simp, .inl ⟨_, _, rfl, run_takeDeferred hK, ?_⟩⟩
  refine ⟨v, ?_, ?_⟩
  ·
   simp [results, Tryz.f171, go_sem]
  ·
   exact ⟨v, rfl, hown3, hB', hsp.grown (grownBy_putObj' _ D (.deferred none)) (fun r e => by cases e; exact .inl hD')⟩
theorem collectI_in (m : Nat) (hm : 4 ≤ m) (x N : Nat) (hx : x ≤ 16777215) (hN : N ≤ 16) (Bn Bm : Nat) (w : World)
  (kn : Boxed w Bn 3 (.int .i64 (x : Nat))) (km : Boxed w Bm 3 (.int .i64 (N : Nat))) :
  CallsIn Fence.wide m Tryz.prog 168 #[.func (.func 178) #[] #[.pointer (some ⟨Bm, 0, none⟩), .pointer (some ⟨Bn, 0, none⟩)]] w (RowW w.heap.size 3 N ((digs x N).map iv) w) := by
 have h1 : 1 ≤ m := by omega
 refine callsIn_of_wp Tryz.func168 rfl trivial ?_ rfl
 simp only [Tryz.ntmps168, List.size_toArray, List.length_cons, List.length_nil, Nat.reduceAdd, Nat.reduceSub, Array.replicate_succ, Array.replicate_zero, List.push_toArray, List.append_toArray, List.nil_append, List.cons_append]
 gi_wp2_with (refine ⟨trivial, ?_⟩; gi_at_call 171; refine (appendSeqI_in (m - 1) (by omega) w.heap.size 0 x N (by omega) hx hN _ [] Bn Bm w (Nat.le_refl _) (World.ownsRow_nil _ _ _ _) kn km (.inl ⟨kn.lt, km.lt⟩)).mono ?_; rintro e w' ⟨v, rfl, hown, hb, _⟩; obtain ⟨a, c, rfl⟩ := ownsRow_slice hown)
 go_ret
 exact ⟨_, rfl, by simpa using hown, hb⟩
end Go.Proofs.YthhmdgmmeedhdaaGreat
namespace Go.Proofs.YthhmdgmmeedhdaaGreat
open Go.RowKit Go.Shelf
attribute [local go_sem] Oper.semAt_some
theorem Tryz.infoStr : (Tryz.prog.info? 9).map (fun i => (i.zero, i.size, i.bytes)) = some (some (.string ⟨#[]⟩), 1, 16) := by kernel_rfl
end Go.Proofs.YthhmdgmmeedhdaaGreat
namespace Go.Proofs.YthhmdgmmeedhdaaGreat
open Go.RowKit Go.Shelf
set_option maxRecDepth 100000 in
set_option maxHeartbeats 2000000 in
theorem short_any {o : Nat} (sv : Value) (w : World) (zs : List (SX o w.heap.size w)) (hreach : zs.length ≤ 140737488351232) (hfl : (flat zs).length ≤ 140737488353000) (hsv : SSl w.heap.size w sv zs) :
  Calls Tryz.prog 173 #[sv] w fun e W' => e = .returned (.string ((sumS (flat zs)).extract 0 8)) ∧ Below w.heap.size w W' := by
 have hsv0 := hsv
 obtain ⟨a, cap, rfl, _⟩ := hsv
 go_enter Tryz.func173, Tryz.ntmps173
 go_wp2_with fail
 refine (text_any _ _ zs hreach hfl hsv0).mono ?_
 rintro e w1 ⟨rfl, hb1⟩
 have h8 : 8 ≤ (sumS (flat zs)).size := by rw [sumS_size]; omega
 have h8' : (8 : Int) ≤ ((sumS (flat zs)).size : Int) := by omega
 generalize hs : sumS (flat zs) = s at *
 have HS := Lib.hid hs
 clear hs
 go_wp2_with fail
 go_ret
 exact ⟨by rw [HS.out]; rfl, hb1⟩
end Go.Proofs.YthhmdgmmeedhdaaGreat
namespace Go.Proofs.YthhmdgmmeedhdaaGreat
open Go.RowKit Go.Shelf
def shortB (l : List UInt8) : ByteArray := (sumS l).extract 0 8
theorem shortB_list (l : List UInt8) : (shortB l).data.toList = (sumL cb sq l).take 8 := by
 unfold shortB sumS
 simp [ByteArray.extract, ByteArray.copySlice]
theorem shortB_size (l : List UInt8) : (shortB l).size = 8 := by
 show (shortB l).data.size = 8
 rw [← Array.length_toList, shortB_list, List.length_take, show (sumL cb sq l).length = 32 from sumTo_length _ 8]
 rfl
theorem sx_list {o n : Nat} {w : World} : ∀ (vls : List (Value × List UInt8)), (∀ p ∈ vls, BSl 0 n w p.1 p.2 ∧ p.2.length ≤ o) → ∃ zs : List (SX o n w), zs.map (fun x => x.1) = vls
 | [], _ => ⟨[], rfl⟩
 | p :: vls, h => by
  obtain ⟨zs, hz⟩ := sx_list vls (fun q hq => h q (List.mem_cons_of_mem _ hq))
  exact ⟨⟨p, h p List.mem_cons_self⟩ :: zs, by rw [List.map_cons, hz]⟩
theorem flat_of {o n : Nat} {w : World} {zs : List (SX o n w)} {vls : List (Value × List UInt8)} (h : zs.map (fun x => x.1) = vls) : flat zs = (vls.map (·.2)).flatten := by
 rw [← h, List.map_map]; rfl
theorem short_of (W : World) (sv : Value) (vls : List (Value × List UInt8)) (hn : vls.length ≤ 1000000) (h : ∀ p ∈ vls, BSl 0 W.heap.size W p.1 p.2 ∧ p.2.length ≤ 140737488353000) (hfl : (vls.map (·.2)).flatten.length ≤ 140737488353000) (hsv : VSl 0 W.heap.size W sv (vls.map (·.1))) :
  Calls Tryz.prog 173 #[sv] W fun e W' => e = .returned (.string (shortB (vls.map (·.2)).flatten)) ∧ Below W.heap.size W W' := by
 obtain ⟨zs, hz⟩ := sx_list (o := 140737488353000) vls h
 have hl : zs.length = vls.length := by rw [← hz, List.length_map]
 have hf := flat_of hz
 have := short_any sv W zs (by omega) (by rw [hf]; exact hfl) (by
  obtain ⟨a, cap, e, _, h0⟩ := hsv
  refine ⟨a, cap, by rw [e, List.length_map, hl], ?_⟩
  rcases h0 with h0 | ⟨b, off, ha, _, hb, hr⟩
  ·
   left
   apply List.eq_nil_of_length_eq_zero
   rw [hl]
   simpa using congrArg List.length h0
  ·
   refine .inr ⟨b, off, ha, hb, fun k x hx => hr k _ ?_⟩
   rw [List.getElem?_map, ← hz, List.getElem?_map, hx]
   rfl)
 rw [hf] at this
 exact this
theorem short_one (W : World) (v : Value) (l : List UInt8) (h : BSl 0 W.heap.size W v l) (hl : l.length ≤ 140737488353000) :
  Calls Tryz.prog 173 #[.slice (some ⟨W.heap.size, 0, none⟩) 1 1] (W.alloc (.cells #[v] 95)) fun e W' => e = .returned (.string (shortB l)) ∧ Below W.heap.size W W' := by
 have hb : Below W.heap.size W (W.alloc (.cells #[v] 95)) := chain0 _ _
 have hs := short_of (W.alloc (.cells #[v] 95)) (.slice (some ⟨W.heap.size, 0, none⟩) 1 1) [(v, l)] (by simp) (fun p hp => by
  rw [List.mem_singleton] at hp
  subst hp
  exact ⟨(h.below hb (Nat.le_refl _)).mono (Nat.le_refl _) hb.size, hl⟩) (by simpa using hl) ⟨_, 1, rfl, Nat.le_refl _, .inr ⟨_, 0, rfl, Nat.zero_le _, by simp, fun k x hx => by
   have hk : k = 0 := by have := (List.getElem?_eq_some_iff.1 hx).1; simp at this; omega
   subst hk
   cases hx
   exact (Boxed.new W 95 v).cell⟩⟩
 refine hs.mono fun e W' ⟨he, hb2⟩ => ⟨?_, chain hb hb2⟩
 rw [he]
 simp
def linkB (s : ByteArray) : Nat → ByteArray
 | 0 => s
 | k + 1 => shortB (linkB s k).data.toList
theorem linkB_size (s : ByteArray) (k : Nat) : (linkB s k).size ≤ max s.size 8 := by
 cases k with
 | zero => exact Nat.le_max_left _ _
 | succ k => rw [show linkB s (k + 1) = shortB _ from rfl, shortB_size]; exact Nat.le_max_right _ _
end Go.Proofs.YthhmdgmmeedhdaaGreat
namespace Go.Proofs.YthhmdgmmeedhdaaGreat
open Go.RowKit Go.Shelf
theorem own_same {W W' : World} {base : Nat} {e : TypeId} {size k : Nat} {v : Value} {xs : List Value} (h : W.ownsRow base e size v k xs) (hk : ∀ g, v.ownBlock = some g → W'.heap[g]? = W.heap[g]?) : W'.ownsRow base e size v k xs := by
 obtain ⟨h1, h2⟩ := h
 refine ⟨h1, ?_⟩
 rcases h2 with h2 | ⟨g, cap, cur, rfl, hb, hh, r⟩
 ·
  exact .inl h2
 ·
  exact .inr ⟨g, cap, cur, rfl, hb, (hk g rfl).trans hh, r⟩
theorem own_below {W W' : World} {base : Nat} {e : TypeId} {size k : Nat} {v : Value} {xs : List Value} (h : W.ownsRow base e size v k xs) (hb : Below W.heap.size W W') : W'.ownsRow base e size v k xs :=
 own_same h fun g hg => hb.block g (World.ownsRow.lt h g hg).2
theorem own_turn {W W' : World} {row : Option Nat} {base : Nat} {e : TypeId} {size k : Nat} {v : Value} {xs : List Value} (h : W.ownsRow base e size v k xs) (hg : W.grownBy W' row) (hrow : ∀ r, row = some r → ∃ o : Obj, W.heap[r]? = some o ∧ o.isCells = false) : W'.ownsRow base e size v k xs :=
 own_same h fun g hgb => hg.block g (World.ownsRow.lt h g hgb).2 (fun e' => by
  obtain ⟨o, ho, hc⟩ := hrow g e'.symm
  obtain ⟨cur, fr, hcc⟩ := ownsRow_block h g hgb
  rw [hcc] at ho; cases ho; cases hc)
theorem own_base {W : World} {base base' : Nat} {e : TypeId} {size k : Nat} {v : Value} {xs : List Value} (h : W.ownsRow base e size v k xs) (hb : base' ≤ base) : W.ownsRow base' e size v k xs := by
 obtain ⟨h1, h2⟩ := h
 refine ⟨h1, ?_⟩
 rcases h2 with h2 | ⟨g, cap, cur, rfl, hg, r⟩
 ·
  exact .inl h2
 ·
  exact .inr ⟨g, cap, cur, rfl, Nat.le_trans hb hg, r⟩
end Go.Proofs.YthhmdgmmeedhdaaGreat
namespace Go.Proofs.YthhmdgmmeedhdaaGreat
open Go.RowKit Go.Shelf
attribute [local go_sem] Oper.semAt_some
theorem bsl_allBut {lo hi B l : Nat} {W W' : World} {sv : Value} {zs : List UInt8} (h : BSl lo hi W sv zs) (hk : AllBut B l W W') (hh : hi ≤ W.heap.size) (hB : B < lo ∨ hi ≤ B) (hl : l < lo ∨ hi ≤ l) : BSl lo hi W' sv zs := by
 obtain ⟨a, cap, e, hc, h0 | ⟨b, off, ha, h1, h2, ho⟩⟩ := h
 ·
  exact ⟨a, cap, e, hc, .inl h0⟩
 ·
  exact ⟨a, cap, e, hc, .inr ⟨b, off, ha, h1, h2, fun k x hx => (World.cell?_of_block (a := ⟨b, _, none⟩) (hk.2 b (by omega) (by omega) (by omega))).trans (ho k x hx)⟩⟩
theorem bsl_own {lo hi : Nat} {W W' : World} {row : Option Nat} {sv : Value} {zs : List UInt8} (h : BSl lo hi W sv zs) (hh : hi ≤ W.heap.size) (hg : W.grownBy W' row) (hr : ∀ r, row = some r → ∃ o : Obj, W.heap[r]? = some o ∧ o.isCells = false) : BSl lo hi W' sv zs := by
 obtain ⟨a, cap, e, hc, h0 | ⟨b, off, ha, h1, h2, ho⟩⟩ := h
 ·
  exact ⟨a, cap, e, hc, .inl h0⟩
 ·
  refine ⟨a, cap, e, hc, .inr ⟨b, off, ha, h1, h2, fun k x hx => ?_⟩⟩
  have hc := ho k x hx
  refine (World.cell?_of_block (a := ⟨b, _, none⟩) (hg.block b (by omega) (fun e => ?_))).trans hc
  obtain ⟨o, ho', hoc⟩ := hr b e.symm
  simp only [World.cell?, ho'] at hc
  cases o <;> first | (cases hoc; done) | (simp at hc)
def LinkAt (lo hi n : Nat) (W : World) (v : Value) (l : List UInt8) : Prop := BSl lo hi W v l ∨ BSl n W.heap.size W v l
theorem LinkAt.bsl {lo hi n : Nat} {W : World} {v : Value} {l : List UInt8} (h : LinkAt lo hi n W v l) (h1 : lo ≤ n) (h2 : hi ≤ W.heap.size) : BSl lo W.heap.size W v l := by
 rcases h with h | h
 ·
  exact h.mono (Nat.le_refl _) h2
 ·
  exact h.mono h1 (Nat.le_refl _)
theorem LinkAt.allBut {lo hi n B l : Nat} {W W' : World} {v : Value} {zs : List UInt8} (h : LinkAt lo hi n W v zs) (hk : AllBut B l W W') (h2 : hi ≤ W.heap.size) (hlo : lo ≤ n) (hB : B < lo) (hl : hi ≤ l) (hln : l < n) : LinkAt lo hi n W' v zs := by
 rcases h with h | h
 ·
  exact .inl (bsl_allBut h hk h2 (.inl hB) (.inr hl))
 ·
  exact .inr ((bsl_allBut h hk (Nat.le_refl _) (.inl (by omega)) (.inl hln)).mono (Nat.le_refl _) hk.1)
set_option maxRecDepth 100000 in
set_option maxHeartbeats 4000000 in
theorem chain1_rel (m : Nat) (hm : 1 ≤ m) (s : ByteArray) (hs : s.size ≤ 140737488353000) (N : Nat) (hN : N ≤ 3) (B Bl Bk : Nat) (lv : Value) (w : World) (hB : B < w.heap.size) (kl : Boxed w Bl 95 lv) (kk : Boxed w Bk 3 (.int .i64 (N : Nat))) (hl : BSl (B + 1) w.heap.size w lv s.data.toList) :
  SeqRel Fence.wide m Tryz.prog 183 #[.pointer (some ⟨Bl, 0, none⟩), .pointer (some ⟨Bk, 0, none⟩)] (N + 1) (fun k r W => ∃ y : Value, BSl (B + 1) W.heap.size W y (linkB s k).data.toList ∧ r = #[y]) (AllBut B) w := fun l J W hW hl0 hlW hJ hY h0 => by
 have hcl : Boxed W Bl 95 lv := (hW.block Bl kl.lt).trans kl
 have hck : Boxed W Bk 3 (.int .i64 (N : Nat)) := (hW.block Bk kk.lt).trans kk
 replace hl := hl.below hW (Nat.le_refl _)
 have h1 : 1 ≤ m := hm
 have cl := hcl.cell
 have ck := hck.cell
 have hwW := hW.size
 obtain ⟨la, lc, hle⟩ := bsl_slice hl
 subst hle
 refine callsIn_of_wp Tryz.func183 rfl trivial ?_ rfl
 simp only [Tryz.ntmps183, List.size_toArray, List.length_cons, List.length_nil, Nat.reduceAdd, Nat.reduceSub, Array.replicate_succ, Array.replicate_zero, List.push_toArray, List.append_toArray, List.nil_append, List.cons_append]
 have HL : LinkAt (B + 1) w.heap.size W.heap.size W (.slice la s.data.toList.length lc) (linkB s 0).data.toList := .inl hl
 clear hl
 generalize s.data.toList.length = sl at *
 gi_wp2
 clear cl ck
 gi_loopw [4, 7] (fun v i wr => ∃ k : Nat, k ≤ N ∧ i = .int .i64 (k : Nat) ∧ LinkAt (B + 1) w.heap.size W.heap.size wr v (linkB s k).data.toList ∧ J k wr ∧ W.heap.size ≤ wr.heap.size) (fun _ i _ => N - (intOf i).toNat)
 case atStart => exact ⟨0, by omega, rfl, HL, h0, Nat.le_refl _⟩
 clear HL h0 hcl hck
 case round =>
  obtain ⟨k, hk, rfl, hlk, hJk, hsz⟩ := hrel
  have hbs := hlk.bsl (by omega) (by omega)
  obtain ⟨va, vc, hve⟩ := bsl_slice hbs
  subst hve
  obtain ⟨fn, tmps, assign, body, hy, hR⟩ := hY k #[.slice va (linkB s k).data.toList.length vc] wr (by omega) ⟨_, hbs, rfl⟩ hJk
  have hLk : (linkB s k).data.toList.length ≤ 140737488353000 := by
   have := linkB_size s k
   rw [show (linkB s k).data.toList.length = (linkB s k).size from rfl]
   omega
  generalize hL : (linkB s k).data.toList.length = len at *
  have HLn := Lib.hid hL
  clear hL
  by_cases hlt : k < N
  ·
   have hlt' : (k : Int) < (N : Int) := by omega
   gi_wp2
   clear hy
   refine hR.mono ?_
   rintro e W3 ⟨rfl, hJ3, hk3⟩
   replace hlk := hlk.allBut hk3 (by omega) (by omega) (by omega) hl0 hlW
   have hsz3 := Nat.le_trans hsz hk3.1
   replace hbs := hlk.bsl (by omega) (by omega)
   gi_wp2_with fail
   refine ⟨trivial, ?_⟩
   refine (callsIn_wide.2 (short_one W3 _ _ (hbs.mono (Nat.zero_le _) (Nat.le_refl _)) (by rw [HLn.out]; exact hLk))).mono ?_
   rintro e W4 ⟨rfl, hb4⟩
   obtain ⟨c5, W5, hcv, hc5, hb5, hz5, ho5⟩ := conv_bytes W4 (shortB (linkB s k).data.toList)
   have hnew := conv_bsl hc5 hz5 ho5
   have hb35 : Below W3.heap.size W3 W5 := chain hb4 hb5
   have hJ5 := hJ (k + 1) W3 W5 none hJ3 (grown_of_below hb35) (by simp)
   have hsz5 := Nat.le_trans hsz3 hb35.size
   have hsz4 := Nat.le_trans hsz3 hb4.size
   have HN : LinkAt (B + 1) w.heap.size W.heap.size W5 (.slice (some ⟨W4.heap.size, 0, none⟩) (shortB (linkB s k).data.toList).size c5) (linkB s (k + 1)).data.toList := .inr (hnew.mono hsz4 (Nat.le_refl _))
   clear hbs hlk hc5 hz5 ho5 hnew
   generalize hq : (shortB (linkB s k).data.toList).size = q5 at *
   have HQ := Lib.hid hq
   clear hq
   gi_wp2_with fail
   go_roundw
   case rel => exact ⟨k + 1, by omega, by simp, HN, hJ5, hsz5⟩
   case measure => simp [intOf]; omega
  ·
   obtain rfl : k = N := by omega
   gi_wp2
   clear hy
   refine hR.mono ?_
   rintro e W3 ⟨rfl, hJ3, hk3⟩
   gi_wp2
   go_end0
   exact ⟨⟨_, rfl⟩, hJ3⟩
set_option maxHeartbeats 1000000 in
theorem chain_in (F : Fence) (m : Nat) (h : F.fn 182) (hro : F.round = none) (a : Option Addr) (len cap : Nat) (N : Int) (w : World) :
  CallsIn F m Tryz.prog 182 #[.slice a len cap, .int .i64 N] w fun e w' => e = .returned (.func (.func 183) #[] #[.pointer (some ⟨w.heap.size, 0, none⟩), .pointer (some ⟨w.heap.size + 1, 0, none⟩)]) ∧ w' = (w.alloc (.cells #[.slice a len cap] 95)).alloc (.cells #[.int .i64 N] 3) := by
 refine callsIn_of_wp Tryz.func182 rfl h ?_ hro
 simp only [Tryz.ntmps182, List.size_toArray, List.length_cons, List.length_nil, Nat.reduceAdd, Nat.reduceSub, Array.replicate_succ, Array.replicate_zero, List.push_toArray, List.append_toArray, List.nil_append, List.cons_append]
 gi_wp2
 go_ret
 exact ⟨rfl, rfl⟩
def stp (n : Int) : Nat := if n ≤ 0 then 0 else if 3 ≤ n then 3 else n.toNat
theorem stp_le (n : Int) : stp n ≤ 3 := by unfold stp; split <;> (try split) <;> omega
theorem stp_cases (z : Int) : (z < 0 ∧ (stp z : Int) = 0) ∨ (0 ≤ z ∧ z ≤ 3 ∧ (stp z : Int) = z) ∨ (3 < z ∧ (stp z : Int) = 3) := by
 unfold stp
 by_cases h1 : z < 0
 ·
  left; rw [if_pos (by omega)]; exact ⟨h1, rfl⟩
 ·
  by_cases h2 : z ≤ 3
  ·
   right; left
   refine ⟨by omega, h2, ?_⟩
   split <;> (try split) <;> omega
  ·
   right; right
   rw [if_neg (by omega), if_pos (by omega)]; exact ⟨by omega, rfl⟩
def WalkI (B : Nat) (s : ByteArray) (w : World) (k : Nat) (W : World) : Prop := (∃ v, Boxed W B 95 v ∧ (1 ≤ k → BSl (B + 1) W.heap.size W v (linkB s (k - 1)).data.toList)) ∧ Below w.heap.size w W
theorem walkI_own {B : Nat} {s : ByteArray} {w : World} {C : Nat} (hC : w.heap.size ≤ C) : OwnFrom C (WalkI B s w) :=
 OwnFrom.and (fun _ X Y row ⟨v, hv, hb⟩ hg hr => ⟨v, blk_own B 95 (fun _ : Unit => [v]) () X Y row hv hg (fun r e => (hr r e).2), fun hk => (bsl_own (hb hk) (Nat.le_refl _) hg (fun r e => (hr r e).2)).mono (Nat.le_refl _) hg.size⟩) (ownFrom_below (Nat.le_refl _) hC)
set_option maxRecDepth 100000 in
set_option maxHeartbeats 4000000 in
theorem links_in (m : Nat) (hm : 3 ≤ m) (s : ByteArray) (hs : s.size ≤ 140737488353000) (n : Int) (w : World) :
  CallsIn Fence.wide m Tryz.prog 175 #[.string s, .int .i64 n] w fun e W' => e = .returned (.string (linkB s (stp n))) ∧ Below w.heap.size w W' := by
 have h1 : 1 ≤ m := by omega
 refine callsIn_of_wp_marks Tryz.func175 rfl trivial ?_ rfl
 simp only [Tryz.ntmps175, List.size_toArray, List.length_cons, List.length_nil, Nat.reduceAdd, Nat.reduceSub, Array.replicate_succ, Array.replicate_zero, List.push_toArray, List.append_toArray, List.nil_append, List.cons_append]
 obtain ⟨c1, W1, hcv, hc1, hb1, hz1, ho1⟩ := conv_bytes (w.alloc (.cells #[.slice none 0 0] 95)) s
 have hb1' : Below w.heap.size w W1 := chain (chain0 _ _) hb1
 have hz1' : W1.heap.size = w.heap.size + 2 := by rw [hz1]; simp
 have hnew := conv_bsl hc1 hz1 ho1
 have kb : Boxed W1 w.heap.size 95 (.slice none 0 0) := (hb1.block w.heap.size (by simp)).trans (Boxed.new _ _ _)
 have hze : (w.alloc (.cells #[.slice none 0 0] 95)).heap.size = w.heap.size + 1 := by simp
 rw [hze] at hnew hcv
 have h3 := stp_le n
 have hCC := stp_cases n
 have HZ1 := Lib.hid hz1'
 clear hz1 hz1' ho1 hb1 hze
 generalize stp n = N at *
 rcases hCC with ⟨hc0, hC⟩ | ⟨hc0, hc8, hC⟩ | ⟨hc8, hC⟩
 all_goals
  have HC := Lib.hid hC
  clear hC
  gi_wp2_with (refine ⟨trivial, ?_⟩; gi_at_call 182; refine (chain_in Fence.wide (m - 1) trivial rfl _ _ _ _ _).mono ?_; rintro e w' ⟨rfl, rfl⟩)
  generalize hW5 : World.alloc _ _ = W5
  have k0 : Boxed W5 w.heap.size 95 (.slice none 0 0) := by rw [← hW5]; exact (kb.alloc _).alloc _
  have k1 : Boxed W5 W1.heap.size 95 (.slice (some ⟨w.heap.size + 1, 0, none⟩) s.size c1) := by rw [← hW5]; exact (Boxed.new _ _ _).alloc _
  have k2 : Boxed W5 (W1.heap.size + 1) 3 (.int .i64 (N : Nat)) := by rw [HC.out, ← hW5]; exact Blk.new' (vs := [.int .i64 _]) (by simp)
  have hB1 : Below W1.heap.size W1 W5 := by rw [← hW5]; exact chainA (chain0 _ _) _
  have hz : W5.heap.size = W1.heap.size + 2 := by rw [← hW5]; simp
  have hB0 : Below w.heap.size w W5 := chain hb1' hB1
  clear hW5
  refine wpIn_rangeFunc_relA (encs := fun y : Value => #[y]) (R := fun k y W => BSl (w.heap.size + 1) W.heap.size W y (linkB s k).data.toList) rfl h1 (gf := 183) (lb := #[.pointer (some ⟨W1.heap.size, 0, none⟩), .pointer (some ⟨W1.heap.size + 1, 0, none⟩)]) rfl trivial (enters_of Tryz.func183 (by kernel_rfl) rfl)
   (chain1_rel (m - 1) (by omega) s hs N h3 w.heap.size W1.heap.size (W1.heap.size + 1) _ W5 (by have := HZ1.out; omega) k1 k2 ((hnew.below hB1 (Nat.le_refl _)).mono (Nat.le_refl _) hB1.size)) AllBut.t (fun X o o' _ _ _ => AllBut.b _ _ X o') (fun X => AllBut.refl _ _ X) (Below.refl _ _) (fun _ => rfl)
   (WalkI w.heap.size s w) (walkI_own hB0.size) ⟨⟨_, k0, fun h => by omega⟩, hB0⟩ (fun k y _ X Y row h hg hr => (bsl_own h (Nat.le_refl _) hg (fun r e => (hr r e).2)).mono (Nat.le_refl _) hg.size) ?_ ?_ ?_ ?_
  rotate_left
  ·
   intro l k y W K _ hK
   gi_wp2
   exact hK
  ·
   rintro r k y W hlt ⟨⟨v, kv, _⟩, hB⟩ hy
   obtain ⟨ya, yc, hye⟩ := bsl_slice hy
   have ko := kv.cell
   have kf := kv.frozen
   subst hye
   generalize hL : (linkB s k).data.toList.length = len at *
   have HLn := Lib.hid hL
   clear hL
   gi_wp2
   have hA : AllBut w.heap.size (W5.heap.size + 1) W (W.setCell ⟨w.heap.size, 0, none⟩ (.slice ya len yc)) := AllBut.of_grown (grownBy_setCell' W w.heap.size _)
   refine ⟨(KeepsOthers.setCell _ _ _).from _, hA, ⟨_, kv.set _, fun _ => ?_⟩, hB.setCell (p := ⟨w.heap.size, 0, none⟩) (Nat.le_refl _) _⟩
   have := (hy.kept (Nat.le_refl _) (grownBy_setCell' W w.heap.size (.slice ya len yc)) (fun r e => by cases e; omega)).mono (Nat.le_refl _) hA.1
   exact this
  ·
   rintro D W hD ⟨⟨v, kv, hv⟩, hB⟩ hK
   replace hv := hv (by omega)
   rw [show N + 1 - 1 = N from rfl] at hv
   have ko := kv.cell
   have hcs := run_string (P := Tryz.prog) 95 5 9 Tryz.underlying95 Tryz.underlying5 Tryz.underlying9 W hv
   obtain ⟨va, vc, hve⟩ := bsl_slice hv
   subst hve
   generalize hL : (linkB s N).data.toList.length = len at *
   have HLn := Lib.hid hL
   have HZ := Lib.hid hz
   clear hL hz
   gi_wp2_with fail
   have hB' := hB.trans (belowK_b (w := w) (Nat.le_refl _) _ D _ (.deferred none) (by have := HZ.out; have := hb1'.size; omega) hK rfl rfl)
   refine ⟨by simp, .inl ⟨_, _, rfl, run_takeDeferred hK, ?_⟩⟩
   refine ⟨.string (linkB s N), ?_, ?_⟩
   ·
    simp [results, Tryz.f175, go_sem]
   ·
    exact ⟨rfl, hB'⟩
theorem walk_any (s : ByteArray) (hs : s.size ≤ 140737488353000) (n : Int) (w : World) :
  Calls Tryz.prog 175 #[.string s, .int .i64 n] w fun e W' => e = .returned (.string (linkB s (stp n))) ∧ Below w.heap.size w W' := callsIn_wide.1 (links_in 3 (by omega) s hs n w)
end Go.Proofs.YthhmdgmmeedhdaaGreat
