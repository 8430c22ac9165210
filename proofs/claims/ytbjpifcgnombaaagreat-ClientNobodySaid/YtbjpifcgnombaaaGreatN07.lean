/-
  hash.Pad: a text, the end's mark, zeros, its length in bits; The reference's Pad; The reference's Over and Sum; hash.blocks: a padded text block by block, each as its words; hash.mix: the state behind all rounds
-/
import Derived.OwnWalkIn
import Derived.IntWalk
import Derived.Outline
import Derived.StillTailTactics
import Derived.Deep.QuietTactic
import Derived.BigQuiet
import Derived.StillTactics
import Derived.Test.YtbjpifcgnombaaaGreatN06
namespace Go.Proofs.YtbjpifcgnombaaaGreat
open Go.RowKit Go.Shelf
def padL (l : List UInt8) : List UInt8 := l ++ [128] ++ List.replicate (63 - (l.length + 8) % 64) 0 ++ octs (two (l.length * 8 : Nat)) 8
theorem padL_length (l : List UInt8) : (padL l).length = l.length + 72 - (l.length + 8) % 64 := by
  unfold padL
  simp [octs_length]
  omega
theorem own_base4 {W : World} {base base' : Nat} {e : TypeId} {size k : Nat} {v : Value} {xs : List Value} (h : W.ownsRow base e size v k xs) (hb : base' ≤ base) : W.ownsRow base' e size v k xs := by
  obtain ⟨h1, h2⟩ := h
  refine ⟨h1, ?_⟩
  rcases h2 with h2 | ⟨g, cap, cur, rfl, hg, r⟩
  · exact .inl h2
  · exact .inr ⟨g, cap, cur, rfl, Nat.le_trans hb hg, r⟩
set_option maxRecDepth 100000 in
set_option maxHeartbeats 2000000 in
theorem pad_any (l : List UInt8) (sv : Value) (w : World) (hreach : l.length ≤ 140737488353000) (hsv : BSl 0 w.heap.size w sv l) :
    Calls Tryz.prog 165 #[sv] w (ByO (padL l) w) := by
  obtain ⟨i0, hi, hz0, hz1, hz2⟩ := info_parts Tryz.infoByte
  have hsv0 := hsv
  obtain ⟨a, cap, rfl, hcap, hcs⟩ := hsv
  clear hcs
  have hz : (63 : Int) - ((l.length : Int) + 8) % 64 = ((63 - (l.length + 8) % 64 : Nat) : Int) := by omega
  have h8 : (l.length : Int) * 8 = ((l.length * 8 : Nat) : Int) := by omega
  have hP : Hid (padL l = l ++ [128] ++ List.replicate (63 - (l.length + 8) % 64) 0 ++ octs (two (l.length * 8 : Nat)) 8) := Lib.hid rfl
  have hzn : 63 - (l.length + 8) % 64 ≤ 63 := by omega
  generalize hZ : 63 - (l.length + 8) % 64 = z at *
  generalize hE : l.length * 8 = e8 at *
  have he8 : (e8 : Int) ≤ 1125899906824000 := by omega
  have hl' : (l.length : Int) ≤ 140737488353000 := by omega
  clear hZ hE
  go_enter Tryz.func165, Tryz.ntmps165
  go_wp2_with fail
  clear hz h8
  refine (num_any e8 8 (by omega) (by omega) _).mono ?_
  rintro e w1 ⟨s4, rfl, hs4, hb1⟩
  rw [show clamp 8 = 8 from rfl] at hs4
  obtain ⟨a4, c4, rfl, hc4, _⟩ := id hs4
  generalize hO : octs (two e8) 8 = o8 at *
  have ho8 : o8.length = 8 := by rw [← hO]; exact octs_length _ _
  clear hO
  rw [ho8] at hs4
  have HO := Lib.hid ho8
  rw [ho8]
  clear ho8
  go_wp2_with (at_make; refine wpList_make_full _ rfl _ _ 80 rfl (w1.heap.size + 1) 5 i0 (.int .u8 0) 1 Tryz.underlying80 hi hz0 hz1 .i64 .i64 _ _ z rfl rfl rfl rfl (by rw [hz2]; omega) (by unfold maxLen; omega) (by simp) ?_; intro w2 hown hgrow)
  have hz1a : (w1.alloc (.cells #[.int .u8 128] 5)).heap.size = w1.heap.size + 1 := by simp
  have hB1 : Below (w1.heap.size + 1) (w1.alloc (.cells #[.int .u8 128] 5)) w2 := (Below.refl _ _).grown hgrow (by rw [hz1a]; exact Nat.le_refl _) (fun k e => by cases e)
  have hw2 : w1.heap.size + 1 ≤ w2.heap.size := by rw [← hz1a]; exact hB1.size
  have hw1 : w.heap.size ≤ w1.heap.size := hb1.size
  rw [hz1a] at hown
  have hown' : w2.ownsRow (w1.heap.size + 1) 5 1 (.slice (some ⟨w1.heap.size + 1, 0, none⟩) z z) (List.replicate z (0 : UInt8)).length ((List.replicate z (0 : UInt8)).map bv) := by
    have e : (madeCells (Value.int .u8 0).cells (z * 1)).toList = (List.replicate z (0 : UInt8)).map bv := by
      rw [Nat.mul_one]
      refine (toList_madeCells_one (.int .u8 0) z).trans ?_
      simp
    rw [← e, List.length_replicate]; exact hown
  clear hown
  have h8 : BSl 0 w2.heap.size w2 (.slice (some ⟨w1.heap.size, 0, none⟩) 1 1) [128] := ⟨_, 1, rfl, Nat.le_refl _, .inr ⟨_, 0, rfl, Nat.zero_le _, by omega, fun k x hx => by
    have hk : k = 0 := by have := (List.getElem?_eq_some_iff.1 hx).1; simp at this; omega
    subst hk
    have hc := (Blk.new' (t := 5) (vs := [.int .u8 128]) (rfl : w1.heap.size = w1.heap.size)).cell 0
    refine (hB1.cell (p := ⟨w1.heap.size, 0 + 0, none⟩) (by simp)).trans (hc.trans ?_)
    simp at hx
    subst hx
    rfl⟩⟩
  have hbs : Below w1.heap.size w1 w2 := (chain0 w1 (.cells #[.int .u8 128] 5)).trans (hB1.mono (by omega))
  have hbw : Below w.heap.size w w2 := chain hb1 hbs
  have hL0 := (hsv0.below hbw (Nat.le_refl _)).mono (Nat.le_refl _) hbw.size
  have hL4 := (hs4.below hbs (Nat.le_refl _)).mono (Nat.zero_le _) hbs.size
  have hLz := (BSl.of_own hown').mono (Nat.zero_le _) (Nat.le_refl _)
  generalize hW3 : World.alloc _ _ = W3
  have kB : Blk W3 w2.heap.size 80 [.slice a l.length cap, .slice (some ⟨w1.heap.size, 0, none⟩) 1 1, .slice (some ⟨w1.heap.size + 1, 0, none⟩) z z, .slice a4 8 c4] := by rw [← hW3]; exact Blk.new' rfl
  have hb3 : Below w2.heap.size w2 W3 := by rw [← hW3]; exact chain0 _ _
  clear hW3
  have hle3 := hb3.size
  have up : ∀ {sv : Value} {l : List UInt8}, BSl 0 w2.heap.size w2 sv l → BSl 0 W3.heap.size W3 sv l := fun h => (h.below hb3 (Nat.le_refl _)).mono (Nat.le_refl _) hle3
  have hHO := HO.out
  let zs : List (SX (l.length + 72) W3.heap.size W3) := [⟨(_, l), up hL0, by dsimp only; omega⟩, ⟨(_, [128]), up h8, by simp⟩, ⟨(_, List.replicate z 0), up hLz, by simp; omega⟩, ⟨(_, o8), up hL4, by dsimp only; omega⟩]
  have hfl : flat zs = l ++ [128] ++ List.replicate z 0 ++ o8 := by simp [zs, flat]
  refine (concat_any (.slice (some ⟨w2.heap.size, 0, none⟩) 4 4) W3 zs (by simp [zs]) (by rw [hfl]; simp [hHO]; omega) ⟨_, 4, rfl, .inr ⟨_, 0, rfl, kB.lt, fun k x hx => ?_⟩⟩).mono ?_
  · rw [Nat.zero_add, kB.cell k]
    have hk : k < 4 := (List.getElem?_eq_some_iff.1 hx).1
    have : k = 0 ∨ k = 1 ∨ k = 2 ∨ k = 3 := by omega
    rcases this with rfl | rfl | rfl | rfl <;> (cases hx; rfl)
  · rintro e w4 ⟨sv, rfl, hown4, hb4⟩
    rw [hfl, ← hP.out] at hown4
    go_wp2
    go_ret
    exact ⟨sv, rfl, own_base4 hown4 (by omega), (chain hbw hb3).trans (hb4.mono (by omega))⟩
end Go.Proofs.YtbjpifcgnombaaaGreat
namespace Go.Proofs.YtbjpifcgnombaaaGreat
open Go.RowKit Go.Shelf
def slLen : Value → Nat
  | .slice _ n _ => n
  | _ => 0
def midL (l : List UInt8) (j : Nat) : List UInt8 := l ++ [128] ++ List.replicate j 0
theorem midL_length (l : List UInt8) (j : Nat) : (midL l j).length = l.length + 1 + j := by simp [midL]; omega
theorem midL_succ (l : List UInt8) (j : Nat) : midL l (j + 1) = midL l j ++ [0] := by
  unfold midL; rw [List.replicate_succ', ← List.append_assoc]
theorem own_below4 {W W' : World} {base : Nat} {e : TypeId} {size k : Nat} {v : Value} {xs : List Value} (h : W.ownsRow base e size v k xs) (hb : Below W.heap.size W W') : W'.ownsRow base e size v k xs := by
  obtain ⟨h1, h2⟩ := h
  refine ⟨h1, ?_⟩
  rcases h2 with h2 | ⟨g, cap, cur, rfl, hg, hh, r⟩
  · exact .inl h2
  · exact .inr ⟨g, cap, cur, rfl, hg, (hb.block g (Array.getElem?_eq_some_iff.1 hh).1).trans hh, r⟩
set_option maxRecDepth 100000 in
set_option maxHeartbeats 2000000 in
theorem refPad_any (l : List UInt8) (sv : Value) (w : World) (hreach : l.length ≤ 140737488353000) (hsv : BSl 0 w.heap.size w sv l) :
    Calls Tryz.prog 317 #[sv] w (ByO (padL l) w) := by
  obtain ⟨i0, hi, hz0, hz1, hz2⟩ := info_parts Tryz.infoByte
  have hsv0 := hsv
  obtain ⟨a, cap, rfl, hcap, hcs⟩ := hsv
  clear hcs
  go_enter Tryz.func317, Tryz.ntmps317
  go_wp2_with fail
  have hb0 : Below w.heap.size w (w.alloc (.cells #[.int .u8 128] 5)) := chain0 _ _
  have hm : BSl 0 (w.alloc (.cells #[.int .u8 128] 5)).heap.size (w.alloc (.cells #[.int .u8 128] 5)) (.slice (some ⟨w.heap.size, 0, none⟩) 1 1) [128] := ⟨_, 1, rfl, Nat.le_refl _, .inr ⟨_, 0, rfl, Nat.zero_le _, by simp, fun k x hx => by
    have hk : k = 0 := by have := (List.getElem?_eq_some_iff.1 hx).1; simp at this; omega
    subst hk
    have hc := (Blk.new' (t := 5) (vs := [.int .u8 128]) (rfl : w.heap.size = w.heap.size)).cell 0
    refine hc.trans ?_
    simp at hx
    subst hx
    rfl⟩⟩
  refine (refCat_any l [128] _ _ _ (by simp; omega) ((hsv0.below hb0 (Nat.le_refl _)).mono (Nat.le_refl _) hb0.size) hm).mono ?_
  rintro e w1 ⟨v, rfl, hown, hb1⟩
  replace hb1 := chain hb0 hb1
  replace hown := own_base4 (base' := w.heap.size) hown (by simp)
  clear hm hb0
  go_wp2_with fail
  go_loopw [3] (fun v wr => ∃ j : Nat, j ≤ 63 - (l.length + 8) % 64 ∧ wr.ownsRow w.heap.size 5 1 v (l.length + 1 + j) ((midL l j).map bv) ∧ Below w.heap.size w wr) (fun v _ => l.length + 65 - slLen v)
  case atStart => exact ⟨0, by omega, by simpa [midL] using hown, hb1⟩
  clear hown hb1
  case round =>
    obtain ⟨j, hj, hown, hB⟩ := hrel
    obtain ⟨va, vc, rfl⟩ := ownsRow_slice hown
    have hNW : w.heap.size ≤ wr.heap.size := hB.size
    have HM := Lib.hid (midL_succ l j)
    generalize hn : l.length + 1 + j = n at *
    have hn63 : (n : Int) ≤ 9223372036854775807 := by omega
    by_cases hlt : j < 63 - (l.length + 8) % 64
    · have h56 : ¬ ((n : Int) % 64 = 56) := by omega
      have h56' : ((n : Int) % 64 == 56) = false := by simpa using h56
      have HN := Lib.hid hn
      clear hn
      go_wp2_with (at_builtin; refine wpList_append_own _ rfl _ _ 80 rfl w.heap.size 5 i0 (.int .u8 0) 1 1 Tryz.underlying80 hi hz0 hz1 hz2 rfl (by decide) _ n ((midL l j).map bv) rfl (hown.alloc _) ⟨wr.heap.size, 0, none⟩ 1 1 [bv 0] rfl rfl (cell_one_new _ _ _) (by simp [Value.oneCell']) (by unfold maxLen; have := HN.out; omega) (by have := HN.out; omega) (by simp; omega) ?_; intro v' w1 hown' hgrow _)
      have hbw : Below w.heap.size wr w1 := ((Below.refl w.heap.size wr).alloc hNW _).grown hgrow (by simp; omega) (fun k e => (World.ownsRow.lt hown k e).1)
      refine ⟨⟨j + 1, by omega, ?_, hB.trans hbw⟩, by have := HN.out; show l.length + 65 - slLen v' < l.length + 65 - n; obtain ⟨_, _, rfl⟩ := ownsRow_slice hown'; show l.length + 65 - (n + 1) < _; omega⟩
      rw [HM.out, List.map_append, show l.length + 1 + (j + 1) = n + 1 by have := HN.out; omega]
      exact hown'
    · obtain rfl : j = 63 - (l.length + 8) % 64 := by omega
      have h56 : (n : Int) % 64 = 56 := by omega
      have H56 := Lib.hid h56
      have h56' : ((n : Int) % 64 == 56) = true := by simpa using h56
      have HN := Lib.hid hn
      clear hn h56
      go_wp2_with fail
      refine (refNum_any (8 * (l.length : Int)) 8 (by omega) (by omega) _).mono ?_
      rintro e w2 ⟨s4, rfl, hs4, hb2⟩
      rw [show clamp 8 = 8 from rfl, show (8 * (l.length : Int)) = ((l.length * 8 : Nat) : Int) by omega] at hs4
      have hown2 := own_below4 hown hb2
      have hbs : BSl 0 w2.heap.size w2 (.slice va n vc) (midL l (63 - (l.length + 8) % 64)) := by
        have hq := hown2
        rw [show n = (midL l (63 - (l.length + 8) % 64)).length by rw [midL_length]; exact HN.out.symm] at hq ⊢
        exact (BSl.of_own hq).mono (Nat.zero_le _) (Nat.le_refl _)
      have hL4 := hs4.mono (Nat.zero_le _) (Nat.le_refl _)
      obtain ⟨a4, c4, rfl, _⟩ := hs4
      have hlen : (midL l (63 - (l.length + 8) % 64)).length + (octs (two ((l.length * 8 : Nat) : Int)) 8).length ≤ 140737488355328 := by
        rw [midL_length, octs_length]; omega
      go_wp2_with fail
      refine (refCat_any _ _ _ _ _ hlen hbs hL4).mono ?_
      rintro e w3 ⟨sv, rfl, hown3, hb3⟩
      go_wp2_with fail
      go_ret
      exact ⟨sv, rfl, own_base4 hown3 (Nat.le_trans hNW hb2.size), hB.trans ((hb2.mono hNW).trans (hb3.mono (Nat.le_trans hNW hb2.size)))⟩
end Go.Proofs.YtbjpifcgnombaaaGreat
namespace Go.Proofs.YtbjpifcgnombaaaGreat
open Go.RowKit Go.Shelf
def blk (p : List UInt8) (n : Nat) : List UInt8 := (p.drop (64 * n)).take 64
def sts (kk : Nat → Int) (p : List UInt8) (f : Nat → Int) : Nat → Nat → Int
  | 0 => f
  | n + 1 => mixed kk (sch (wd (blk p n)) 48) (sts kk p f n)
def sumTo (st : Nat → Int) : Nat → List UInt8
  | 0 => []
  | k + 1 => sumTo st k ++ octs (two (wrap64 (st k))) 4
theorem sumTo_length (st : Nat → Int) (k : Nat) : (sumTo st k).length = 4 * k := by
  induction k with
  | zero => rfl
  | succ k ih => simp [sumTo, ih, octs_length]; omega
def sumL (kk f : Nat → Int) (l : List UInt8) : List UInt8 := sumTo (sts kk (padL l) f ((padL l).length / 64)) 8
set_option maxRecDepth 100000 in
set_option maxHeartbeats 4000000 in
theorem refOver_any (l : List UInt8) (sv : Value) (f kk : Nat → Int) (w : World) (hreach : l.length ≤ 140737488353000) (hsv : BSl 0 w.heap.size w sv l) :
    Calls Tryz.prog 284 #[sv, uv f 8, uv kk 64] w (ByO (sumL kk f l) w) := by
  have hsv0 := hsv
  obtain ⟨a, cap, rfl, hcap, hcs⟩ := hsv
  clear hcs
  have hpl := padL_length l
  have hS : Hid (sumL kk f l = sumTo (sts kk (padL l) f ((padL l).length / 64)) 8) := Lib.hid rfl
  generalize hp : padL l = p at *
  have HP := Lib.hid hp
  clear hp
  go_enter Tryz.func284, Tryz.ntmps284
  go_wp2_with fail
  generalize hW0 : World.alloc _ _ = W0
  have kS : Blk W0 w.heap.size 242 (us f 8) := by rw [← hW0]; exact (Blk.new' rfl).alloc _
  have kK : Blk W0 (w.heap.size + 1) 249 (us kk 64) := by rw [← hW0]; exact Blk.new' (by simp)
  have d0 : Below w.heap.size w W0 := by rw [← hW0]; exact chainA (chain0 _ _) _
  have hz0 : W0.heap.size = w.heap.size + 2 := by rw [← hW0]; simp
  clear hW0
  refine (refPad_any l _ _ hreach ((hsv0.below d0 (Nat.le_refl _)).mono (Nat.le_refl _) d0.size)).mono ?_
  rintro e w1 ⟨pv, rfl, hown, hb1⟩
  rw [HP.out] at hown
  have hpb := BSl.of_own hown
  have hd1 := chain d0 hb1
  replace kS := kS.below hb1 kS.lt
  replace kK := kK.below hb1 kK.lt
  obtain ⟨pa, pc, rfl⟩ := ownsRow_slice hown
  obtain ⟨pa', pc', hpe, hpc, hp0⟩ := hpb
  cases hpe
  have hnz : p ≠ [] := fun e => by rw [e] at hpl; simp at hpl; omega
  obtain ⟨pb, po, rfl, hpl0, hpb, hpo⟩ := hp0.resolve_left hnz
  have hpw : w.heap.size < pb := by omega
  clear hz0 hpl0
  have hcm : pc ≤ maxLen := by
    rcases hown.2 with ⟨e, _⟩ | ⟨g, c, cur, e, _, _, _, hcm, _⟩
    · cases e
    · cases e; exact hcm
  unfold maxLen at hcm
  clear hown
  have hl64 : p.length = 64 * (p.length / 64) := by omega
  generalize hN : p.length / 64 = N at *
  clear hpl hN hnz hp0 d0 hb1
  generalize hq : p.length = q at *
  have HQ := Lib.hid hq
  clear hq
  have hq63 : (q : Int) ≤ 9223372036854775807 := by omega
  have HL64 := Lib.hid hl64
  clear hl64
  go_wp2_with fail
  go_loopw [8] (fun i wr => ∃ n : Nat, n ≤ N ∧ i = .int .i64 ((64 * n : Nat) : Int) ∧ Blk wr w.heap.size 242 (us (sts kk p f n) 8) ∧ Blk wr (w.heap.size + 1) 249 (us kk 64) ∧ Octs wr pb po p ∧ Below w.heap.size w wr ∧ pb < wr.heap.size) (fun i _ => 64 * N - (intOf i).toNat)
  case atStart => exact ⟨0, by omega, rfl, kS, kK, hpo, hd1, hpb⟩
  case round =>
    obtain ⟨n, hn, rfl, kS, kK, hpo, hB, hpb⟩ := hrel
    by_cases hlt : n < N
    · have hlen : (blk p n).length = 64 := by unfold blk; simp; have := HQ.out; have := HL64.out; omega
      have hob : Octs wr.drew pb (po + 64 * n) (blk p n) := sub_octs hpo (64 * n) 64
      have hE : ((64 * n : Nat) : Int) + 64 = ((64 * (n + 1) : Nat) : Int) := by omega
      have HE := Lib.hid hE
      clear hE
      have hi1 : ((64 * n : Nat) : Int) < (q : Int) := by have := HL64.out; omega
      have hst : Hid (sts kk p f (n + 1) = mixed kk (sch (wd (blk p n)) 48) (sts kk p f n)) := Lib.hid rfl
      generalize hI : 64 * n = i at *
      have hi2 : (i : Int) + 64 ≤ (pc : Int) := by have := HL64.out; omega
      have hne : ¬ pc = i := by have := HL64.out; omega
      have hi3 : (i : Int) ≤ (i : Int) + 64 := by omega
      have hi4 : (0 : Int) ≤ (i : Int) + 64 := by omega
      have li : IntKind.i64.wrap ((i : Int) + 64) = (i : Int) + 64 := by rw [IntKind.wrap_i64]; omega
      have HI := Lib.hid hI
      clear hI
      go_wp2_with fail
      refine wp_region_still_tail 7 (by kernel_rfl) (by kernel_rfl) ?_
      simp only [List.take_succ_cons, List.take_zero, List.drop_succ_cons, List.drop_zero]
      rw [show ({ heap := wr.heap, tape := wr.tape, drawn := wr.drawn + 1, os := wr.os, output := wr.output } : World) = wr.drew from rfl]
      replace kS : Blk wr.drew w.heap.size 242 (us (sts kk p f n) 8) := kS
      replace kK : Blk wr.drew (w.heap.size + 1) 249 (us kk 64) := kK
      replace hB : Below w.heap.size w wr.drew := hB.drew
      replace hpo : Octs wr.drew pb po p := hpo
      replace hpb : pb < wr.drew.heap.size := hpb
      generalize wr.drew = wq at *
      refine still_load arr8 rfl (.tmp 4) rfl w.heap.size rfl 242 (sts kk p f n) kS ?_
      refine still_load arr64 rfl (.tmp 5) rfl (w.heap.size + 1) rfl 249 kk kK ?_
      repeat still_step
      refine wpStill_nil ?_
      clear li
      go_wp2_with fail
      rw [show i + 64 - i = 64 by omega]
      refine (refBlock_any _ _ (blk p n) hlen pb (po + i) (pc - i) (by omega) (by omega) _ hpb hob).mono ?_
      rintro e w2 ⟨rfl, hb2⟩
      rw [← hst.out]
      have kS2 := kS.below hb2 kS.lt
      have kK2 := kK.below hb2 kK.lt
      have hpo2 := hpo.below hb2 hpb
      have hB2 := chain hB hb2
      go_wp2_with ((with_reducible refine arr_store arr8 rfl (.tmp 4) (.tmp 26) rfl w.heap.size rfl (sts kk p f (n + 1)) rfl 242 (sts kk p f n) kS2 ?_); intro w5 kS5 hg5)
      exact ⟨⟨n + 1, by omega, by rw [HE.out], kS5, kK2.kept hg5 (by simp), hpo2.kept (Nat.lt_of_lt_of_le hpb hb2.size) hg5 (fun e => by have := Option.some.inj e; omega), hB2.grown hg5 hB2.size (fun k e => by have : w.heap.size = k := Option.some.inj e; omega), Nat.lt_of_lt_of_le (Nat.lt_of_lt_of_le hpb hb2.size) hg5.size⟩, by simp [intOf]; have := HI.out; omega⟩
    · obtain rfl : n = N := by omega
      have hi1 : ¬ ((64 * n : Nat) : Int) < (q : Int) := by have := HL64.out; omega
      generalize hst : sts kk p f n = st at *
      have HST := Lib.hid hst
      clear hst hlt hn
      go_wp2_with fail
      go_loopw [9, 10] (fun v i wr => ∃ k : Nat, k ≤ 8 ∧ i = .int .i64 k ∧ wr.ownsRow w.heap.size 5 1 v (4 * k) ((sumTo st k).map bv) ∧ Blk wr w.heap.size 242 (us st 8) ∧ Below w.heap.size w wr) (fun _ i _ => 8 - (intOf i).toNat)
      case atStart => exact ⟨0, by omega, rfl, World.ownsRow_nil _ _ _ _, kS, hB⟩
      clear kS hB hpb hpo kK
      case round =>
        obtain ⟨k, hk, rfl, hown, kS, hB⟩ := hrel
        obtain ⟨va, vc, rfl⟩ := ownsRow_slice hown
        have hNW := hB.size
        by_cases hlt : k < 8
        · have cS := (kS.cell k).trans (us_at _ hlt)
          have hk0 : (k : Int) < 8 := by omega
          go_wp2_with fail
          refine (refNum_any _ 4 (by omega) (by omega) _).mono ?_
          rintro e w2 ⟨s4, rfl, hs4, hb2⟩
          rw [show clamp 4 = 4 from rfl] at hs4
          have hown2 := own_below4 hown hb2
          have hbs : BSl 0 w2.heap.size w2 (.slice va (4 * k) vc) (sumTo st k) := by
            have hq := hown2
            rw [← sumTo_length st k] at hq ⊢
            exact (BSl.of_own hq).mono (Nat.zero_le _) (Nat.le_refl _)
          have hL4 := hs4.mono (Nat.zero_le _) (Nat.le_refl _)
          obtain ⟨a4, c4, rfl, _⟩ := hs4
          go_wp2_with fail
          refine (refCat_any _ _ _ _ _ (by rw [sumTo_length, octs_length]; omega) hbs hL4).mono ?_
          rintro e w3 ⟨sv3, rfl, hown3, hb3⟩
          go_wp2_with fail
          have hown4 := own_base4 (base' := w.heap.size) hown3 (Nat.le_trans hNW hb2.size)
          change w3.ownsRow w.heap.size 5 1 sv3 (sumTo st (k + 1)).length ((sumTo st (k + 1)).map bv) at hown4
          rw [sumTo_length] at hown4
          have hb23 := chain hb2 hb3
          exact ⟨⟨k + 1, by omega, by simp, hown4, kS.below hb23 kS.lt, chain hB hb23⟩, by simp [intOf]; omega⟩
        · obtain rfl : k = 8 := by omega
          go_wp2_with fail
          go_ret
          exact ⟨_, rfl, by rw [hS.out, sumTo_length]; exact hown, hB⟩
end Go.Proofs.YtbjpifcgnombaaaGreat
namespace Go.Proofs.YtbjpifcgnombaaaGreat
open Go.RowKit Go.Shelf
attribute [local go_sem] Oper.semAt_some
theorem chunk_all (m : Nat) (hm : 1 ≤ m) (Bs Bn b off cap L s : Nat) (hL : L ≤ 140737488354000) (hcap : L ≤ cap) (hcap' : cap ≤ 9223372036854775807) (hs : 1 ≤ s) (hs' : s ≤ 9223372036854775807)
    (w : World) (k1 : Boxed w Bs 80 (.slice (some ⟨b, off, none⟩) L cap)) (k2 : Boxed w Bn 3 (.int .i64 (s : Nat))) :
    SeqAll Fence.wide m Tryz.prog 300 #[.pointer (some ⟨Bs, 0, none⟩), .pointer (some ⟨Bn, 0, none⟩)] (cpEnc b off) (fun _ => KeepB2 Bs Bn) (chs L s) w := fun l J W hW _ _ hJ hY h0 => by
  have q1 : Boxed W Bs 80 (.slice (some ⟨b, off, none⟩) L cap) := (hW.block Bs k1.lt).trans k1
  have q2 : Boxed W Bn 3 (.int .i64 (s : Nat)) := (hW.block Bn k2.lt).trans k2
  refine (chunk1_in Fence.wide m trivial rfl hm l Bs Bn b off cap L s hL hcap hcap' hs hs' J (fun _ _ => False) W (fun k X hX => hJ k X X.drew none hX ⟨rfl, rfl, rfl, Nat.le_refl _, fun _ _ _ => rfl⟩ (by simp)) (fun k W1 hj hk => (hY k (chn L s k) W1 (chs_at hk) hj).mono (fun e W' h => .inl h)) q1 q2 h0).mono ?_
  rintro e W' ⟨he, hj | ⟨_, _, h⟩⟩
  · exact ⟨he, by rw [chs_length]; exact hj⟩
  · exact h.elim
def blkWords (p : List UInt8) (N : Nat) : List (Nat → Int) := (List.range N).map fun n => wd (blk p n)
theorem blkWords_at (p : List UInt8) {N k : Nat} (h : k < N) : (blkWords p N)[k]? = some (wd (blk p k)) := by unfold blkWords; rw [List.getElem?_map, List.getElem?_range h]; rfl
set_option maxHeartbeats 1000000 in
theorem blocks_in (F : Fence) (m : Nat) (h5 : F.fn 164) (hro : F.round = none) (a : Option Addr) (len cap : Nat) (w : World) :
    CallsIn F m Tryz.prog 164 #[.slice a len cap] w fun e w' => e = .returned (.func (.func 239) #[] #[.pointer (some ⟨w.heap.size, 0, none⟩)]) ∧ w' = w.alloc (.cells #[.slice a len cap] 80) := by
  refine callsIn_of_wp Tryz.func164 rfl h5 ?_ hro
  simp only [Tryz.ntmps164, List.size_toArray, List.length_cons, List.length_nil, Nat.reduceAdd, Nat.reduceSub, Array.replicate_succ, Array.replicate_zero, List.push_toArray, List.append_toArray, List.nil_append, List.cons_append]
  gi_wp2
  go_ret
  exact ⟨rfl, rfl⟩
theorem us0_16 : us (fun _ => 0) 16 = [.int .u32 0, .int .u32 0, .int .u32 0, .int .u32 0, .int .u32 0, .int .u32 0, .int .u32 0, .int .u32 0, .int .u32 0, .int .u32 0, .int .u32 0, .int .u32 0, .int .u32 0, .int .u32 0, .int .u32 0, .int .u32 0] := rfl
set_option maxRecDepth 100000 in
set_option maxHeartbeats 8000000 in
theorem blocks1_all (m : Nat) (hm : 6 ≤ m) (B Bp pb po cap N : Nat) (p : List UInt8) (hp : p.length = 64 * N) (hN : 1 ≤ N) (hreach : p.length ≤ 140737488354000) (hcap : p.length ≤ cap) (hcap' : cap ≤ 9223372036854775807)
    (w : World) (hB : B < w.heap.size) (hpB : pb ≠ B) (hpb : pb < w.heap.size) (hpo : Octs w pb po p) (k1 : Boxed w Bp 80 (.slice (some ⟨pb, po, none⟩) p.length cap)) :
    SeqAll Fence.wide m Tryz.prog 239 #[.pointer (some ⟨Bp, 0, none⟩)] (fun f => #[uv f 16]) (AllBut B) (blkWords p N) w := fun l J W hW hl0 hl hJ hY h0 => by
  have kp : Boxed W Bp 80 (.slice (some ⟨pb, po, none⟩) p.length cap) := (hW.block Bp k1.lt).trans k1
  replace hpo := hpo.below hW hpb
  have hWs := hW.size
  have hpc := kp.cell
  have h1 : 1 ≤ m := by omega
  generalize hq : p.length = q at *
  have HQ := Lib.hid hq
  have HP := Lib.hid hp
  clear hq hp
  have hBpl := kp.lt
  refine callsIn_of_wp_marks Tryz.func239 rfl trivial ?_ rfl
  simp only [Tryz.ntmps239, List.size_toArray, List.length_cons, List.length_nil, Nat.reduceAdd, Nat.reduceSub, Array.replicate_succ, Array.replicate_zero, List.push_toArray, List.append_toArray, List.nil_append, List.cons_append]
  gi_wp2_with (refine ⟨trivial, ?_⟩; gi_at_call 240; refine (chunk_in Fence.wide (m - 1) trivial rfl _ _ _ _ (by omega) _).mono ?_; rintro e w' ⟨rfl, rfl⟩)
  generalize hW5 : World.alloc _ _ = W5
  have kY : Boxed W5 W.heap.size 325 (.func (.yield l) #[] #[]) := by rw [← hW5]; exact ((Boxed.new _ _ _).alloc _).alloc _
  have c1 : Boxed W5 (W.heap.size + 1) 80 (.slice (some ⟨pb, po, none⟩) q cap) := by rw [← hW5]; exact (Blk.new' (vs := [_]) (by simp)).alloc _
  have c2 : Boxed W5 (W.heap.size + 1 + 1) 3 (.int .i64 ((64 : Nat) : Int)) := by rw [← hW5]; exact Blk.new' (vs := [.int .i64 64]) (by simp)
  have hB5 : Below W.heap.size W W5 := by rw [← hW5]; exact chainA (chainA (chain0 _ _) _) _
  have hz5 : W5.heap.size = W.heap.size + 3 := by rw [← hW5]; simp
  clear hW5
  have hpbW : pb < W.heap.size := Nat.lt_of_lt_of_le hpb hWs
  have hq64 : chc q 64 = N := by unfold chc; have := HP.out; omega
  obtain ⟨cur, ct, cfr, hcells⟩ : ∃ cur ct cfr, W.heap[pb]? = some (.cells cur ct cfr) := by
    obtain ⟨x, hx⟩ : ∃ x, p[0]? = some x := ⟨_, List.getElem?_eq_getElem (by have := HQ.out; have := HP.out; omega)⟩
    have hc := hpo 0 x hx
    simp only [World.cell?] at hc
    cases hh : W.heap[pb]? with
    | none => rw [hh] at hc; simp at hc
    | some o =>
      rw [hh] at hc
      cases o <;> first | exact ⟨_, _, _, rfl⟩ | (simp at hc)
  refine wpIn_rangeFunc_allA (ys := chs q 64) rfl h1 (gf := 300) (lb := #[.pointer (some ⟨W.heap.size + 1, 0, none⟩), .pointer (some ⟨W.heap.size + 1 + 1, 0, none⟩)]) rfl trivial (enters_of Tryz.func300 (by kernel_rfl) rfl)
    (chunk_all (m - 1) (by omega) (W.heap.size + 1) (W.heap.size + 1 + 1) pb po cap q 64 (by omega) hcap hcap' (by omega) (by omega) W5 c1 c2) KeepB2.t (fun X o o' h2 h3 h4 => ⟨World.putObj_heap_other (by omega), World.putObj_heap_other (by omega)⟩) (fun X => ⟨rfl, rfl⟩) (Below.refl _ _) (fun _ => rfl)
    (fun k X => (J k X ∧ KeepB pb W X) ∧ (Boxed X W.heap.size 325 (.func (.yield l) #[] #[]) ∧ Boxed X (W.heap.size + 1) 80 (.slice (some ⟨pb, po, none⟩) q cap) ∧ Boxed X (W.heap.size + 1 + 1) 3 (.int .i64 ((64 : Nat) : Int))) ∧ W5.heap.size ≤ X.heap.size)
    (fun k X Y row ⟨⟨hj, hk⟩, ⟨hy, hc1, hc2⟩, hsz⟩ hg hr => ⟨⟨hJ k X Y row hj hg (fun r e => ⟨by have := (hr r e).1; omega, (hr r e).2⟩), (hg.block pb (by omega) (fun e => by have := (hr _ e.symm).1; omega)).trans hk⟩, ⟨boxed_own _ _ (fun _ : Unit => _) () X Y row hy hg (fun r e => (hr r e).2), boxed_own _ _ (fun _ : Unit => _) () X Y row hc1 hg (fun r e => (hr r e).2), boxed_own _ _ (fun _ : Unit => _) () X Y row hc2 hg (fun r e => (hr r e).2)⟩, Nat.le_trans hsz hg.size⟩)
    ⟨⟨hJ 0 W W5 none h0 (grown_of_below hB5) (by simp), hB5.block pb hpbW⟩, ⟨kY, c1, c2⟩, Nat.le_refl _⟩ ?_ ?_ ?_ ?_
  rotate_left
  · intro l' x X K hK
    gi_wp2
    exact hK
  · rintro l' k x X hx ⟨⟨hj, hkp⟩, ⟨hy, hc1, hc2⟩, hsz⟩
    have hk : k < N := by have := (List.getElem?_eq_some_iff.1 hx).1; rw [chs_length, hq64] at this; exact this
    rw [chs_at (by rw [hq64]; exact hk)] at hx
    obtain rfl := (Option.some.inj hx).symm
    have hlp : 64 * k + 64 ≤ p.length := by rw [HQ.out, HP.out]; omega
    have hchn : chn q 64 k = ⟨(64 * k, 64), by rw [← HQ.out]; exact hlp⟩ := by
      rw [chn_of (by rw [HP.out]; omega)]
      apply Subtype.ext
      show (k * 64, min 64 (q - k * 64)) = _
      rw [Nat.mul_comm k 64, Nat.min_eq_left (by rw [HP.out]; omega)]
    rw [hchn]
    have hoX : Octs X pb (po + 64 * k) (blk p k) := sub_octs (fun j z hz => (World.cell?_of_block (a := ⟨pb, _, none⟩) hkp).trans (hpo j z hz)) (64 * k) 64
    have hlb : (blk p k).length = 64 := by unfold blk; simp; omega
    have hpX : pb < X.heap.size := by omega
    clear hchn
    gi_wp2_with fail
    gi_loopw [9] (fun i wr => ∃ t : Nat, t ≤ 16 ∧ i = .int .i64 t ∧ Blk wr X.heap.size 247 (us (fun j => if j < t then wd (blk p k) j else 0) 16) ∧ Below X.heap.size X wr) (fun i _ => 16 - (intOf i).toNat)
    case atStart => exact ⟨0, by omega, rfl, by rw [us_congr (g := fun _ => 0) (fun t _ => if_neg (by omega)), us0_16]; exact Blk.new' rfl, chain0 _ _⟩
    case round =>
      obtain ⟨t, ht, rfl, kA, hbel⟩ := hrel
      by_cases hlt : t < 16
      · have cA := (kA.cell t).trans (us_at _ hlt)
        have fA := kA.frozen t
        have i1 : (t : Int) < 16 := by omega
        have i2 : (0 : Int) ≤ (t : Int) * 4 := by omega
        have i3 : (t : Int) * 4 ≤ 64 := by omega
        have i4 : ¬ 64 = t * 4 := by omega
        have n1 : ((t : Int) * 4).toNat = t * 4 := by omega
        gi_wp2_with fail
        rw [Nat.mul_comm t 4]
        have hpw : pb < wr.heap.size := Nat.lt_of_lt_of_le hpX hbel.size
        have hbsl := sub_bsl (hoX.below hbel hpX) hpw (4 * t) 4 (by rw [hlb]; omega) (show 4 ≤ 64 - 4 * t by omega)
        refine ⟨trivial, fun h => (by cases h), ?_⟩
        refine (CallsIn.inRound l' (callsIn_wide.2 (blobInt_any (((blk p k).drop (4 * t)).take 4) _ wr (by simp; omega) hbsl))).mono ?_
        rintro e w2 ⟨rfl, hb2⟩
        obtain ⟨hw, hw0, hw1⟩ := wd_be (l := blk p k) t
        rw [hw]
        have kA2 := kA.below hb2 kA.lt
        have hX2 : Below X.heap.size X w2 := chain hbel hb2
        have cA2 := (kA2.cell t).trans (us_at _ hlt)
        have fA2 := kA2.frozen t
        have HU : Hid (us (updI (fun j => if j < t then wd (blk p k) j else 0) t (wd (blk p k) t)) 16 = us (fun j => if j < t + 1 then wd (blk p k) j else 0) 16) := Lib.hid (us_congr fun j _ => by
          unfold updI
          by_cases e1 : j = t
          · subst e1; rw [if_pos rfl, if_pos (by omega)]
          · rw [if_neg e1]
            show (if j < t then wd (blk p k) j else 0) = _
            by_cases e2 : j < t
            · rw [if_pos e2, if_pos (by omega)]
            · rw [if_neg e2, if_neg (by omega)])
        clear hw cA fA i2 i3 i4 n1
        generalize hx : wd (blk p k) t = x at *
        gi_wp2_with fail
        have kA' := kA2.set t (.int .u32 x)
        rw [us_set, HU.out] at kA'
        go_roundw
        case rel => exact ⟨t + 1, by omega, by simp, kA', hX2.setCell (p := ⟨X.heap.size, _, none⟩) (by simp) _⟩
        case measure => simp [intOf]; omega
      · obtain rfl : t = 16 := by omega
        rw [us_congr (g := wd (blk p k)) (fun j hj => if_pos hj)] at kA
        obtain ⟨fn, tmps, assign, body, hyr, hR⟩ := hY k (wd (blk p k)) wr (blkWords_at p hk) (hJ k X wr none hj (grown_of_below hbel) (by simp))
        have hyc : wr.cell? ⟨W.heap.size, 0, none⟩ = some (.func (.yield l) #[] #[]) := (hbel.cell (p := ⟨W.heap.size, 0, none⟩) hy.lt).trans hy.cell
        gi_wp2_with (with_reducible refine arrIn_load arr16 rfl (.tmp 4) rfl X.heap.size rfl 247 (wd (blk p k)) kA ?_)
        refine ⟨fun h => (by cases h), ?_⟩
        refine (roundIn_any hR).mono ?_
        rintro e W3 ⟨rfl, hJ3, hk3⟩
        clear hyr
        gi_wp2_with fail
        have hXW : AllBut B l X W3 := (AllBut.of_below hbel).t hk3
        have ly := hy.lt
        have l1 := hc1.lt
        have l2 := hc2.lt
        refine ⟨⟨hXW.1, fun j o hBj hj ho => (hXW.2 j (Array.getElem?_eq_some_iff.1 hj).1 (by omega) (by omega)).trans hj⟩, ⟨hXW.2 _ l1 (by omega) (by omega), hXW.2 _ l2 (by omega) (by omega)⟩, ⟨hJ3, (hXW.2 pb hpX hpB (by omega)).trans hkp⟩, ⟨(hXW.2 _ ly (by omega) (by omega)).trans hy, (hXW.2 _ l1 (by omega) (by omega)).trans hc1, (hXW.2 _ l2 (by omega) (by omega)).trans hc2⟩, Nat.le_trans hsz hXW.1⟩
  · rintro D X hD ⟨⟨hj, _⟩, _, _⟩ hK
    rw [chs_length, hq64] at hj
    gi_wp2_with fail
    refine ⟨by simp, .inl ⟨_, _, rfl, run_takeDeferred hK, ?_⟩⟩
    refine ⟨_, results_none rfl _ _ _, ⟨_, rfl⟩, ?_⟩
    rw [show (blkWords p N).length = N by simp [blkWords]]
    exact hJ.putObj _ hj (by omega) hK rfl
end Go.Proofs.YtbjpifcgnombaaaGreat
namespace Go.Proofs.YtbjpifcgnombaaaGreat
open Go.RowKit
set_option maxRecDepth 100000 in
set_option maxHeartbeats 8000000 in
theorem mix_any (f m : Nat → Int) (w : World) : Calls Tryz.prog 166 #[uv f 8, uv m 64] w fun e W' => e = .returned (uv (mixed cb m f) 8) ∧ Below w.heap.size w W' := by
  go_enter Tryz.func166, Tryz.ntmps166
  go_wp2
  generalize hW0 : World.alloc _ _ = W0
  have kS : Blk W0 w.heap.size 242 (us f 8) := by rw [← hW0]; exact ((Blk.new' rfl).alloc _).alloc _
  have kM : Blk W0 (w.heap.size + 1) 249 (us m 64) := by rw [← hW0]; exact (Blk.new' (by simp)).alloc _
  have kR : Blk W0 (w.heap.size + 1 + 1) 242 (us (fun _ => 0) 8) := by rw [← hW0, us0_8]; exact Blk.new' (by simp)
  have d0 : Below w.heap.size w W0 := by rw [← hW0]; exact chainA (chainA (chain0 _ _) _) _
  clear hW0
  have q0 := (kS.cell 0).trans (us_at _ (by omega))
  have q1 := (kS.cell 1).trans (us_at _ (by omega))
  have q2 := (kS.cell 2).trans (us_at _ (by omega))
  have q3 := (kS.cell 3).trans (us_at _ (by omega))
  have q4 := (kS.cell 4).trans (us_at _ (by omega))
  have q5 := (kS.cell 5).trans (us_at _ (by omega))
  have q6 := (kS.cell 6).trans (us_at _ (by omega))
  have q7 := (kS.cell 7).trans (us_at _ (by omega))
  go_quiet (fail)
  go_wp2
  go_quiet (fail)
  go_wp2_with (go_at_call 243; refine (cubeRoots_any _).mono ?_; rintro e w1 ⟨rfl, hb1⟩)
  replace hb1 : Below W0.heap.size W0 w1 := (below_drewN W0 _).trans hb1
  have d1 : Below w.heap.size w w1 := chain d0 hb1
  have kS1 : Blk w1 w.heap.size 242 (us f 8) := Blk.below (n := W0.heap.size) kS hb1 kS.lt
  have kM1 : Blk w1 (w.heap.size + 1) 249 (us m 64) := Blk.below (n := W0.heap.size) kM hb1 kM.lt
  have kR1 : Blk w1 (w.heap.size + 1 + 1) 242 (us (fun _ => 0) 8) := Blk.below (n := W0.heap.size) kR hb1 kR.lt
  clear kS kM kR q0 q1 q2 q3 q4 q5 q6 q7 hb1 d0
  go_loopw [5, 6, 7, 8, 9, 10, 11, 12, 36] (fun a b c d e f' g h i wr => ∃ (k : Nat) (s : S8), k ≤ 64 ∧ Hid (s = rds cb m (s8 f) k) ∧ i = .int .i64 k ∧ a = .int .u32 s.a ∧ b = .int .u32 s.b ∧ c = .int .u32 s.c ∧ d = .int .u32 s.d ∧ e = .int .u32 s.e ∧ f' = .int .u32 s.f ∧ g = .int .u32 s.g ∧ h = .int .u32 s.h ∧
    Blk wr w.heap.size 242 (us f 8) ∧ Blk wr (w.heap.size + 1) 249 (us m 64) ∧ Blk wr (w.heap.size + 1 + 1) 242 (us (fun _ => 0) 8) ∧ Below w.heap.size w wr) (fun _ _ _ _ _ _ _ _ i _ => 64 - (intOf i).toNat)
  case atStart => exact ⟨0, s8 f, by omega, Lib.hid rfl, rfl, rfl, rfl, rfl, rfl, rfl, rfl, rfl, rfl, kS1, kM1, kR1, d1⟩
  clear kS1 kM1 kR1 d1
  case round =>
    obtain ⟨k, ⟨a, b, c, d, e, f', g, h⟩, hk, HS, rfl, rfl, rfl, rfl, rfl, rfl, rfl, rfl, rfl, kS, kM, kR, hB⟩ := hrel
    dsimp only
    by_cases hlt : k < 64
    · have hix := run_index_us 249 64 und64 cb k hlt
      have cM := (kM.cell k).trans (us_at _ hlt)
      have hk0 : (k : Int) < 64 := by omega
      go_wp2_with fail
      have L3 : (0 : Int) ≤ (k : Int) := by omega
      have hsg : (if IntKind.u32.signed = true then (-1 : Int) else IntKind.u32.max) = 4294967295 := by decide
      refine wp_region_still_lit (by kernel_rfl) (by kernel_rfl) ?_
      repeat still_step
      still_call (rotr_still _ _ 6 t6 rfl _)
      repeat still_step
      still_call (rotr_still _ _ 11 t11 rfl _)
      repeat still_step
      still_call (rotr_still _ _ 25 t25 rfl _)
      repeat still_step
      refine wpStill_nil ?_
      generalize hx1 : IntKind.u32.wrap (IntKind.u32.wrap (IntKind.u32.wrap (IntKind.u32.wrap (h + _) + _) + cb k) + m k) = x1
      have HX1 : Hid (tmp1 ⟨a, b, c, d, e, f', g, h⟩ (cb k) (m k) = x1) := Lib.hid (by
        rw [← hx1]; simp only [tmp1, bs1, chs3, IntKind.wrap_u32, Int.emod_add_emod])
      clear hx1
      replace kS : Blk wr.drew w.heap.size 242 (us f 8) := kS
      replace kM : Blk wr.drew (w.heap.size + 1) 249 (us m 64) := kM
      replace kR : Blk wr.drew (w.heap.size + 1 + 1) 242 (us (fun _ => 0) 8) := kR
      replace hB : Below w.heap.size w wr.drew := hB.drew
      change Exit.then _ _ _ _ wr.drew
      generalize wr.drew = wq at *
      clear cM hix hsg
      go_wp2_with fail
      refine (rotr_still _ _ 2 t2 rfl _).mono ?_
      rintro e' w' ⟨rfl, rfl⟩
      go_wp2_with fail
      refine (rotr_still _ _ 13 t13 rfl _).mono ?_
      rintro e' w' ⟨rfl, rfl⟩
      go_wp2_with fail
      refine (rotr_still _ _ 22 t22 rfl _).mono ?_
      rintro e' w' ⟨rfl, rfl⟩
      go_wp2_with fail
      exact ⟨⟨k + 1, rnd ⟨a, b, c, d, e, f', g, h⟩ (cb k) (m k), by omega, Lib.hid (by rw [HS.out]; rfl), by simp, by rw [← HX1.out]; rfl, rfl, rfl, rfl, by rw [← HX1.out]; rfl, rfl, rfl, rfl, kS, kM, kR, hB⟩, by simp [intOf]; omega⟩
    · obtain rfl : k = 64 := by omega
      clear hk hlt
      go_wp2
      go_loopw [107] (fun i wr => ∃ k : Nat, k ≤ 8 ∧ i = .int .i64 k ∧ Blk wr w.heap.size 242 (us (fun t => if t < k then mixed cb m f t else f t) 8) ∧ Blk wr (w.heap.size + 1 + 1) 242 (us (fun _ => 0) 8) ∧ Below w.heap.size w wr) (fun i _ => 8 - (intOf i).toNat)
      case atStart => exact ⟨0, by omega, rfl, kS, kR, hB⟩
      case round =>
        obtain ⟨k, hk, rfl, kS, kR, hB⟩ := hrel
        by_cases hlt : k < 8
        · have hix : ∀ w, (Instr.index 242 (.agg #[.int .u32 a, .int .u32 b, .int .u32 c, .int .u32 d, .int .u32 e, .int .u32 f', .int .u32 g, .int .u32 h]) (.int .i64 (k : Int))).run Tryz.prog w = .ok (.int .u32 (S8.at ⟨a, b, c, d, e, f', g, h⟩ k)) w := run_index_us 242 8 und8 (S8.at ⟨a, b, c, d, e, f', g, h⟩) k hlt
          have cS := (kS.cell k).trans (us_at _ hlt)
          rw [if_neg (by omega)] at cS
          have hf := kS.frozen k
          have hk0 : (k : Int) < 8 := by omega
          have HM : Hid (mixed cb m f k = (f k + S8.at ⟨a, b, c, d, e, f', g, h⟩ k) % 4294967296) := Lib.hid (by unfold mixed; rw [← HS.out])
          generalize S8.at ⟨a, b, c, d, e, f', g, h⟩ k = z at *
          go_wp2_with fail
          rw [← HM.out]
          have kS' := kS.set k (.int .u32 (mixed cb m f k))
          rw [us_set, us_congr (g := fun t => if t < k + 1 then mixed cb m f t else f t) (fun t ht => by
            unfold updI
            by_cases e1 : t = k
            · subst e1; rw [if_pos rfl, if_pos (by omega)]
            · rw [if_neg e1]
              show (if t < k then mixed cb m f t else f t) = _
              by_cases e2 : t < k
              · rw [if_pos e2, if_pos (by omega)]
              · rw [if_neg e2, if_neg (by omega)])] at kS'
          exact ⟨⟨k + 1, by omega, by simp, kS', kR.other _ _ (by omega), hB.setCell (p := ⟨w.heap.size, _, none⟩) (by simp) _⟩, by simp [intOf]; omega⟩
        · obtain rfl : k = 8 := by omega
          rw [us_congr (g := mixed cb m f) (fun t ht => if_pos ht)] at kS
          go_wp2_with (first | (with_reducible refine arr_load arr8 rfl (.tmp 2) rfl w.heap.size rfl 242 (mixed cb m f) kS ?_) | (with_reducible refine arr_store arr8 rfl (.tmp 4) (.tmp 118) rfl (w.heap.size + 1 + 1) rfl (mixed cb m f) rfl 242 (fun _ => 0) kR ?_; intro w5 kR5 hg5))
          exact bodyPost_ret (v := uv (mixed cb m f) 8) (arr_result arr8 rfl _ _ (w.heap.size + 1 + 1) 242 (mixed cb m f) rfl kR5) rfl ⟨rfl, hB.grown hg5 hB.size (fun k e => by have : w.heap.size + 1 + 1 = k := Option.some.inj e; omega)⟩
end Go.Proofs.YtbjpifcgnombaaaGreat
