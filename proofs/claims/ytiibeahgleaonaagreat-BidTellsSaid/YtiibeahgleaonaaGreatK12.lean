/-
  mss.Verify.
  The reference's rows, root, path.
  The reference's Verify.
  slices.Grow of the nil slice of strings; slices.Concat of two rows of strings.
  A leaf's signature; the reference's Sig.
  What is signed is verified: the plain side.
  What Verify tells, and the reference's, as one plain function.
-/
import Derived.Outline
import Derived.Lib.AppendZeros
import Derived.Test.YtiibeahgleaonaaGreatK11
namespace Go.Proofs.YtiibeahgleaonaaGreat
open Go.RowKit Go.Shelf

/-- The first octet. -/
def leafN (g : ByteArray) : Nat := if h : 0 < g.size then g[0].toNat else 0
theorem leafN_le (g : ByteArray) : leafN g ≤ 255 := by
  unfold leafN
  split
  · have := g[0].toNat_lt
    omega
  · omega
theorem leafI_of {g : ByteArray} (h : 0 < g.size) : leafI g = (leafN g : Int) := by unfold leafI leafN; rw [dif_pos h, dif_pos h]
/-- What stands behind the leaf. -/
def cutL (g : ByteArray) : List ByteArray := upto (pieceB g) 18
theorem cutL_length (g : ByteArray) : (cutL g).length = 18 := upto_length _ _
theorem cutL_size {g : ByteArray} (hg : g.size = 145) {x : ByteArray} (h : x ∈ cutL g) : x.size = 8 := by
  unfold cutL upto at h
  obtain ⟨j, hj, rfl⟩ := List.mem_map.1 h
  have := List.mem_range.1 hj
  exact pieceB_size (by omega)
/-- The root that a signature leads to. -/
def topB (l : List UInt8) (g : ByteArray) : ByteArray := climbB (leafN g) ((cutL g).drop 15) (openB l ((cutL g).take 15)) 3

theorem openB_size (l : List UInt8) (zs : List ByteArray) : (openB l zs).size ≤ 8 := by
  unfold openB
  split
  · exact Nat.le_of_eq (shortB_size _)
  · exact Nat.zero_le _
/-- A part of a row of strings. -/
theorem partV {W : World} {g : Nat} {zs : List ByteArray} (i m c : Nat) (h : i + m ≤ zs.length) (hc : m ≤ c) (hg : g < W.heap.size) (hx : ∀ k x, zs[k]? = some x → W.cell? ⟨g, k, none⟩ = some (.string x)) :
    VSl 0 W.heap.size W (.slice (some ⟨g, i, none⟩) m c) (((zs.drop i).take m).map tv) := by
  have hl : (((zs.drop i).take m).map tv).length = m := by rw [List.length_map, List.length_take, List.length_drop]; omega
  refine ⟨_, c, by rw [hl], by rw [hl]; exact hc, .inr ⟨g, i, rfl, Nat.zero_le _, hg, fun k x hk => ?_⟩⟩
  rw [List.getElem?_map] at hk
  obtain ⟨y, hy, rfl⟩ := Option.map_eq_some_iff.1 hk
  have hkm : k < m := by
    have := (List.getElem?_eq_some_iff.1 hy).1
    rw [List.length_take] at this
    omega
  rw [List.getElem?_take_of_lt hkm, List.getElem?_drop] at hy
  exact hx _ _ hy

def verN (g : ByteArray) (b : Bool) : Int := if b then (leafN g : Int) else 0
def VerW (n : Int) (b : Bool) (w : World) (e : Ending) (W' : World) : Prop := e = .returned (.tuple #[.int .i64 n, .bool b]) ∧ Below w.heap.size w W'

set_option maxRecDepth 100000 in
set_option maxHeartbeats 2000000 in
theorem verify_long (root : ByteArray) (tx : Value) (g : ByteArray) (hg : g.size ≠ 145) (w : World) :
    Calls Tryz.prog 36 #[.string root, tx, .string g] w (VerW 0 false w) := by
  have h1 : ((g.size : Int) == 145) = false := by simp; omega
  have h2 : ((g.size : Int) != 145) = true := by simp; omega
  go_enter Tryz.func36, Tryz.ntmps36
  go_wp2_with fail
  refine (leaf_any g _).mono ?_
  rintro e w1 ⟨rfl, rfl⟩
  go_wp2_with fail
  go_ret2
  exact ⟨rfl, Below.refl _ _⟩
set_option maxRecDepth 100000 in
set_option maxHeartbeats 2000000 in
theorem verify_leaf (root : ByteArray) (tx : Value) (g : ByteArray) (hg : g.size = 145) (h8 : 8 ≤ leafN g) (w : World) :
    Calls Tryz.prog 36 #[.string root, tx, .string g] w (VerW 0 false w) := by
  have h1 : ((g.size : Int) == 145) = true := by simp; omega
  have h2 : ((g.size : Int) != 145) = false := by simp; omega
  have HL := Lib.hid (leafI_of (g := g) (by omega))
  have h3 : 8 ≤ (leafN g : Int) := by omega
  clear hg h8
  go_enter Tryz.func36, Tryz.ntmps36
  go_wp2_with fail
  refine (leaf_any g _).mono ?_
  rw [HL.out]
  rintro e w1 ⟨rfl, rfl⟩
  go_wp2_with fail
  go_ret2
  exact ⟨rfl, Below.refl _ _⟩
set_option maxRecDepth 100000 in
set_option maxHeartbeats 2000000 in
theorem verify_top (root : ByteArray) (l : List UInt8) (tx : Value) (g : ByteArray) (hg : g.size = 145) (h8 : leafN g < 8) (w : World) (hreach : l.length ≤ 140737488353000) (htx : BSl 0 w.heap.size w tx l) (b : Bool) (hb : b = true ↔ topB l g = root) :
    Calls Tryz.prog 36 #[.string root, tx, .string g] w (VerW (verN g b) b w) := by
  have h1 : ((g.size : Int) == 145) = true := by simp; omega
  have h2 : ((g.size : Int) != 145) = false := by simp; omega
  have HL := Lib.hid (leafI_of (g := g) (by omega))
  have h3 : ¬ 8 ≤ (leafN g : Int) := by omega
  have HG := Lib.hid hg
  have HZ := Lib.hid (fun x (h : x ∈ cutL g) => cutL_size hg h)
  have HLN := Lib.hid (leafN_le g)
  have HT : Hid (topB l g = climbB (leafN g) ((cutL g).drop 15) (openB l ((cutL g).take 15)) 3) := Lib.hid rfl
  have HB := Lib.hid hb
  have htx0 := htx
  obtain ⟨ta, tc, rfl⟩ := bsl_slice htx
  clear hg h8 htx hb
  go_enter Tryz.func36, Tryz.ntmps36
  go_wp2_with fail
  refine (leaf_any g _).mono ?_
  rw [HL.out]
  rintro e w1 ⟨rfl, rfl⟩
  go_wp2_with fail
  refine (cut_any g HG.out _).mono ?_
  rintro e w2 ⟨v2, rfl, hown2, hb2⟩
  obtain ⟨q, c, rfl, hq, hx⟩ := textRow (n := 17) (zs := cutL g) (cutL_length g) hown2
  have hc : 18 ≤ c := by
    obtain ⟨_, h0 | ⟨g', cap', cur', e', _, _, hnc, _⟩⟩ := hown2
    · exact absurd h0.2 (by decide)
    · cases e'; exact hnc
  have HX := Lib.hid hx
  have hc1 : ¬ c < 15 := by omega
  have htx2 := (htx0.below hb2 (Nat.le_refl _)).mono (Nat.le_refl _) hb2.size
  clear hown2 hx htx0
  have hV15 := partV 0 15 c (by rw [cutL_length]; omega) (by omega) hq HX.out
  have h15 : (((cutL g).drop 0).take 15) = (cutL g).take 15 := rfl
  rw [h15] at hV15
  have hV3 := partV 15 3 (c - 15) (by rw [cutL_length]; omega) (by omega) hq HX.out
  have h3' : (((cutL g).drop 15).take 3) = (cutL g).drop 15 := List.take_of_length_le (by rw [List.length_drop, cutL_length]; omega)
  rw [h3'] at hV3
  have hl3 : ((cutL g).drop 15).length = 3 := by rw [List.length_drop, cutL_length]
  have hz15 : ∀ x ∈ (cutL g).take 15, x.size ≤ 9223372036854775807 := fun x hx => by rw [HZ.out x (List.mem_of_mem_take hx)]; omega
  have hz3 : ∀ x ∈ (cutL g).drop 15, x.size ≤ 8 := fun x hx => Nat.le_of_eq (HZ.out x (List.mem_of_mem_drop hx))
  have HZ15 := Lib.hid hz15
  have HZ3 := Lib.hid hz3
  have HL3 := Lib.hid hl3
  have hoz := openB_size l ((cutL g).take 15)
  clear h15 h3' hz15 hz3 hl3
  generalize (cutL g).take 15 = p15 at *
  generalize (cutL g).drop 15 = p3 at *
  go_wp2_with fail
  refine (open_any l _ p15 _ _ hreach HZ15.out htx2 hV15).mono ?_
  rintro e w3 ⟨rfl, hb3⟩
  have hV4 := (hV3.below hb3 (Nat.le_refl _)).mono (Nat.le_refl _) hb3.size
  have hB3 := chain hb2 hb3
  generalize openB l p15 = ob at *
  clear hV3 hV15 htx2 hb2 hb3
  go_wp2_with fail
  refine (climb_any (leafN g) HLN.out ob hoz p3 HL3.out HZ3.out _ _ hV4).mono ?_
  rintro e w4 ⟨rfl, hb4⟩
  rw [← HT.out]
  have hB4 := chain hB3 hb4
  generalize topB l g = top at *
  clear hB3 hb4 hV4
  cases b with
  | true =>
    obtain rfl : top = root := HB.out.1 rfl
    have he : (top.toList == top.toList) = true := by simp
    have hv : Hid (verN g true = (leafN g : Int)) := Lib.hid rfl
    go_wp2_with fail
    go_ret2
    exact ⟨by rw [hv.out]; rfl, hB4⟩
  | false =>
    have he : (top.toList == root.toList) = false := by
      rw [beq_eq_false_iff_ne]
      intro h
      rw [ByteArray.toList_eq, ByteArray.toList_eq] at h
      have h2 : top = root := ByteArray.ext (Array.toList_inj.1 h)
      exact absurd (HB.out.2 h2) (by decide)
    have hv : Hid (verN g false = 0) := Lib.hid rfl
    go_wp2_with fail
    go_ret2
    exact ⟨by rw [hv.out]; rfl, hB4⟩
end Go.Proofs.YtiibeahgleaonaaGreat

namespace Go.Proofs.YtiibeahgleaonaaGreat
open Go.RowKit Go.Shelf

theorem joinM_of (a b : ByteArray) : joinM a b = shortB (a ++ b).data.toList := by
  unfold joinM
  congr 1
theorem row_le {i h : Nat} (hi : (i + 1) * 2 ^ (h + 1) ≤ 8) : (2 * i + 1) * 2 ^ h ≤ 8 ∧ (2 * i + 1 + 1) * 2 ^ h ≤ 8 := by
  have e1 : (i + 1) * 2 ^ (h + 1) = (2 * i + 1 + 1) * 2 ^ h := by
    rw [Nat.pow_succ, Nat.mul_comm (2 ^ h) 2, ← Nat.mul_assoc]
    congr 1
    omega
  have e2 : (2 * i + 1) * 2 ^ h ≤ (2 * i + 1 + 1) * 2 ^ h := Nat.mul_le_mul_right _ (by omega)
  omega

set_option maxRecDepth 100000 in
set_option maxHeartbeats 2000000 in
theorem refRow_any (s : ByteArray) (hs : s.size ≤ 140737488352000) : ∀ (h i : Nat) (_ : h ≤ 3) (_ : (i + 1) * 2 ^ h ≤ 8) (w : World),
    Calls Tryz.prog 71 #[.string s, .int .i64 ((i * 2 ^ h : Nat) : Int), .int .i64 ((2 ^ h : Nat) : Int)] w fun e W' => e = .returned (.string (nodeB s h i)) ∧ Below w.heap.size w W'
  | 0, i, _, hi, w => by
    have hf : lfN ((i * 2 ^ 0 : Nat) : Int) = i := by have := lfN_cases ((i * 2 ^ 0 : Nat) : Int); simp at this hi ⊢; omega
    have HF : Hid (nodeB s 0 i = publicB s (lfN ((i * 2 ^ 0 : Nat) : Int))) := Lib.hid (by rw [hf]; rfl)
    clear hf
    rw [show ((2 ^ 0 : Nat) : Int) = 1 from rfl]
    generalize ((i * 2 ^ 0 : Nat) : Int) = z at *
    clear hi
    go_enter Tryz.func71, Tryz.ntmps71
    go_wp2_with fail
    refine (refPublic_any s hs z _).mono ?_
    rintro e w1 ⟨rfl, hb1⟩
    go_wp2_with fail
    go_ret
    exact ⟨by rw [HF.out]; rfl, hb1⟩
  | h + 1, i, hh, hi, w => by
    have ih1 := refRow_any s hs h (2 * i) (by omega) (row_le hi).1
    have ih2 := refRow_any s hs h (2 * i + 1) (by omega) (row_le hi).2
    have HJ : Hid (nodeB s (h + 1) i = joinM (nodeB s h (2 * i)) (nodeB s h (2 * i + 1))) := Lib.hid rfl
    have hz1 := nodeB_size s h (2 * i)
    have hz2 := nodeB_size s h (2 * i + 1)
    have hp1 : 1 ≤ 2 ^ h := Nat.one_le_two_pow
    have e1 : 2 * i * 2 ^ h = i * 2 ^ (h + 1) := by rw [Nat.pow_succ]; generalize 2 ^ h = p; rw [Nat.mul_comm 2 i, Nat.mul_assoc, Nat.mul_comm 2 p]
    have e2 : (2 * i + 1) * 2 ^ h = i * 2 ^ (h + 1) + 2 ^ h := by rw [Nat.add_mul, e1, Nat.one_mul]
    have e3 : 2 ^ (h + 1) = 2 * 2 ^ h := by rw [Nat.pow_succ, Nat.mul_comm]
    have e4 : (i + 1) * 2 ^ (h + 1) = i * 2 ^ (h + 1) + 2 ^ (h + 1) := by rw [Nat.add_mul, Nat.one_mul]
    rw [e1] at ih1
    rw [e2] at ih2
    rw [e4] at hi
    clear e1 e2 e4
    generalize i * 2 ^ (h + 1) = q at *
    rw [e3] at hi ⊢
    clear e3
    generalize 2 ^ h = p at *
    generalize nodeB s h (2 * i) = x at *
    generalize nodeB s h (2 * i + 1) = y at *
    have hd : ((2 * p : Nat) : Int) / 2 = (p : Int) := by omega
    have hne : (((2 * p : Nat) : Int) == 1) = false := by simp; omega
    have hc : ((q + p : Nat) : Int) = (q : Int) + (p : Int) := by simp
    rw [hc] at ih2
    clear hc
    have hq : (q : Int) ≤ 8 := by omega
    have hp8 : (p : Int) ≤ 8 := by omega
    generalize hP : 2 * p = P at *
    have hP8 : (P : Int) ≤ 8 := by omega
    have IH1 := Lib.hid ih1
    have IH2 := Lib.hid ih2
    have HX := Lib.hid hz1
    have HY := Lib.hid hz2
    clear ih1 ih2 hP hz1 hz2 hi
    go_enter Tryz.func71, Tryz.ntmps71
    go_wp2_with fail
    refine (IH1.out _).mono ?_
    rintro e w1 ⟨rfl, hb1⟩
    go_wp2_with fail
    refine (IH2.out _).mono ?_
    rintro e w2 ⟨rfl, hb2⟩
    have hadd : ¬ 9223372036854775807 < x.size + y.size := by have := HX.out; have := HY.out; omega
    go_wp2_with fail
    refine (refShort_any (x ++ y) (by rw [ByteArray.size_append]; have := HX.out; have := HY.out; omega) _).mono ?_
    rw [← joinM_of]
    rintro e w3 ⟨rfl, hb3⟩
    go_wp2_with fail
    go_ret
    exact ⟨by rw [HJ.out]; rfl, chain (chain hb1 hb2) hb3⟩

set_option maxRecDepth 100000 in
set_option maxHeartbeats 4000000 in
theorem refPath_any (s : ByteArray) (hs : s.size ≤ 140737488352000) (z : Int) (w : World) :
    Calls Tryz.prog 41 #[.string s, .int .i64 z] w (RowW w.heap.size 9 (pathL s z).length ((pathL s z).map tv) w) := by
  obtain ⟨i0, hi, hz0, hz1, hz2⟩ := info_parts Tryz.infoStr
  by_cases hz : 0 ≤ z ∧ z < 8
  · obtain ⟨n, rfl⟩ : ∃ n : Nat, z = (n : Int) := ⟨z.toNat, by omega⟩
    have hn : n < 8 := by omega
    have hn1 : ¬ (n : Int) < 0 := by omega
    have hn2 : ¬ 7 < (n : Int) := by omega
    rw [pathL_some hn, upto_length]
    have HN := Lib.hid hn
    clear hz
    go_enter Tryz.func41, Tryz.ntmps41
    go_wp2
    go_loopw [5, 6] (fun p m wr => ∃ k : Nat, k ≤ 3 ∧ m = .int .i64 ((2 ^ k : Nat) : Int) ∧ wr.ownsRow w.heap.size 9 1 p k ((upto (pathF s n) k).map tv) ∧ Below w.heap.size w wr) (fun _ m _ => 8 - (intOf m).toNat)
    case atStart => exact ⟨0, by omega, rfl, World.ownsRow_nil _ _ _ _, Below.refl _ _⟩
    case round =>
      obtain ⟨k, hk, rfl, hrow, hB⟩ := hrel
      obtain ⟨pa, pc, rfl⟩ := ownsRow_slice hrow
      by_cases hlt : k < 3
      · obtain ⟨_, hsl, h7⟩ := sib_of n hn k hlt
        have HT := Lib.hid (upto_snoc (pathF s n) k tv)
        have hle : (sibN n k + 1) * 2 ^ k ≤ 8 := by
          have h1 : (sibN n k + 1) * 2 ^ k ≤ cnt k * 2 ^ k := Nat.mul_le_mul_right _ hsl
          have h2 : cnt k * 2 ^ k = 8 := by unfold cnt; rw [← Nat.pow_add, show 3 - k + k = 3 by omega]
          omega
        have HR := Lib.hid (refRow_any s hs k (sibN n k) (by omega) hle)
        have HP : Hid (pathF s n k = nodeB s k (sibN n k)) := Lib.hid rfl
        have h4 : 2 ^ k ≤ 2 ^ 2 := Nat.pow_le_pow_right (by omega) (by omega)
        have h1 : 1 ≤ 2 ^ k := Nat.one_le_two_pow
        have hsib : (n / 2 ^ k % 2 = 0 ∧ sibN n k = n / 2 ^ k + 1) ∨ (n / 2 ^ k % 2 = 1 ∧ sibN n k + 1 = n / 2 ^ k) := by
          unfold sibN
          generalize n / 2 ^ k = q
          split
          · exact .inl ⟨by assumption, rfl⟩
          · exact .inr ⟨by omega, by omega⟩
        have hq : (n : Int) / ((2 ^ k : Nat) : Int) = ((n / 2 ^ k : Nat) : Int) := by simp
        have hdb : (2 : Int) * ((2 ^ k : Nat) : Int) = ((2 ^ (k + 1) : Nat) : Int) := by rw [Nat.pow_succ]; omega
        have HDB := Lib.hid hdb
        have HLT := Lib.hid hlt
        have hNW := hB.size
        clear hsl hle hlt hk hdb
        generalize n / 2 ^ k = Q at *
        generalize nodeB s k (sibN n k) = x at *
        generalize sibN n k = S at *
        generalize 2 ^ k = P at *
        generalize (upto (pathF s n) k).map tv = ts at *
        have h4' : (P : Int) ≤ 4 := by omega
        have h1' : 1 ≤ (P : Int) := by omega
        have hP8 : (P : Int) < 8 := by omega
        have hP0 : ¬ (P : Int) = 0 := by omega
        have hQ7 : (Q : Int) ≤ 7 := by omega
        have H4 := Lib.hid h4
        have H1 := Lib.hid h1
        clear h4 h1 h7
        rcases hsib with ⟨hb, hs⟩ | ⟨hb, hs⟩
        · have hb' : ((Q : Int) % 2 == 1) = false := by rw [show (Q : Int) % 2 = 0 by omega]; rfl
          have hmul : ((Q : Int) + 1) * (P : Int) = ((S * P : Nat) : Int) := by rw [hs]; simp
          have hmb : ((S * P : Nat) : Int) ≤ 100 := by
            have : S * P ≤ 8 * 4 := Nat.mul_le_mul (by omega) (by have := H4.out; omega)
            omega
          clear hb hs
          generalize S * P = SP at *
          go_wp2_with fail
          refine (HR.out _).mono ?_
          rintro e w2 ⟨rfl, hb2⟩
          have hrow2 := own_below hrow hb2
          have hB2 := hB.trans (hb2.mono hB.size)
          have hNW2 := hB2.size
          clear hrow hB hb2 hq hmul
          go_wp2_with (at_builtin; refine wpList_append_own _ rfl _ _ 77 rfl w.heap.size 9 i0 (.string ⟨#[]⟩) 1 16 Tryz.underlying77 hi hz0 hz1 hz2 rfl (by decide) (.slice pa k pc) k ts rfl (hrow2.alloc _) ⟨w2.heap.size, 0, none⟩ 1 1 [tv x] rfl rfl (cell_new1 _ _ _) (by simp [Value.oneCell']) (by have := HLT.out; unfold maxLen; omega) (by have := HLT.out; omega) (by simp; omega) ?_; intro v' w3 hrow' hgrow _; obtain ⟨g2, c2, rfl⟩ := ownsRow_succ hrow')
          have hB3 : Below w.heap.size w w3 := (hB2.alloc hNW2 _).grown hgrow (Nat.le_trans hNW2 (by simp)) (fun j hj => (World.ownsRow.lt hrow2 j hj).1)
          go_roundw
          case rel => exact ⟨k + 1, HLT.out, by rw [HDB.out], by rw [HT.out, HP.out]; exact hrow', hB3⟩
          case measure => have := H4.out; have := H1.out; simp [intOf]; omega
        · have hb' : ((Q : Int) % 2 == 1) = true := by rw [show (Q : Int) % 2 = 1 by omega]; rfl
          have hmul : ((Q : Int) - 1) * (P : Int) = ((S * P : Nat) : Int) := by rw [show (Q : Int) - 1 = (S : Int) by omega]; simp
          have hQ1 : 1 ≤ (Q : Int) := by omega
          have hmb : ((S * P : Nat) : Int) ≤ 100 := by
            have : S * P ≤ 8 * 4 := Nat.mul_le_mul (by omega) (by have := H4.out; omega)
            omega
          clear hb hs
          generalize S * P = SP at *
          go_wp2_with fail
          refine (HR.out _).mono ?_
          rintro e w2 ⟨rfl, hb2⟩
          have hrow2 := own_below hrow hb2
          have hB2 := hB.trans (hb2.mono hB.size)
          have hNW2 := hB2.size
          clear hrow hB hb2 hq hmul
          go_wp2_with (at_builtin; refine wpList_append_own _ rfl _ _ 77 rfl w.heap.size 9 i0 (.string ⟨#[]⟩) 1 16 Tryz.underlying77 hi hz0 hz1 hz2 rfl (by decide) (.slice pa k pc) k ts rfl (hrow2.alloc _) ⟨w2.heap.size, 0, none⟩ 1 1 [tv x] rfl rfl (cell_new1 _ _ _) (by simp [Value.oneCell']) (by have := HLT.out; unfold maxLen; omega) (by have := HLT.out; omega) (by simp; omega) ?_; intro v' w3 hrow' hgrow _; obtain ⟨g2, c2, rfl⟩ := ownsRow_succ hrow')
          have hB3 : Below w.heap.size w w3 := (hB2.alloc hNW2 _).grown hgrow (Nat.le_trans hNW2 (by simp)) (fun j hj => (World.ownsRow.lt hrow2 j hj).1)
          go_roundw
          case rel => exact ⟨k + 1, HLT.out, by rw [HDB.out], by rw [HT.out, HP.out]; exact hrow', hB3⟩
          case measure => have := H4.out; have := H1.out; simp [intOf]; omega
      · obtain rfl : k = 3 := by omega
        rw [show ((2 ^ 3 : Nat) : Int) = 8 from rfl]
        go_wp2
        go_ret
        exact ⟨_, rfl, hrow, hB⟩
  · rw [pathL_none hz]
    by_cases h0 : z < 0
    · clear hz
      go_enter Tryz.func41, Tryz.ntmps41
      go_wp2
      go_ret
      exact ⟨_, rfl, World.ownsRow_nil _ _ _ _, Below.refl _ _⟩
    · have h8 : 7 < z := by omega
      clear hz
      go_enter Tryz.func41, Tryz.ntmps41
      go_wp2
      go_ret
      exact ⟨_, rfl, World.ownsRow_nil _ _ _ _, Below.refl _ _⟩
end Go.Proofs.YtiibeahgleaonaaGreat

namespace Go.Proofs.YtiibeahgleaonaaGreat
open Go.RowKit Go.Shelf

theorem pieceB_of {g : ByteArray} {k : Nat} (h : 9 + 8 * k ≤ g.size) : pieceB g k = g.extract (1 + 8 * k) (9 + 8 * k) := by
  unfold pieceB
  apply ByteArray.ext
  apply Array.toList_inj.1
  simp only [ByteArray.data_extract, Array.toList_extract, List.extract_eq_take_drop]
  have h' : g.data.size = g.size := rfl
  rw [Nat.mul_comm k 8, List.drop_zero, List.take_take]
  congr 1
  omega

theorem drop_getD (zs : List ByteArray) {i k : Nat} (h : i + k < zs.length) : zs[i + k]? = some ((zs.drop i).getD k ⟨#[]⟩) := by
  rw [List.getD, List.getElem?_drop, List.getElem?_eq_getElem h]
  rfl
set_option maxRecDepth 100000 in
set_option maxHeartbeats 2000000 in
theorem refVerify_long (root : ByteArray) (tx : Value) (g : ByteArray) (hg : g.size ≠ 145) (w : World) :
    Calls Tryz.prog 37 #[.string root, tx, .string g] w (VerW 0 false w) := by
  have h1 : ((g.size : Int) == 145) = false := by simp; omega
  have h2 : ((g.size : Int) != 145) = true := by simp; omega
  go_enter Tryz.func37, Tryz.ntmps37
  go_wp2_with fail
  go_ret2
  exact ⟨rfl, Below.refl _ _⟩
theorem leafN_of {g : ByteArray} (h : 0 < g.size) : leafN g = (g[0]'h).toNat := by unfold leafN; rw [dif_pos h]
set_option maxRecDepth 100000 in
set_option maxHeartbeats 2000000 in
theorem refVerify_leaf (root : ByteArray) (tx : Value) (g : ByteArray) (hg : g.size = 145) (h8 : 8 ≤ leafN g) (w : World) :
    Calls Tryz.prog 37 #[.string root, tx, .string g] w (VerW 0 false w) := by
  have h1 : ((g.size : Int) == 145) = true := by simp; omega
  have h2 : ((g.size : Int) != 145) = false := by simp; omega
  have h0 : 0 < g.size := by omega
  rw [leafN_of h0] at h8
  have h3 : 7 < (g[0].toNat : Int) := by omega
  clear hg h8
  go_enter Tryz.func37, Tryz.ntmps37
  go_wp2_with fail
  go_ret2
  exact ⟨rfl, Below.refl _ _⟩
set_option maxRecDepth 100000 in
set_option maxHeartbeats 8000000 in
theorem refVerify_top (root : ByteArray) (l : List UInt8) (tx : Value) (g : ByteArray) (hg : g.size = 145) (h8 : leafN g < 8) (w : World) (hreach : l.length ≤ 140737488353000) (htx : BSl 0 w.heap.size w tx l) (b : Bool) (hb : b = true ↔ topB l g = root) :
    Calls Tryz.prog 37 #[.string root, tx, .string g] w (VerW (verN g b) b w) := by
  have hmx : Tryz.prog.follows .mixedOrders = true := by kernel_rfl
  obtain ⟨i0, hi, hz0, hz1, hz2⟩ := info_parts Tryz.infoStr
  have h1 : ((g.size : Int) == 145) = true := by simp; omega
  have h2 : ((g.size : Int) != 145) = false := by simp; omega
  have h0 : 0 < g.size := by omega
  have hLf := Lib.hid (leafN_of h0)
  have h3 : ¬ 7 < (g[0].toNat : Int) := by rw [leafN_of h0] at h8; omega
  have h60 : (g[0].toNat : Int) ≤ 255 := by have := g[0].toNat_lt; omega
  have HG := Lib.hid hg
  have H8 := Lib.hid h8
  have HZ := Lib.hid (fun x (h : x ∈ cutL g) => cutL_size hg h)
  have HT : Hid (topB l g = climbB (leafN g) ((cutL g).drop 15) (openB l ((cutL g).take 15)) 3) := Lib.hid rfl
  have HB := Lib.hid hb
  have HCL : Hid (cutL g = upto (pieceB g) 18) := Lib.hid rfl
  have htx0 := htx
  obtain ⟨ta, tc, rfl⟩ := bsl_slice htx
  have hg' : g.size ≤ 145 := by omega
  have hg2 : 145 ≤ g.size := by omega
  clear hg h8 htx hb
  go_enter Tryz.func37, Tryz.ntmps37
  go_wp2_with fail
  go_loopw [8, 9] (fun v i wr => ∃ k : Nat, k ≤ 18 ∧ i = .int .i64 (k : Nat) ∧ wr.ownsRow w.heap.size 9 1 v k ((upto (pieceB g) k).map tv) ∧ Below w.heap.size w wr) (fun _ i _ => 18 - (intOf i).toNat)
  case atStart => exact ⟨0, by omega, rfl, World.ownsRow_nil _ _ _ _, Below.refl _ _⟩
  case round =>
    obtain ⟨k, hk, rfl, hown, hB⟩ := hrel
    obtain ⟨va, vc, rfl⟩ := ownsRow_slice hown
    have hNW := hB.size
    by_cases hlt : k < 18
    · have HTT := Lib.hid (upto_snoc (pieceB g) k tv)
      have HP := Lib.hid (pieceB_of (g := g) (k := k) (by omega))
      have hlt' : (k : Int) < 18 := by omega
      have HLT := Lib.hid hlt
      clear hlt hk
      generalize (upto (pieceB g) k).map tv = ts at *
      go_wp2_with (at_builtin; refine wpList_append_own _ rfl _ _ 77 rfl w.heap.size 9 i0 (.string ⟨#[]⟩) 1 16 Tryz.underlying77 hi hz0 hz1 hz2 rfl (by decide) (.slice va k vc) k ts rfl (hown.alloc _) ⟨wr.heap.size, 0, none⟩ 1 1 [tv (g.extract (1 + 8 * k) (9 + 8 * k))] rfl rfl (cell_new1 _ _ _) (by simp [Value.oneCell']) (by have := HLT.out; unfold maxLen; omega) (by have := HLT.out; omega) (by simp; omega) ?_; intro v' w3 hown' hgrow _; obtain ⟨g2, c2, rfl⟩ := ownsRow_succ hown')
      have hB3 : Below w.heap.size w w3 := (hB.alloc hNW _).grown hgrow (Nat.le_trans hNW (by simp)) (fun j hj => (World.ownsRow.lt hown j hj).1)
      go_roundw
      case rel => exact ⟨k + 1, HLT.out, by simp, by rw [HTT.out, HP.out]; exact hown', hB3⟩
      case measure => have := HLT.out; simp [intOf]; omega
    · obtain rfl : k = 18 := by omega
      rw [← HCL.out] at hown
      clear hlt hk
      obtain ⟨q, c, e, hq, hx⟩ := textRow (n := 17) (zs := cutL g) (cutL_length g) hown
      have hc : 18 ≤ vc := by
        obtain ⟨_, h0 | ⟨g', cap', cur', e', _, _, hnc, _⟩⟩ := hown
        · exact absurd h0.2 (by decide)
        · cases e'; exact hnc
      cases e
      have HX := Lib.hid hx
      have hc1 : ¬ vc < 15 := by omega
      have hci : (15 : Int) ≤ (vc : Int) := by omega
      have htx2 := (htx0.below hB (Nat.le_refl _)).mono (Nat.le_refl _) hB.size
      have hV15 := partV 0 15 vc (by rw [cutL_length]; omega) (by omega) hq HX.out
      have h15 : (((cutL g).drop 0).take 15) = (cutL g).take 15 := rfl
      rw [h15] at hV15
      have hz15 : ∀ x ∈ (cutL g).take 15, x.size ≤ 9223372036854775807 := fun x hx => by rw [HZ.out x (List.mem_of_mem_take hx)]; omega
      have HZ15 := Lib.hid hz15
      have hoz := openB_size l ((cutL g).take 15)
      have hp3 : ∀ k, k < 3 → (cutL g)[15 + k]? = some (((cutL g).drop 15).getD k ⟨#[]⟩) := fun k hk => drop_getD (cutL g) (by rw [cutL_length]; omega)
      have hx3 : ∀ k, k < 3 → wr.cell? ⟨q, 15 + k, none⟩ = some (.string (((cutL g).drop 15).getD k ⟨#[]⟩)) := fun k hk => HX.out (15 + k) _ (hp3 k hk)
      have hs3 : ∀ k, k < 3 → (((cutL g).drop 15).getD k ⟨#[]⟩).size ≤ 8 := fun k hk => Nat.le_of_eq (HZ.out _ (List.mem_of_getElem? (hp3 k hk)))
      have HX3 := Lib.hid hx3
      have HS3 := Lib.hid hs3
      have HLE := Lib.hid (show leafN g ≤ 255 from leafN_le g)
      clear h15 hz15 hp3 hx3 hs3 hown hx htx0
      generalize (cutL g).take 15 = p15 at *
      generalize (cutL g).drop 15 = p3 at *
      go_wp2_with fail
      refine wp_region_held_drew (S := fun W => Below wr.heap.size wr W) hmx (Below.refl _ wr).drew ?_
      intro hS
      generalize wr.drew = Y at *
      refine' wpAnyH_take (i := 0) (oi := _) (v := _) ?hi1 (by kernel_rfl) (by kernel_rfl) (by kernel_rfl) ?hQ1 (Or.inl ⟨?hw1, ?hy1⟩) hS ?rest1
      case hi1 => simp only [List.getElem?_toArray, List.getElem?_cons_zero]; rfl
      case hQ1 => exact fun _ _ _ h => h
      case hw1 => rfl
      case hy1 => intro W' hS'; go_simp; with_reducible rfl
      try simp only [Act.put, List.setIfInBounds_toArray, List.set_cons_zero, List.set_cons_succ]
      refine' wpAnyH_take (i := 1) (oi := _) (v := _) ?hi2 (by kernel_rfl) (by kernel_rfl) (by kernel_rfl) ?hQ2 (Or.inl ⟨?hw2, ?hy2⟩) hS ?rest2
      case hi2 => simp only [List.getElem?_toArray, List.getElem?_cons_succ, List.getElem?_cons_zero]; rfl
      case hQ2 => exact fun _ _ _ h => h
      case hw2 => rfl
      case hy2 => intro W' hS'; go_simp; with_reducible rfl
      try simp only [Act.put, List.setIfInBounds_toArray, List.set_cons_zero, List.set_cons_succ]
      refine' wpAnyH_take (i := 2) (oi := _) (v := _) ?hi3 (by kernel_rfl) (by kernel_rfl) (by kernel_rfl) ?hQ3 (Or.inl ⟨?hw3, ?hy3⟩) hS ?rest3
      case hi3 => simp only [List.getElem?_toArray, List.getElem?_cons_succ, List.getElem?_cons_zero]; rfl
      case hQ3 => exact fun _ _ _ h => h
      case hw3 => rfl
      case hy3 => intro W' hS'; go_simp; with_reducible rfl
      try simp only [Act.put, List.setIfInBounds_toArray, List.set_cons_zero, List.set_cons_succ]
      refine' wpAnyH_take (i := 4) (oi := _) (v := _) ?hi4 (by kernel_rfl) (by kernel_rfl) (by kernel_rfl) ?hQ4 (Or.inl ⟨?hw4, ?hy4⟩) hS ?rest4
      case hi4 => simp only [List.getElem?_toArray, List.getElem?_cons_succ, List.getElem?_cons_zero]; rfl
      case hQ4 => exact fun _ _ _ h => h
      case hw4 => rfl
      case hy4 => intro W' hS'; go_simp; with_reducible rfl
      try simp only [Act.put, List.setIfInBounds_toArray, List.set_cons_zero, List.set_cons_succ]
      refine' wpAnyH_take (i := 5) (oi := _) (v := _) ?hi5 (by kernel_rfl) (by kernel_rfl) (by kernel_rfl) ?hQ5 (Or.inl ⟨?hw5, ?hy5⟩) hS ?rest5
      case hi5 => simp only [List.getElem?_toArray, List.getElem?_cons_succ, List.getElem?_cons_zero]; rfl
      case hQ5 => exact fun _ _ _ h => h
      case hw5 => rfl
      case hy5 => intro W' hS'; go_simp; with_reducible rfl
      try simp only [Act.put, List.setIfInBounds_toArray, List.set_cons_zero, List.set_cons_succ]
      refine' wpAnyH_take (i := 6) (oi := _) (v := _) ?hi6 (by kernel_rfl) (by kernel_rfl) (by kernel_rfl) ?hQ6 (Or.inl ⟨?hw6, ?hy6⟩) hS ?rest6
      case hi6 => simp only [List.getElem?_toArray, List.getElem?_cons_succ, List.getElem?_cons_zero]; rfl
      case hQ6 => exact fun _ _ _ h => h
      case hw6 => rfl
      case hy6 => intro W' hS'; go_simp; with_reducible rfl
      try simp only [Act.put, List.setIfInBounds_toArray, List.set_cons_zero, List.set_cons_succ]
      refine wpAnyH_ready (rs := [3]) (by kernel_rfl) (by simp) ?_
      refine' AllReadyH.cons (o := _) ?ho7 (fun K hK => ?st7) AllReadyH.nil
      case ho7 => simp only [List.getElem?_toArray, List.getElem?_cons_succ, List.getElem?_cons_zero]; rfl
      case st7 =>
        go_simp
        refine (refOpen_any l _ p15 _ _ hreach ((htx2.below hS (Nat.le_refl _)).mono (Nat.le_refl _) hS.size) ((hV15.below hS (Nat.le_refl _)).mono (Nat.le_refl _) hS.size)).mono ?_
        rintro e Y1 ⟨rfl, hb⟩
        refine hK.out _ _ (hS.trans (hb.mono hS.size)) (fun hS => ?_)
        clear hK K
        try simp only [Act.put, List.setIfInBounds_toArray, List.set_cons_zero, List.set_cons_succ]
        clear hb
        refine wpAnyH_ready (rs := [7]) (by kernel_rfl) (by simp) ?_
        refine' AllReadyH.cons (o := _) ?ho8 (fun K hK => ?st8) AllReadyH.nil
        case ho8 => simp only [List.getElem?_toArray, List.getElem?_cons_succ, List.getElem?_cons_zero]; rfl
        case st8 =>
          go_simp
          refine hK.out _ _ hS (fun hS => ?_)
          clear hK K
          try simp only [Act.put, List.setIfInBounds_toArray, List.set_cons_zero, List.set_cons_succ]
          refine wpAnyH_ready (rs := [8]) (by kernel_rfl) (by simp) ?_
          refine' AllReadyH.cons (o := _) ?ho9 (fun K hK => ?st9) AllReadyH.nil
          case ho9 => simp only [List.getElem?_toArray, List.getElem?_cons_succ, List.getElem?_cons_zero]; rfl
          case st9 =>
            go_simp
            refine hK.out _ _ hS (fun hS => ?_)
            clear hK K
            try simp only [Act.put, List.setIfInBounds_toArray, List.set_cons_zero, List.set_cons_succ]
            refine wpAnyH_done (by kernel_rfl) ?_ _
            have hB1 := hB.trans (hS.mono hB.size)
            replace HX3 := Lib.hid (fun k hk => (hS.cell (p := ⟨q, 15 + k, none⟩) hq).trans (HX3.out k hk))
            have hq1 := Nat.lt_of_lt_of_le hq hS.size
            clear hS hV15 htx2 hB HX
            rw [← hLf.out]
            generalize openB l p15 = ob at *
            generalize hn : leafN g = n at *
            have HNN := Lib.hid hn
            clear hn
            go_wp2_with fail
            go_loopw [10, 11, 12] (fun v t i wr => ∃ j k : Nat, j = 15 + k ∧ k ≤ 3 ∧ i = .int .i64 (j : Nat) ∧ t = .int .i64 ((n / 2 ^ k : Nat) : Int) ∧ v = .string (climbB n p3 ob k) ∧ Below w.heap.size w wr ∧ Below Y1.heap.size Y1 wr) (fun _ _ i _ => 18 - (intOf i).toNat)
            case atStart => exact ⟨15, 0, rfl, by omega, rfl, by have e : IntKind.i64.wrap (n : Int) = (n : Int) := (by rw [IntKind.wrap_i64]; have := HLE.out; omega); simp [e], rfl, hB1, Below.refl _ _⟩
            clear hB1
            case round =>
              rename_i wr2
              obtain ⟨j, k, hj, hk, rfl, rfl, rfl, hBw, hBY⟩ := hrel
              have HJ := Lib.hid hj
              by_cases hlt : k < 3
              · have c0 := (hBY.cell (p := ⟨q, 15 + k, none⟩) hq1).trans (HX3.out k hlt)
                rw [← hj] at c0
                have hj18 : (j : Int) < 18 := by omega
                have hys := HS3.out k hlt
                have hzs := climbB_size n p3 ob k
                have hzs' : (climbB n p3 ob k).size ≤ 8 := by omega
                have hq2 : n / 2 ^ k / 2 = n / 2 ^ (k + 1) := by rw [Nat.div_div_eq_div_mul, ← Nat.pow_succ]
                have hqi : ((n / 2 ^ k : Nat) : Int) / 2 = ((n / 2 ^ (k + 1) : Nat) : Int) := by rw [← hq2]; simp
                have HQ2 := Lib.hid hqi
                have hq7 : n / 2 ^ k ≤ n := Nat.div_le_self _ _
                have hn8 := H8.out
                have hq7' : ((n / 2 ^ k : Nat) : Int) ≤ 7 := by omega
                have HLT := Lib.hid hlt
                generalize hQ : n / 2 ^ k = Q at *
                have HQ := Lib.hid hQ
                generalize hyv : p3.getD k ⟨#[]⟩ = y at *
                have HYV := Lib.hid hyv
                generalize hcz : climbB n p3 ob k = z at *
                have HCZ := Lib.hid hcz
                clear hj hk hlt hq2 hqi hq7 hn8 hzs hQ hyv hcz
                by_cases hbit : Q % 2 = 0
                · have hbit' : (((Q : Nat) : Int) % 2 == 0) = true := by rw [show ((Q : Nat) : Int) % 2 = 0 by omega]; rfl
                  have HK : Hid (climbB n p3 ob (k + 1) = joinM z y) := Lib.hid (by rw [climbB, if_pos (by rw [HQ.out]; omega), HCZ.out, HYV.out])
                  have hadd : ¬ 9223372036854775807 < z.size + y.size := by omega
                  have hle2 : z.size + y.size ≤ 16 := by omega
                  clear hbit
                  go_wp2_with fail
                  refine (refShort_any (z ++ y) (by rw [ByteArray.size_append]; omega) _).mono ?_
                  rw [← joinM_of]
                  rintro e w5 ⟨rfl, hb5⟩
                  have hB5 := hBw.trans (hb5.mono hBw.size)
                  have hY5 := hBY.trans (hb5.mono hBY.size)
                  clear hBw hBY hb5
                  go_wp2_with fail
                  go_roundw
                  case rel => exact ⟨j + 1, k + 1, by have := HJ.out; omega, by have := HLT.out; omega, by simp, by rw [HQ2.out], by rw [HK.out], hB5, hY5⟩
                  case measure => have := HLT.out; have := HJ.out; simp [intOf]; omega
                · have hbit' : (((Q : Nat) : Int) % 2 == 0) = false := by rw [show ((Q : Nat) : Int) % 2 = 1 by omega]; rfl
                  have HK : Hid (climbB n p3 ob (k + 1) = joinM y z) := Lib.hid (by rw [climbB, if_neg (by rw [HQ.out]; omega), HCZ.out, HYV.out])
                  have hadd : ¬ 9223372036854775807 < y.size + z.size := by omega
                  have hle2 : y.size + z.size ≤ 16 := by omega
                  clear hbit
                  go_wp2_with fail
                  refine (refShort_any (y ++ z) (by rw [ByteArray.size_append]; omega) _).mono ?_
                  rw [← joinM_of]
                  rintro e w5 ⟨rfl, hb5⟩
                  have hB5 := hBw.trans (hb5.mono hBw.size)
                  have hY5 := hBY.trans (hb5.mono hBY.size)
                  clear hBw hBY hb5
                  go_wp2_with fail
                  go_roundw
                  case rel => exact ⟨j + 1, k + 1, by have := HJ.out; omega, by have := HLT.out; omega, by simp, by rw [HQ2.out], by rw [HK.out], hB5, hY5⟩
                  case measure => have := HLT.out; have := HJ.out; simp [intOf]; omega
              · obtain rfl : k = 3 := by omega
                obtain rfl : j = 18 := by omega
                rw [← HT.out]
                clear hlt hk hj
                generalize topB l g = top at *
                cases b with
                | true =>
                  obtain rfl : top = root := HB.out.1 rfl
                  have he : (top.toList == top.toList) = true := by simp
                  have hv : Hid (verN g true = (n : Int)) := Lib.hid (by unfold verN; rw [if_pos rfl, HNN.out])
                  have hlf : (g[0].toNat : Int) = (n : Int) := by rw [hLf.out]
                  have HLF := Lib.hid hlf
                  clear hlf
                  go_wp2_with fail
                  go_ret2
                  exact ⟨by rw [hv.out, ← HLF.out]; rfl, hBw⟩
                | false =>
                  have he : (top.toList == root.toList) = false := by
                    rw [beq_eq_false_iff_ne]
                    intro h
                    rw [ByteArray.toList_eq, ByteArray.toList_eq] at h
                    have h2 : top = root := ByteArray.ext (Array.toList_inj.1 h)
                    exact absurd (HB.out.2 h2) (by decide)
                  have hv : Hid (verN g false = 0) := Lib.hid rfl
                  go_wp2_with fail
                  go_ret2
                  exact ⟨by rw [hv.out]; rfl, hBw⟩

end Go.Proofs.YtiibeahgleaonaaGreat

namespace Go.Proofs.YtiibeahgleaonaaGreat
open Go.RowKit Go.Shelf

set_option maxRecDepth 100000 in
set_option maxHeartbeats 1000000 in
theorem growT_any (n : Nat) (h1 : 0 < n) (hn : n ≤ 1000) (w : World) : Calls Tryz.prog 86 #[.slice none 0 0, .int .i64 (n : Int)] w (RowW w.heap.size 9 0 [] w) := by
  obtain ⟨i0, hi, hz0, hz1, hz2⟩ := info_parts Tryz.infoStr
  have hn' : (n : Int) ≤ 1000 := by omega
  have h2 : 0 < (n : Int) := by omega
  have hr := Lib.run_append_nil_zeros (P := Tryz.prog) w 77 3 77 9 i0 (.string ⟨#[]⟩) .i64 .i64 Tryz.underlying77 Tryz.underlying3 hi hz0 n h1 (by omega) (by omega) (by rw [hz2]; omega)
  have hg : n ≤ grownCap w n 0 9 ∧ grownCap w n 0 9 ≤ maxLen := ⟨grownCap_ge _ _ _ _, grownCap_le_maxLen _ _ _ _ (by unfold maxLen; omega)⟩
  obtain ⟨hg1, hg2⟩ := hg
  generalize grownCap w n 0 9 = c at *
  go_enter Tryz.func86, Tryz.ntmps86
  go_wp2_with (at_builtin; refine Lib.wpList_append_run w rfl _ _ 77 3 rfl _ _ rfl rfl _ _ hr ?_)
  go_ret
  have hz : ∀ n, (Builtin.zeroCells #[Value.string ⟨#[]⟩] n).size = n := fun n => by simp [Builtin.zeroCells]
  refine ⟨_, rfl, ⟨rfl, .inr ⟨w.heap.size, c, _, rfl, Nat.le_refl _, World.alloc_heap_new _ _, by omega, hg2, by rw [Array.size_append, hz, hz]; omega, by simp⟩⟩, ?_⟩
  exact ((Below.refl _ w).drew).alloc (by simp) _

set_option maxRecDepth 100000 in
set_option maxHeartbeats 4000000 in
theorem concatT_any (B : Nat) (g1 n1 c1 g2 n2 c2 : Nat) (xs ys : List Value) (hx1 : xs.length = n1) (hy1 : ys.length = n2) (h1 : 0 < n1) (h2 : 0 < n2) (hn1 : n1 ≤ 100) (hn2 : n2 ≤ 100) (w : World)
    (hb : Blk w B 77 [.slice (some ⟨g1, 0, none⟩) n1 c1, .slice (some ⟨g2, 0, none⟩) n2 c2]) (hg1 : g1 < w.heap.size) (hg2 : g2 < w.heap.size)
    (hx : ∀ k x, xs[k]? = some x → w.cell? ⟨g1, k, none⟩ = some x) (hy : ∀ k x, ys[k]? = some x → w.cell? ⟨g2, k, none⟩ = some x) (ox : ∀ x ∈ xs, x.oneCell' = true) (oy : ∀ x ∈ ys, x.oneCell' = true) :
    Calls Tryz.prog 64 #[.slice (some ⟨B, 0, none⟩) 2 2] w (RowW w.heap.size 9 (n1 + n2) (xs ++ ys) w) := by
  obtain ⟨i0, hi, hz0, hz1, hz2⟩ := info_parts Tryz.infoStr
  have hB := hb.lt
  have b0 : w.cell? ⟨B, 0, none⟩ = some (.slice (some ⟨g1, 0, none⟩) n1 c1) := hb.cell 0
  have b1 : w.cell? ⟨B, 1, none⟩ = some (.slice (some ⟨g2, 0, none⟩) n2 c2) := hb.cell 1
  have HX := Lib.hid hx
  have HY := Lib.hid hy
  have HXL := Lib.hid hx1
  have HYL := Lib.hid hy1
  have H0 := Lib.hid b0
  have H1 := Lib.hid b1
  have hadd : ∀ (g j : Nat), (⟨g, 0, none⟩ : Addr).add j = ⟨g, j, none⟩ := fun g j => by cases j <;> simp [Addr.add]
  have HA := Lib.hid hadd
  have OX := Lib.hid ox
  have OY := Lib.hid oy
  have hm1 : (n1 : Int) ≤ 100 := by omega
  have hm2 : (n2 : Int) ≤ 100 := by omega
  clear hx hy hx1 hy1 hb hadd ox oy
  go_enter Tryz.func64, Tryz.ntmps64
  go_wp2
  clear b0 b1
  go_loop [3, 11] (fun s i => (i = .int .i64 0 ∧ s = .int .i64 0) ∨ (i = .int .i64 1 ∧ s = .int .i64 (n1 : Int)) ∨ (i = .int .i64 2 ∧ s = .int .i64 ((n1 + n2 : Nat) : Int))) (fun _ i => 2 - (intOf i).toNat)
  case atStart => exact .inl ⟨rfl, rfl⟩
  case round =>
    rcases hrel with ⟨rfl, rfl⟩ | ⟨rfl, rfl⟩ | ⟨rfl, rfl⟩
    · have b0 := H0.out
      go_wp2
      exact ⟨.inr (.inl ⟨rfl, rfl⟩), by decide⟩
    · have b1 := H1.out
      go_wp2
      exact ⟨.inr (.inr ⟨rfl, by simp⟩), by decide⟩
    · have hs : (((n1 + n2 : Nat) : Int)) ≤ 1000 := by omega
      generalize hN : n1 + n2 = N at *
      have HN := Lib.hid hN
      clear hN
      go_wp2_with (go_at_call 86; refine (growT_any N (by have := HN.out; omega) (by have := HN.out; omega) _).mono ?_; rintro e w1 ⟨v, rfl, hown, hb1⟩)
      go_loopw [6, 27] (fun v i wr => Below w.heap.size w wr ∧ ((i = .int .i64 0 ∧ wr.ownsRow w.heap.size 9 1 v 0 []) ∨ (i = .int .i64 1 ∧ wr.ownsRow w.heap.size 9 1 v n1 xs) ∨ (i = .int .i64 2 ∧ wr.ownsRow w.heap.size 9 1 v N (xs ++ ys)))) (fun _ i _ => 2 - (intOf i).toNat)
      case atStart => exact ⟨hb1, .inl ⟨rfl, hown⟩⟩
      clear hown hb1
      case round =>
        obtain ⟨hB', hrel⟩ := hrel
        have hNW := hB'.size
        rcases hrel with ⟨rfl, hown⟩ | ⟨rfl, hown⟩ | ⟨rfl, hown⟩
        · have b0 := (hB'.cell (p := ⟨B, 0, none⟩) hB).trans H0.out
          obtain ⟨va, vc, rfl⟩ := ownsRow_slice hown
          go_wp2_with (at_builtin; refine wpList_append_own _ rfl _ _ 77 rfl w.heap.size 9 i0 (.string ⟨#[]⟩) 1 16 Tryz.underlying77 hi hz0 hz1 hz2 rfl (by decide) (.slice va 0 vc) 0 [] rfl hown ⟨g1, 0, none⟩ n1 c1 xs rfl (by rw [HXL.out, Nat.mul_one]) (fun j u hj => by rw [HA.out]; exact (hB'.cell (p := ⟨g1, j, none⟩) hg1).trans (HX.out j u hj)) OX.out (by unfold maxLen; omega) (by omega) hNW ?_; intro v' w3 hown' hgrow _)
          have hB3 : Below w.heap.size w w3 := hB'.grown hgrow hNW (fun j hj => (World.ownsRow.lt hown j hj).1)
          rw [Nat.zero_add, List.nil_append] at hown'
          exact ⟨⟨hB3, .inr (.inl ⟨rfl, hown'⟩)⟩, by decide⟩
        · have b1 := (hB'.cell (p := ⟨B, 1, none⟩) hB).trans H1.out
          obtain ⟨va, vc, rfl⟩ := ownsRow_slice hown
          go_wp2_with (at_builtin; refine wpList_append_own _ rfl _ _ 77 rfl w.heap.size 9 i0 (.string ⟨#[]⟩) 1 16 Tryz.underlying77 hi hz0 hz1 hz2 rfl (by decide) (.slice va n1 vc) n1 xs rfl hown ⟨g2, 0, none⟩ n2 c2 ys rfl (by rw [HYL.out, Nat.mul_one]) (fun j u hj => by rw [HA.out]; exact (hB'.cell (p := ⟨g2, j, none⟩) hg2).trans (HY.out j u hj)) OY.out (by unfold maxLen; omega) (by omega) hNW ?_; intro v' w3 hown' hgrow _)
          have hB3 : Below w.heap.size w w3 := hB'.grown hgrow hNW (fun j hj => (World.ownsRow.lt hown j hj).1)
          rw [HN.out] at hown'
          exact ⟨⟨hB3, .inr (.inr ⟨rfl, hown'⟩)⟩, by decide⟩
        · go_wp2
          go_ret
          exact ⟨_, rfl, hown, hB'⟩
end Go.Proofs.YtiibeahgleaonaaGreat

namespace Go.Proofs.YtiibeahgleaonaaGreat
open Go.RowKit Go.Shelf

theorem lfN_small {n : Nat} (h : n ≤ 65535) : lfN (n : Int) = n := by have := lfN_cases (n : Int); omega
/-- All that stands behind the leaf. -/
def sigL (s : ByteArray) (n : Nat) (l : List UInt8) : List ByteArray := signL s n l ++ pathL s (n : Int)
theorem signL_length (s : ByteArray) (f : Nat) (l : List UInt8) : (signL s f l).length = 15 := by unfold signL; rw [walked_length, begs_length]
theorem signL_size {s : ByteArray} {f : Nat} {l : List UInt8} {x : ByteArray} (h : x ∈ signL s f l) : x.size = 8 := by
  have hw := signL_wf s f l
  unfold wf at hw
  simp only [Bool.and_eq_true, List.all_eq_true, beq_iff_eq] at hw
  exact hw.2 x h
theorem pathL_length {s : ByteArray} {n : Nat} (h : n < 8) : (pathL s (n : Int)).length = 3 := by rw [pathL_some h, upto_length]
theorem sigL_length {s : ByteArray} {n : Nat} (l : List UInt8) (h : n < 8) : (sigL s n l).length = 18 := by unfold sigL; rw [List.length_append, signL_length, pathL_length h]
theorem sigL_size {s : ByteArray} {n : Nat} {l : List UInt8} {x : ByteArray} (h : x ∈ sigL s n l) : x.size = 8 := by
  unfold sigL at h
  rcases List.mem_append.1 h with h | h
  · exact signL_size h
  · exact pathL_size h
/-- The leaf, in one octet. -/
def oneB (n : Nat) : ByteArray := ⟨([UInt8.ofNat n] : List UInt8).toArray⟩
theorem oneB_size (n : Nat) : (oneB n).size = 1 := rfl
/-- A leaf's signature. -/
def sigB (s : ByteArray) (n : Nat) (l : List UInt8) : ByteArray := oneB n ++ catL (sigL s n l)
theorem one_conv (w : World) (n : Nat) (hn : n < 256) : (convert 35 9 (.slice (some ⟨w.heap.size, 0, none⟩) 1 1)).run Tryz.prog (w.alloc (.cells #[.int .u8 (n : Int)] 5)) = .ok (.string (oneB n)) (w.alloc (.cells #[.int .u8 (n : Int)] 5)) := by
  have hv : BSl 0 (w.alloc (.cells #[.int .u8 (n : Int)] 5)).heap.size (w.alloc (.cells #[.int .u8 (n : Int)] 5)) (.slice (some ⟨w.heap.size, 0, none⟩) 1 1) [UInt8.ofNat n] := ⟨_, 1, rfl, Nat.le_refl _, .inr ⟨_, 0, rfl, Nat.zero_le _, by simp, fun j x hj => by
    have hj0 : j = 0 := by have := (List.getElem?_eq_some_iff.1 hj).1; simp at this; omega
    subst hj0
    cases hj
    rw [(Boxed.new w 5 (.int .u8 (n : Int))).cell]
    have : (UInt8.ofNat n).toNat = n := by rw [UInt8.toNat_ofNat']; omega
    rw [bv, this]⟩⟩
  exact run_string (P := Tryz.prog) 35 5 9 Tryz.underlying35 Tryz.underlying5 Tryz.underlying9 _ hv

/-- The cells of a row of strings, wherever it lies. -/
theorem textCells {lo : Nat} {W : World} {v : Value} {zs : List ByteArray} {n : Nat} (hn : zs.length = n) (h0 : 0 < n) (h : W.ownsRow lo 9 1 v n (zs.map tv)) :
    ∃ g c, v = .slice (some ⟨g, 0, none⟩) n c ∧ g < W.heap.size ∧ ∀ k x, zs[k]? = some x → W.cell? ⟨g, k, none⟩ = some (.string x) := by
  obtain ⟨m, rfl⟩ : ∃ m, n = m + 1 := ⟨n - 1, by omega⟩
  exact textRow hn h
theorem tv_cells (zs : List ByteArray) : ∀ x ∈ zs.map tv, x.oneCell' = true := fun x hx => by
  obtain ⟨y, _, rfl⟩ := List.mem_map.1 hx
  rfl

set_option maxRecDepth 100000 in
set_option maxHeartbeats 4000000 in
theorem refSig_any (s : ByteArray) (hs : s.size ≤ 140737488352000) (n : Nat) (hn : n < 8) (l : List UInt8) (tx : Value) (w : World) (hreach : l.length ≤ 140737488353000) (htx : BSl 0 w.heap.size w tx l) :
    Calls Tryz.prog 18 #[.string s, .int .i64 (n : Int), tx] w fun e W' => e = .returned (.string (sigB s n l)) ∧ Below w.heap.size w W' := by
  obtain ⟨i0, hi, hz0, hz1, hz2⟩ := info_parts Tryz.infoStr
  have hp : Hid (sigB s n l = oneB n ++ catL (sigL s n l)) := Lib.hid rfl
  have HSL := Lib.hid (show sigL s n l = signL s (lfN (n : Int)) l ++ pathL s (n : Int) by rw [lfN_small (by omega)]; rfl)
  have HN := Lib.hid hn
  have HPL := Lib.hid (pathL_length (s := s) hn)
  have HGL := Lib.hid (sigL_length (s := s) l hn)
  have hn7 : (n : Int) ≤ 7 := by omega
  have hwr : IntKind.u8.wrap (n : Int) = (n : Int) := by rw [IntKind.wrap_u8]; omega
  have hcv := one_conv w n (by omega)
  have htx0 := htx
  obtain ⟨ta, tc, rfl⟩ := bsl_slice htx
  have hb0 : Below w.heap.size w (w.alloc (.cells #[.int .u8 (n : Int)] 5)) := chain0 _ _
  have h1 := oneB_size n
  have H1 := Lib.hid h1
  clear htx h1
  generalize oneB n = o1 at *
  go_enter Tryz.func18, Tryz.ntmps18
  go_wp2_with fail
  generalize World.alloc _ _ = w1 at *
  have htx1 := (htx0.below hb0 (Nat.le_refl _)).mono (Nat.le_refl _) hb0.size
  clear htx0 hcv hwr
  refine (refParts_any s hs (n : Int) l _ _ hreach htx1).mono ?_
  rintro e w2 ⟨v2, rfl, hown2, hb2⟩
  clear htx1
  have hB2 := hb0.trans (hb2.mono hb0.size)
  have hown2' := own_base hown2 hb0.size
  clear hown2
  obtain ⟨g2, c2, rfl⟩ := ownsRow_succ hown2'
  go_wp2_with fail
  refine (refPath_any s hs (n : Int) _).mono ?_
  rintro e w3 ⟨v3, rfl, hown3, hb3⟩
  rw [HPL.out] at hown3
  obtain ⟨g3, c3, rfl, hg3, hc3⟩ := textCells HPL.out (by omega) hown3
  have hown4 := own_below hown2' hb3
  have hB3 := hB2.trans (hb3.mono hB2.size)
  have hNW := hB3.size
  have HC3 := Lib.hid hc3
  clear hown2' hown3 hc3 hb2 hb3 hb0
  generalize signL s (lfN (n : Int)) l = gs at *
  generalize pathL s (n : Int) = ps at *
  have hadd : ∀ (g j : Nat), (⟨g, 0, none⟩ : Addr).add j = ⟨g, j, none⟩ := fun g j => by cases j <;> simp [Addr.add]
  have HA := Lib.hid hadd
  clear hadd
  go_wp2_with (at_builtin; refine wpList_append_own _ rfl _ _ 77 rfl w.heap.size 9 i0 (.string ⟨#[]⟩) 1 16 Tryz.underlying77 hi hz0 hz1 hz2 rfl (by decide) (.slice (some ⟨g2, 0, none⟩) 15 c2) 15 (gs.map tv) rfl hown4 ⟨g3, 0, none⟩ 3 c3 (ps.map tv) rfl (by rw [List.length_map, HPL.out]) (fun j u hj => by rw [HA.out]; rw [List.getElem?_map] at hj; obtain ⟨y, hy, rfl⟩ := Option.map_eq_some_iff.1 hj; exact HC3.out j y hy) (tv_cells ps) (by unfold maxLen; omega) (by omega) hNW ?_; intro v' w4 hown' hgrow _)
  have hB4 : Below w.heap.size w w4 := hB3.grown hgrow hNW (fun j hj => (World.ownsRow.lt hown4 j hj).1)
  rw [← List.map_append, ← HSL.out] at hown'
  have hM := fun x (h : x ∈ sigL s n l) => Nat.le_of_eq (sigL_size h)
  have HM := Lib.hid hM
  clear hown4 hgrow hB3 hNW hg3 hM
  obtain ⟨g, c, rfl, hg, hcell⟩ := textCells HGL.out (by omega) hown'
  have HC := Lib.hid hcell
  clear hcell hown'
  generalize sigL s n l = Z at *
  go_loopw [7, 9] (fun v i wr => ∃ k : Nat, k ≤ 18 ∧ i = .int .i64 (k : Nat) ∧ v = .string (o1 ++ catL (Z.take k)) ∧ wr = w4) (fun _ i _ => 18 - (intOf i).toNat)
  case atStart => exact ⟨0, by omega, rfl, by rw [List.take_zero, show catL [] = ByteArray.empty from rfl, ByteArray.append_empty], rfl⟩
  case round =>
    obtain ⟨k, hk, rfl, rfl, rfl⟩ := hrel
    by_cases hlt : k < 18
    · obtain ⟨x, hx⟩ : ∃ x, Z[k]? = some x := ⟨_, List.getElem?_eq_getElem (by rw [HGL.out]; exact hlt)⟩
      have c0 := HC.out k x hx
      have hxs := HM.out x (List.mem_of_getElem? hx)
      have HK := Lib.hid (catL_take hx)
      have hcs := catL_le (Z.take k) 8 (fun y hy => HM.out y (List.mem_of_mem_take hy))
      rw [List.length_take, HGL.out] at hcs
      have hadd : ¬ 9223372036854775807 < (o1 ++ catL (Z.take k)).size + x.size := by rw [ByteArray.size_append, H1.out]; omega
      have hass : o1 ++ catL (Z.take k) ++ x = o1 ++ (catL (Z.take k) ++ x) := ByteArray.append_assoc
      have HAS := Lib.hid hass
      have hlt' : (k : Int) < 18 := by omega
      have HLT := Lib.hid hlt
      clear hx hcs hlt hk hass
      generalize catL (Z.take k) = cs at *
      generalize o1 ++ cs = ocs at *
      go_wp2_with fail
      go_roundw
      case rel => exact ⟨k + 1, HLT.out, by simp, by rw [HK.out, ← HAS.out], trivial⟩
      case measure => have := HLT.out; simp [intOf]; omega
    · obtain rfl : k = 18 := by omega
      rw [List.take_of_length_le (by rw [HGL.out]; omega)]
      go_wp2
      go_ret
      exact ⟨by rw [hp.out]; rfl, hB4⟩
end Go.Proofs.YtiibeahgleaonaaGreat

namespace Go.Proofs.YtiibeahgleaonaaGreat
open Go.RowKit Go.Shelf

theorem sigB_size {s : ByteArray} {n : Nat} {l : List UInt8} (hn : n < 8) : (sigB s n l).size = 145 := by
  have h1 : ∀ zs : List ByteArray, (∀ x ∈ zs, x.size = 8) → (catL zs).size = zs.length * 8 := fun zs h => by
    have e : (catL zs).size = (catL zs).data.toList.length := rfl
    rw [e, catL_list]
    clear e
    induction zs with
    | nil => rfl
    | cons x zs ih =>
      rw [List.map_cons, List.flatten_cons, List.length_append, ih (fun y hy => h y (List.mem_cons_of_mem _ hy)), List.length_cons]
      have : x.data.toList.length = 8 := h x List.mem_cons_self
      omega
  have h2 := h1 (sigL s n l) (fun x hx => sigL_size hx)
  rw [sigL_length l hn] at h2
  unfold sigB
  rw [ByteArray.size_append, oneB_size, h2]
theorem sigB_list (s : ByteArray) (n : Nat) (l : List UInt8) : (sigB s n l).data.toList = UInt8.ofNat n :: ((sigL s n l).map fun x => x.data.toList).flatten := by
  unfold sigB
  rw [ByteArray.data_append, Array.toList_append, catL_list]
  generalize List.flatten _ = X
  rfl
theorem leafN_list {g : ByteArray} {c : UInt8} {r : List UInt8} (h : g.data.toList = c :: r) : leafN g = c.toNat := by
  have hs : 0 < g.size := by
    have h1 : g.data.toList.length = g.size := rfl
    rw [h, List.length_cons] at h1
    omega
  rw [leafN_of hs]
  have h2 : g.data.toList[0]? = some c := by rw [h]; rfl
  have h3 : g.data.toList[0]? = some g[0] := by
    rw [List.getElem?_eq_getElem (by simpa using hs)]
    rfl
  rw [h3] at h2
  rw [Option.some.inj h2]
theorem sigB_leaf {s : ByteArray} {n : Nat} {l : List UInt8} (hn : n < 8) : leafN (sigB s n l) = n := by
  rw [leafN_list (sigB_list s n l), UInt8.toNat_ofNat']
  omega
theorem flat_piece (zs : List (List UInt8)) (h : ∀ x ∈ zs, x.length = 8) (k : Nat) (x : List UInt8) (hx : zs[k]? = some x) : (zs.flatten.drop (8 * k)).take 8 = x := by
  induction zs generalizing k with
  | nil => simp at hx
  | cons z zs ih =>
    have hz := h z List.mem_cons_self
    cases k with
    | zero =>
      cases hx
      rw [List.flatten_cons, Nat.mul_zero, List.drop_zero, List.take_append_of_le_length (by omega), List.take_of_length_le (by omega)]
    | succ k =>
      rw [List.flatten_cons, show 8 * (k + 1) = 8 + 8 * k by omega, ← List.drop_drop, List.drop_append_of_le_length (by omega), List.drop_of_length_le (l := z) (by omega), List.nil_append]
      exact ih (fun y hy => h y (List.mem_cons_of_mem _ hy)) k hx
theorem sigB_cut {s : ByteArray} {n : Nat} {l : List UInt8} (hn : n < 8) : cutL (sigB s n l) = sigL s n l := by
  apply List.ext_getElem?
  intro k
  by_cases hk : k < 18
  · obtain ⟨x, hx⟩ : ∃ x, (sigL s n l)[k]? = some x := ⟨_, List.getElem?_eq_getElem (by rw [sigL_length l hn]; exact hk)⟩
    rw [hx]
    unfold cutL upto
    rw [List.getElem?_map, List.getElem?_range hk]
    show some (pieceB (sigB s n l) k) = some x
    rw [pieceB_of (by rw [sigB_size hn]; omega)]
    congr 1
    apply ByteArray.ext
    apply Array.toList_inj.1
    simp only [ByteArray.data_extract, Array.toList_extract, List.extract_eq_take_drop]
    rw [sigB_list, show 1 + 8 * k = 8 * k + 1 by omega, List.drop_succ_cons, show 9 + 8 * k - (8 * k + 1) = 8 by omega]
    exact flat_piece _ (fun y hy => by obtain ⟨z, hz, rfl⟩ := List.mem_map.1 hy; exact sigL_size hz) k _ (by rw [List.getElem?_map, hx]; rfl)
  · rw [List.getElem?_eq_none (by rw [cutL_length]; omega), List.getElem?_eq_none (by rw [sigL_length l hn]; omega)]
theorem climb_node (s : ByteArray) (n : Nat) (hn : n < 8) : ∀ k ≤ 3, climbB n (upto (pathF s n) 3) (publicB s n) k = nodeB s k (n / 2 ^ k)
  | 0, _ => by rw [Nat.pow_zero, Nat.div_one]; rfl
  | k + 1, hk => by
    have hp : (upto (pathF s n) 3).getD k ⟨#[]⟩ = nodeB s k (sibN n k) := by
      unfold upto
      rw [List.getD, List.getElem?_map, List.getElem?_range (by omega)]
      rfl
    have hq : n / 2 ^ (k + 1) = n / 2 ^ k / 2 := by rw [Nat.div_div_eq_div_mul, ← Nat.pow_succ]
    rw [climbB, climb_node s n hn k (by omega), hp, hq, nodeB]
    unfold sibN
    generalize n / 2 ^ k = q
    by_cases h : q % 2 = 0
    · rw [if_pos h, if_pos h]
      congr 2 <;> omega
    · rw [if_neg h, if_neg h]
      congr 2 <;> omega
/-- What is signed leads to the root. -/
theorem sigB_top {s : ByteArray} {n : Nat} {l : List UInt8} (hn : n < 8) : topB l (sigB s n l) = rootB s := by
  unfold topB
  rw [sigB_leaf hn, sigB_cut hn]
  have h1 : (sigL s n l).take 15 = signL s n l := by unfold sigL; rw [List.take_append_of_le_length (by rw [signL_length]; omega), List.take_of_length_le (by rw [signL_length]; omega)]
  have h2 : (sigL s n l).drop 15 = upto (pathF s n) 3 := by unfold sigL; rw [List.drop_append_of_le_length (by rw [signL_length]; omega), List.drop_of_length_le (by rw [signL_length]; omega), List.nil_append, pathL_some hn]
  rw [h1, h2, open_sign, climb_node s n hn 3 (by omega)]
  unfold rootB
  congr 1
  omega
end Go.Proofs.YtiibeahgleaonaaGreat

namespace Go.Proofs.YtiibeahgleaonaaGreat
open Go.RowKit Go.Shelf

/-- The signature g of the octets l leads to the root. -/
def verB (root : ByteArray) (l : List UInt8) (g : ByteArray) : Bool := decide (g.size = 145 ∧ leafN g < 8 ∧ topB l g = root)
def VerB (b : Bool) (w : World) (e : Ending) (W' : World) : Prop := ∃ n : Int, e = .returned (.tuple #[.int .i64 n, .bool b]) ∧ Below w.heap.size w W'
theorem verifyB_any (root : ByteArray) (l : List UInt8) (tx : Value) (g : ByteArray) (hreach : l.length ≤ 140737488353000) (w : World) (htx : BSl 0 w.heap.size w tx l) :
    Calls Tryz.prog 36 #[.string root, tx, .string g] w (VerB (verB root l g) w) := by
  by_cases hg : g.size = 145
  · by_cases h8 : leafN g < 8
    · by_cases ht : topB l g = root
      · rw [show verB root l g = true from decide_eq_true ⟨hg, h8, ht⟩]
        exact (verify_top root l tx g hg h8 w hreach htx true ⟨fun _ => ht, fun _ => rfl⟩).mono fun e W' h => ⟨_, h.1, h.2⟩
      · rw [show verB root l g = false from decide_eq_false fun h => ht h.2.2]
        exact (verify_top root l tx g hg h8 w hreach htx false ⟨fun h => (by cases h), fun h => absurd h ht⟩).mono fun e W' h => ⟨_, h.1, h.2⟩
    · rw [show verB root l g = false from decide_eq_false fun h => h8 h.2.1]
      exact (verify_leaf root tx g hg (by omega) w).mono fun e W' h => ⟨_, h.1, h.2⟩
  · rw [show verB root l g = false from decide_eq_false fun h => hg h.1]
    exact (verify_long root tx g hg w).mono fun e W' h => ⟨_, h.1, h.2⟩
theorem refVerifyB_any (root : ByteArray) (l : List UInt8) (tx : Value) (g : ByteArray) (hreach : l.length ≤ 140737488353000) (w : World) (htx : BSl 0 w.heap.size w tx l) :
    Calls Tryz.prog 37 #[.string root, tx, .string g] w (VerB (verB root l g) w) := by
  by_cases hg : g.size = 145
  · by_cases h8 : leafN g < 8
    · by_cases ht : topB l g = root
      · rw [show verB root l g = true from decide_eq_true ⟨hg, h8, ht⟩]
        exact (refVerify_top root l tx g hg h8 w hreach htx true ⟨fun _ => ht, fun _ => rfl⟩).mono fun e W' h => ⟨_, h.1, h.2⟩
      · rw [show verB root l g = false from decide_eq_false fun h => ht h.2.2]
        exact (refVerify_top root l tx g hg h8 w hreach htx false ⟨fun h => (by cases h), fun h => absurd h ht⟩).mono fun e W' h => ⟨_, h.1, h.2⟩
    · rw [show verB root l g = false from decide_eq_false fun h => h8 h.2.1]
      exact (refVerify_leaf root tx g hg (by omega) w).mono fun e W' h => ⟨_, h.1, h.2⟩
  · rw [show verB root l g = false from decide_eq_false fun h => hg h.1]
    exact (refVerify_long root tx g hg w).mono fun e W' h => ⟨_, h.1, h.2⟩
/-- What is signed is verified. -/
theorem verB_sign {s : ByteArray} {n : Nat} {l : List UInt8} (hn : n < 8) : verB (rootB s) l (sigB s n l) = true :=
  decide_eq_true ⟨sigB_size hn, by rw [sigB_leaf hn]; exact hn, sigB_top hn⟩
end Go.Proofs.YtiibeahgleaonaaGreat
