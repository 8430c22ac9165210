/-
  The reference's Cat and Pad.
-/
import Derived.Test.YtneilnfjnbecbaaPad
import Derived.Test.YtneilnfjnbecbaaRefNum
namespace Go.Proofs.Ytneilnfjnbecbaa
open Go.RowKit Go.Shelf

set_option maxRecDepth 100000 in
set_option maxHeartbeats 2000000 in
theorem refCat_any (l1 l2 : List UInt8) (s1 s2 : Value) (w : World) {lo1 lo2 : Nat} (hreach : l1.length + l2.length ≤ 140737488355328) (h1 : BSl lo1 w.heap.size w s1 l1) (h2 : BSl lo2 w.heap.size w s2 l2) :
    Calls Try.prog 68 #[s1, s2] w (ByO (l1 ++ l2) w) := by
  obtain ⟨i0, hi, hz0, hz1, hz2⟩ := info_parts Try.infoByte
  have h1' := h1
  have h2' := h2
  obtain ⟨a1, c1, rfl, _⟩ := h1'
  obtain ⟨a2, c2, rfl, _⟩ := h2'
  generalize hn1 : l1.length = n1 at *
  generalize hn2 : l2.length = n2 at *
  have HN1 := Lib.hid hn1
  have HN2 := Lib.hid hn2
  clear hn1 hn2
  go_enter Try.func68, Try.ntmps68
  go_wp2_with (first
    | (at_builtin; refine wpList_append_b _ rfl _ _ 22 rfl w.heap.size 5 i0 (.int .u8 0) Try.underlying22 hi hz0 hz1 hz2 rfl _ 0 [] rfl (World.ownsRow_lit w #[] 0 (Nat.le_refl _) (by unfold maxLen; omega) rfl) _ l1 rfl (h1.below ((Below.refl w.heap.size w).alloc (Nat.le_refl _) _) (Nat.le_refl _)) (by rw [HN1.out]; omega) (by simp) ?_; intro v' w1 hown' hgrow; (have hb1 : Below w.heap.size w w1 := (chain0 w _).grown hgrow (by simp) (fun k e => by have : w.heap.size = k := Option.some.inj e; omega)); have h21 := h2.below hb1 (Nat.le_refl _); rw [Nat.zero_add, List.nil_append] at hown')
    | (at_builtin; refine wpList_append_b _ rfl _ _ 22 rfl w.heap.size 5 i0 (.int .u8 0) Try.underlying22 hi hz0 hz1 hz2 rfl _ l1.length (l1.map bv) rfl hown' _ l2 rfl h21 (by rw [HN1.out, HN2.out]; omega) hb1.size ?_; intro v2 w2 hown2 hgrow2))
  go_ret
  refine ⟨_, rfl, ?_, hb1.grown hgrow2 hb1.size (fun j hj => (World.ownsRow.lt hown' j hj).1)⟩
  rw [List.length_append, List.map_append]
  exact hown2

def slLen : Value → Nat
  | .slice _ n _ => n
  | _ => 0
/-- Behind the text and its mark: j zeros. -/
def midL (l : List UInt8) (j : Nat) : List UInt8 := l ++ [128] ++ List.replicate j 0
theorem midL_length (l : List UInt8) (j : Nat) : (midL l j).length = l.length + 1 + j := by simp [midL]; omega
theorem midL_succ (l : List UInt8) (j : Nat) : midL l (j + 1) = midL l j ++ [0] := by
  unfold midL; rw [List.replicate_succ', ← List.append_assoc]

theorem own_below4 {W W' : World} {base : Nat} {e : TypeId} {size k : Nat} {v : Value} {xs : List Value} (h : W.ownsRow base e size v k xs) (hb : Below W.heap.size W W') : W'.ownsRow base e size v k xs := by
  obtain ⟨h1, h2⟩ := h
  refine ⟨h1, ?_⟩
  rcases h2 with h2 | ⟨g, cap, cur, rfl, hg, hh, r⟩
  · exact .inl h2
  · exact .inr ⟨g, cap, cur, rfl, hg, (hb.block g (Array.getElem?_eq_some_iff.1 hh).1).trans hh, r⟩
set_option maxRecDepth 100000 in
set_option maxHeartbeats 2000000 in
theorem refPad_any (l : List UInt8) (sv : Value) (w : World) (hreach : l.length ≤ 140737488353000) (hsv : BSl 0 w.heap.size w sv l) :
    Calls Try.prog 66 #[sv] w (ByO (padL l) w) := by
  obtain ⟨i0, hi, hz0, hz1, hz2⟩ := info_parts Try.infoByte
  have hsv0 := hsv
  obtain ⟨a, cap, rfl, hcap, hcs⟩ := hsv
  clear hcs
  go_enter Try.func66, Try.ntmps66
  go_wp2_with fail
  have hb0 : Below w.heap.size w (w.alloc (.cells #[.int .u8 128] 5)) := chain0 _ _
  have hm : BSl 0 (w.alloc (.cells #[.int .u8 128] 5)).heap.size (w.alloc (.cells #[.int .u8 128] 5)) (.slice (some ⟨w.heap.size, 0, none⟩) 1 1) [128] := ⟨_, 1, rfl, Nat.le_refl _, .inr ⟨_, 0, rfl, Nat.zero_le _, by simp, fun k x hx => by
    have hk : k = 0 := by have := (List.getElem?_eq_some_iff.1 hx).1; simp at this; omega
    subst hk
    have hc := (Blk.new' (t := 5) (vs := [.int .u8 128]) (rfl : w.heap.size = w.heap.size)).cell 0
    refine hc.trans ?_
    simp at hx
    subst hx
    rfl⟩⟩
  refine (refCat_any l [128] _ _ _ (by simp; omega) ((hsv0.below hb0 (Nat.le_refl _)).mono (Nat.le_refl _) hb0.size) hm).mono ?_
  rintro e w1 ⟨v, rfl, hown, hb1⟩
  replace hb1 := chain hb0 hb1
  replace hown := own_base4 (base' := w.heap.size) hown (by simp)
  clear hm hb0
  go_wp2_with fail
  go_loopw [3] (fun v wr => ∃ j : Nat, j ≤ 63 - (l.length + 8) % 64 ∧ wr.ownsRow w.heap.size 5 1 v (l.length + 1 + j) ((midL l j).map bv) ∧ Below w.heap.size w wr) (fun v _ => l.length + 65 - slLen v)
  case atStart => exact ⟨0, by omega, by simpa [midL] using hown, hb1⟩
  clear hown hb1
  case round =>
    obtain ⟨j, hj, hown, hB⟩ := hrel
    obtain ⟨va, vc, rfl⟩ := ownsRow_slice hown
    have hNW : w.heap.size ≤ wr.heap.size := hB.size
    have HM := Lib.hid (midL_succ l j)
    generalize hn : l.length + 1 + j = n at *
    have hn63 : (n : Int) ≤ 9223372036854775807 := by omega
    by_cases hlt : j < 63 - (l.length + 8) % 64
    · have h56 : ¬ ((n : Int) % 64 = 56) := by omega
      have h56' : ((n : Int) % 64 == 56) = false := by simpa using h56
      have HN := Lib.hid hn
      clear hn
      go_wp2_with (at_builtin; refine wpList_append_own _ rfl _ _ 22 rfl w.heap.size 5 i0 (.int .u8 0) 1 1 Try.underlying22 hi hz0 hz1 hz2 rfl (by decide) _ n ((midL l j).map bv) rfl (hown.alloc _) ⟨wr.heap.size, 0, none⟩ 1 1 [bv 0] rfl rfl (cell_one_new _ _ _) (by simp [Value.oneCell']) (by unfold maxLen; have := HN.out; omega) (by have := HN.out; omega) (by simp; omega) ?_; intro v' w1 hown' hgrow _)
      have hbw : Below w.heap.size wr w1 := ((Below.refl w.heap.size wr).alloc hNW _).grown hgrow (by simp; omega) (fun k e => (World.ownsRow.lt hown k e).1)
      refine ⟨⟨j + 1, by omega, ?_, hB.trans hbw⟩, by have := HN.out; show l.length + 65 - slLen v' < l.length + 65 - n; obtain ⟨_, _, rfl⟩ := ownsRow_slice hown'; show l.length + 65 - (n + 1) < _; omega⟩
      rw [HM.out, List.map_append, show l.length + 1 + (j + 1) = n + 1 by have := HN.out; omega]
      exact hown'
    · obtain rfl : j = 63 - (l.length + 8) % 64 := by omega
      have h56 : (n : Int) % 64 = 56 := by omega
      have H56 := Lib.hid h56
      have h56' : ((n : Int) % 64 == 56) = true := by simpa using h56
      have HN := Lib.hid hn
      clear hn h56
      go_wp2_with fail
      refine (refNum_any (8 * (l.length : Int)) 8 (by omega) (by omega) _).mono ?_
      rintro e w2 ⟨s4, rfl, hs4, hb2⟩
      rw [show clamp 8 = 8 from rfl, show (8 * (l.length : Int)) = ((l.length * 8 : Nat) : Int) by omega] at hs4
      have hown2 := own_below4 hown hb2
      have hbs : BSl 0 w2.heap.size w2 (.slice va n vc) (midL l (63 - (l.length + 8) % 64)) := by
        have hq := hown2
        rw [show n = (midL l (63 - (l.length + 8) % 64)).length by rw [midL_length]; exact HN.out.symm] at hq ⊢
        exact (BSl.of_own hq).mono (Nat.zero_le _) (Nat.le_refl _)
      have hL4 := hs4.mono (Nat.zero_le _) (Nat.le_refl _)
      obtain ⟨a4, c4, rfl, _⟩ := hs4
      have hlen : (midL l (63 - (l.length + 8) % 64)).length + (octs (two ((l.length * 8 : Nat) : Int)) 8).length ≤ 140737488355328 := by
        rw [midL_length, octs_length]; omega
      go_wp2_with fail
      refine (refCat_any _ _ _ _ _ hlen hbs hL4).mono ?_
      rintro e w3 ⟨sv, rfl, hown3, hb3⟩
      go_wp2_with fail
      go_ret
      exact ⟨sv, rfl, own_base4 hown3 (Nat.le_trans hNW hb2.size), hB.trans ((hb2.mono hNW).trans (hb3.mono (Nat.le_trans hNW hb2.size)))⟩
end Go.Proofs.Ytneilnfjnbecbaa
