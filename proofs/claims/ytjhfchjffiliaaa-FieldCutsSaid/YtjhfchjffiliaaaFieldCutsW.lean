/-
  The walk of FieldCuts: a beginning of fields' octets that is shorter has not all fields.
-/
import Derived.Test.YtjhfchjffiliaaaFieldBackF
import Derived.Test.YtjhfchjffiliaaaFieldOutAll
import Derived.Test.YtjhfchjffiliaaaFieldAlive
namespace Go.Proofs.Ytjhfchjffiliaaa
open Go.RowKit Go.Shelf

theorem bsl_head {lo hi : Nat} {W : World} {a : Option Addr} {n c : Nat} {l : List UInt8} (h : BSl lo hi W (.slice a n c) l) {k : Nat} (hk : k ≤ l.length) : BSl lo hi W (.slice a k c) (l.take k) := by
  obtain ⟨a', c', e, hc, h0⟩ := bsl_take h hk
  obtain ⟨_, _, e2, hc2, _⟩ := h
  cases e2
  obtain ⟨rfl, e3, rfl⟩ := Value.slice.inj e
  exact ⟨_, c, by rw [← e3], by omega, h0⟩
theorem encL_drop' {l : List Fld} {k : Nat} {f : Fld} (h : l[k]? = some f) : encL (l.drop k) = encF f ++ encL (l.drop (k + 1)) := by
  obtain ⟨hk, e⟩ := List.getElem?_eq_some_iff.1 h
  rw [List.drop_eq_getElem_cons hk, encL_cons, e]
theorem cutNum {p : Option Addr} {s : St} {f : Fld} (hk : kindF f.k = 0) (w : World) (h : ObjP 61 w p s) :
    Calls Try.prog 16 #[.pointer p, .int .i64 1099511627776] w fun e W' => (∃ n : Nat, e = .returned (.int .i64 (n : Nat))) ∧ ObjP 61 W' p (rdS s f) ∧ w.grownBy W' (p.map (·.block)) := by
  refine (inNumP_any 1099511627776 1099511627776 (Or.inr ⟨by omega, rfl⟩) w h).mono ?_
  rintro e W' ⟨rfl, hO, hG⟩
  exact ⟨⟨_, rfl⟩, by unfold rdS; rw [if_pos hk]; exact hO, hG⟩
theorem cutText {p : Option Addr} {s : St} {f : Fld} (hk : kindF f.k = 1) (w : World) (h : ObjP 61 w p s) :
    Calls Try.prog 18 #[.pointer p, .int .i64 1024] w fun e W' => (∃ t : ByteArray, e = .returned (.string t)) ∧ ObjP 61 W' p (rdS s f) ∧ w.grownBy W' (p.map (·.block)) := by
  refine (inTextP_any 1024 1024 (Or.inr ⟨by omega, rfl⟩) w h).mono ?_
  rintro e W' ⟨rfl, hO, hG⟩
  exact ⟨⟨_, rfl⟩, by unfold rdS; rw [if_neg (by omega), if_pos hk]; exact hO, hG⟩
theorem cutWide {p : Option Addr} {s : St} {f : Fld} (hk : kindF f.k = 2) (w : World) (h : ObjP 61 w p s) :
    Calls Try.prog 20 #[.pointer p] w fun e W' => (∃ a0 a1 a2 a3 : Nat, e = .returned (wv a0 a1 a2 a3)) ∧ ObjP 61 W' p (rdS s f) ∧ w.grownBy W' (p.map (·.block)) := by
  refine (inWide_any w h).mono ?_
  rintro e W' ⟨rfl, hO, hG⟩
  exact ⟨⟨_, _, _, _, rfl⟩, by unfold rdS; rw [if_neg (by omega), if_neg (by omega)]; exact hO, hG⟩
/-- Where is cut. -/
def cutAt (z : Int) (n : Nat) : Nat := ((Int.tmod z n + n) % n).toNat
theorem cutAt_spec (z : Int) {n : Nat} (h : 0 < n) : ((Int.tmod z n + n) % n : Int) = (cutAt z n : Int) ∧ cutAt z n < n := by
  unfold cutAt
  have h1 := Int.emod_nonneg (Int.tmod z n + n) (b := (n : Int)) (by omega)
  have h2 := Int.emod_lt_of_pos (Int.tmod z n + n) (b := (n : Int)) (by omega)
  omega

set_option maxRecDepth 100000 in
set_option maxHeartbeats 4000000 in
theorem fieldCuts_any (l : List Fld) (sv : Value) (z : Int) (w : World) (hsl : FSl w sv l) :
    Calls Try.prog 7 #[sv, .int .i64 z] w fun e W' => e = .returned (.bool true) ∧ Below w.heap.size w W' := by
  have hsl' := hsl
  obtain ⟨a, cap, rfl, hm, hok, h0⟩ := hsl'
  have HO := Lib.hid (fun w1 h => out_any l (.slice a l.length cap) w1 h)
  by_cases he : (allS l).2 = 0
  · obtain ⟨hE, hA⟩ := allS_zero he
    have hl := (okS_all l).2
    rw [hA] at hl
    have hS : allS l = (encL l, 0) := Prod.ext hA he
    rw [hS] at HO
    clear he hA hS
    by_cases hn0 : encL l = []
    · rw [hn0] at HO
      go_enter Try.func7, Try.ntmps7
      go_wp2_with (first
        | (go_at_call 11; refine (alive_any w).mono ?_; rintro e w1 ⟨rfl, hb1⟩)
        | (go_at_call 8; refine (HO.out _ (hsl.below hb1)).mono ?_; rintro e w2 ⟨v, rfl, hv, hb2⟩; obtain ⟨va, vc, rfl, -⟩ := hv.shape))
      go_ret
      exact ⟨rfl, chain hb1 hb2⟩
    · have hpos : 0 < (encL l).length := List.length_pos_iff.2 hn0
      obtain ⟨hcut, hclt⟩ := cutAt_spec z hpos
      have hS0 : CutS (openS ((encL l).take (cutAt z (encL l).length))) (encL l) := by
        have h1 : ((encL l).take (cutAt z (encL l).length)).length ≤ 8192 := by rw [List.length_take]; omega
        refine .inr ⟨_, (encL l).drop (cutAt z (encL l).length), if_pos h1, List.take_append_drop _ _, fun e => ?_⟩
        have := congrArg List.length e
        rw [List.length_drop] at this
        simp only [List.length_nil] at this
        omega
      have HS0 := Lib.hid hS0
      have HE := Lib.hid hE
      have HN := Lib.hid (fun (W : World) (v : Value) va vc (hv : BSl 0 W.heap.size W (.slice va (encL l).length vc) (encL l)) => bsl_head hv (k := cutAt z (encL l).length) (by omega))
      have hne : ((encL l).length == 0) = false := by simp; omega
      have hlen : ((encL l).take (cutAt z (encL l).length)).length ≤ 140737488351232 := by rw [List.length_take]; omega
      have HLEN := Lib.hid hlen
      clear hS0 hE hn0 hok hlen
      generalize hcN : (encL l).length = n at *
      have HcN := Lib.hid hcN
      clear hcN
      generalize cutAt z n = c at *
      have ht1 : -(n : Int) < Int.tmod z n := Int.lt_tmod_of_pos z (by omega)
      have ht2 : Int.tmod z n < (n : Int) := Int.tmod_lt_of_pos z (by omega)
      obtain ⟨t, hT⟩ : ∃ t, Int.tmod z n = t := ⟨_, rfl⟩
      rw [hT] at hcut ht1 ht2
      have ht3 : 0 ≤ t + (n : Int) := by omega
      have ht4 : t + (n : Int) ≤ 16384 := by omega
      have hcut2 : Int.tmod (t + (n : Int)) n = (c : Int) := by rw [Int.tmod_eq_emod_of_nonneg ht3]; exact hcut
      have hz0 : ((n : Int) == 0) = false := by simp; omega
      have hcle : (c : Int) ≤ (n : Int) := by omega
      go_enter Try.func7, Try.ntmps7
      go_wp2_with (first
        | (go_at_call 11; refine (alive_any w).mono ?_; rintro e w1 ⟨rfl, hb1⟩)
        | (go_at_call 8; refine (HO.out _ (hsl.below hb1)).mono ?_; rintro e w2 ⟨v, rfl, hv, hb2⟩; obtain ⟨va, vc, rfl, hvc⟩ := hv.shape; rw [HcN.out] at hv hvc ⊢))
      refine (inOpen_any ((encL l).take c) (.slice va c vc) w2 HLEN.out (HN.out _ (.slice va n vc) va vc hv)).mono ?_
      rintro e w3 ⟨NB, rfl, hNB, hO3, hb3⟩
      have hB3 := chain (chain hb1 hb2) hb3
      have hNw : w.heap.size ≤ NB := Nat.le_trans (chain hb1 hb2).size hNB
      have hS3 := HS0.out
      generalize openS ((encL l).take c) = s0 at *
      clear hb1 hb2 hb3 hv hNB hsl HO HN HLEN HS0 hcut hcut2 hT ht1 ht2 ht3 ht4 hz0 hne hvc
      go_wp2_with fail
      go_loopw [8] (fun i wr => ∃ k : Nat, k ≤ l.length ∧ i = .int .i64 k ∧ (∃ s, ObjP 61 wr (some ⟨NB, 0, none⟩) s ∧ CutS s (encL (l.drop k))) ∧ Below w.heap.size w wr) (fun i _ => l.length - (intOf i).toNat)
      case atStart => exact ⟨0, by omega, rfl, ⟨s0, hO3, hS3⟩, hB3⟩
      case round =>
        clear hO3 hB3 hS3
        obtain ⟨k, hk, rfl, ⟨s, hO, hC⟩, hB⟩ := hrel
        by_cases hlt : k < l.length
        · obtain ⟨f, hf⟩ : ∃ f, l[k]? = some f := ⟨_, List.getElem?_eq_getElem hlt⟩
          obtain ⟨b, off, rfl, hbw, hr⟩ := h0.resolve_left (by intro e; rw [e] at hlt; simp at hlt)
          have hfe := HE.out f (List.mem_of_getElem? hf)
          obtain ⟨x0, x1, x2, x3, x4, x5, x6⟩ := (hr.below hB hbw).at hf
          rw [encL_drop' hf] at hC
          have HC := Lib.hid (cut_rd hfe hC)
          clear hr h0 hf HE hC hfe
          generalize hL : l.length = L at *
          have HL := Lib.hid hL
          clear hL
          have hlt' : (k : Int) < (L : Int) := by omega
          rcases kindF_cases f.k with hk0 | hk0 | hk0
          · have HK := Lib.hid hk0
            have HD := Lib.hid (fun W h => cutNum (p := some ⟨NB, 0, none⟩) (s := s) (f := f) hk0 W h)
            clear hk0
            go_wp2_with (first
              | (go_at_call 14; refine (kind_any f _).mono ?_; rw [HK.out]; rintro e w4 ⟨rfl, hb4⟩)
              | (go_at_call 16; refine (HD.out _ (hO.below hb4)).mono ?_; rintro e w5 ⟨⟨rn, rfl⟩, hO5, hG5⟩))
            go_roundw
            case rel => exact ⟨k + 1, by omega, by go_num, ⟨_, hO5, HC.out⟩, (chain hB hb4).grown hG5 (chain hB hb4).size (fun j e => by cases e; exact hNw)⟩
            case measure => simp [intOf]; omega
          · have HK := Lib.hid hk0
            have HD := Lib.hid (fun W h => cutText (p := some ⟨NB, 0, none⟩) (s := s) (f := f) hk0 W h)
            clear hk0
            go_wp2_with (first
              | (go_at_call 14; refine (kind_any f _).mono ?_; rw [HK.out]; rintro e w4 ⟨rfl, hb4⟩)
              | (go_at_call 18; refine (HD.out _ (hO.below hb4)).mono ?_; rintro e w5 ⟨⟨rt, rfl⟩, hO5, hG5⟩))
            go_roundw
            case rel => exact ⟨k + 1, by omega, by go_num, ⟨_, hO5, HC.out⟩, (chain hB hb4).grown hG5 (chain hB hb4).size (fun j e => by cases e; exact hNw)⟩
            case measure => simp [intOf]; omega
          · have HK := Lib.hid hk0
            have HD := Lib.hid (fun W h => cutWide (p := some ⟨NB, 0, none⟩) (s := s) (f := f) hk0 W h)
            clear hk0
            go_wp2_with (first
              | (go_at_call 14; refine (kind_any f _).mono ?_; rw [HK.out]; rintro e w4 ⟨rfl, hb4⟩)
              | (go_at_call 20; refine (HD.out _ (hO.below hb4)).mono ?_; rintro e w5 ⟨⟨r0, r1, r2, r3, rfl⟩, hO5, hG5⟩))
            go_roundw
            case rel => exact ⟨k + 1, by omega, by go_num, ⟨_, hO5, HC.out⟩, (chain hB hb4).grown hG5 (chain hB hb4).size (fun j e => by cases e; exact hNw)⟩
            case measure => simp [intOf]; omega
        · obtain rfl : k = l.length := by omega
          rw [List.drop_length] at hC
          have hs := cut_end hC
          subst hs
          clear hC HE h0
          generalize hL : l.length = L at *
          have HL := Lib.hid hL
          clear hL
          go_wp2_with (first
            | (go_at_call 21; refine (inErr_any _ hO).mono ?_; rintro e w' ⟨rfl, rfl⟩)
            | (go_at_call 22; refine (inLeft_any _ hO).mono ?_; rintro e w' ⟨rfl, rfl⟩))
          go_ret
          exact ⟨rfl, hB⟩
  · have hf1 : ((allS l).2 == 0) = false := by simpa using he
    have hf2 : ((allS l).2 != 0) = true := by simpa using he
    clear he
    go_enter Try.func7, Try.ntmps7
    go_wp2_with (first
      | (go_at_call 11; refine (alive_any w).mono ?_; rintro e w1 ⟨rfl, hb1⟩)
      | (go_at_call 8; refine (HO.out _ (hsl.below hb1)).mono ?_; rintro e w2 ⟨v, rfl, hv, hb2⟩; obtain ⟨va, vc, rfl, -⟩ := hv.shape))
    go_ret
    exact ⟨rfl, chain hb1 hb2⟩
end Go.Proofs.Ytjhfchjffiliaaa
