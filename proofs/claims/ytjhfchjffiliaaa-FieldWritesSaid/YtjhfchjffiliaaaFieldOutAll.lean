/-
  All fields, written.
-/
import Derived.Test.YtjhfchjffiliaaaFieldL
import Derived.Test.YtjhfchjffiliaaaFieldOut
namespace Go.Proofs.Ytjhfchjffiliaaa
open Go.RowKit Go.Shelf

set_option maxRecDepth 100000 in
set_option maxHeartbeats 2000000 in
theorem out_any (l : List Fld) (sv : Value) (w : World) (hsl : FSl w sv l) :
    Calls Try.prog 8 #[sv] w (ToldS (allS l) w) := by
  obtain ⟨a, cap, rfl, hm, hok, h0⟩ := hsl
  go_enter Try.func8, Try.ntmps8
  go_wp2_with (go_at_call 29; refine (outNew_any w).mono ?_; rintro e w1 ⟨rfl, hz1, hO1, hb1⟩; have HZ := Lib.hid hz1; clear hz1)
  go_loopw [5] (fun i wr => ∃ k : Nat, k ≤ l.length ∧ i = .int .i64 k ∧ ObjP 58 wr (some ⟨w.heap.size, 0, none⟩) (allS (l.take k)) ∧ Below w.heap.size w wr) (fun i _ => l.length - (intOf i).toNat)
  case atStart => exact ⟨0, by omega, rfl, hO1, hb1⟩
  case round =>
    obtain ⟨k, hk, rfl, hO, hB⟩ := hrel
    by_cases hlt : k < l.length
    · obtain ⟨f, hf⟩ : ∃ f, l[k]? = some f := ⟨_, List.getElem?_eq_getElem hlt⟩
      obtain ⟨b, off, rfl, hbw, hr⟩ := h0.resolve_left (by intro e; rw [e] at hlt; simp at hlt)
      have HF := Lib.hid (allS_snoc hf)
      have hokf := hok f (List.mem_of_getElem? hf)
      obtain ⟨x0, x1, x2, x3, x4, x5, x6⟩ := (hr.below hB hbw).at hf
      have w4 := hokf.w4
      have HOK := Lib.hid hok
      have HFF := Lib.hid hf
      clear hf hok hokf
      generalize hL : l.length = L at *
      have HL := Lib.hid hL
      clear hL
      have hlt' : (k : Int) < (L : Int) := by omega
      rcases kindF_cases f.k with hk0 | hk0 | hk0
      · have HS : Hid (stepS (allS (l.take k)) f = numS (allS (l.take k)) f.n) := by rw [stepS, if_pos hk0]; exact Lib.hid rfl
        have HK := Lib.hid hk0
        clear hk0
        go_wp2_with (first
          | (go_at_call 14; refine (kind_any f _).mono ?_; rw [HK.out]; rintro e w2 ⟨rfl, hb2⟩; have x1' := (hb2.cell (p := ⟨b, off + k * 7 + 1, none⟩) (Nat.lt_of_lt_of_le hbw hB.size)).trans x1)
          | (go_at_call 25; refine (outNum_any f.n _ (hO.below hb2)).mono ?_; rintro e w3 ⟨rfl, hO3, hG3⟩))
        go_roundw
        case rel => exact ⟨k + 1, by omega, by go_num, by rw [HF.out, HS.out]; exact hO3, (chain hB hb2).grown hG3 (Nat.le_trans hB.size hb2.size) (fun j e => by cases e; exact Nat.le_refl _)⟩
        case measure => simp [intOf]; omega
      · have HS : Hid (stepS (allS (l.take k)) f = txtS (allS (l.take k)) f.t) := by rw [stepS, if_neg (by omega), if_pos hk0]; exact Lib.hid rfl
        have HK := Lib.hid hk0
        clear hk0
        go_wp2_with (first
          | (go_at_call 14; refine (kind_any f _).mono ?_; rw [HK.out]; rintro e w2 ⟨rfl, hb2⟩; have x2' := (hb2.cell (p := ⟨b, off + k * 7 + 2, none⟩) (Nat.lt_of_lt_of_le hbw hB.size)).trans x2)
          | (go_at_call 26; refine (outText_any f.t _ (hO.below hb2)).mono ?_; rintro e w3 ⟨rfl, hO3, hG3⟩))
        go_roundw
        case rel => exact ⟨k + 1, by omega, by go_num, by rw [HF.out, HS.out]; exact hO3, (chain hB hb2).grown hG3 (Nat.le_trans hB.size hb2.size) (fun j e => by cases e; exact Nat.le_refl _)⟩
        case measure => simp [intOf]; omega
      · have HS : Hid (stepS (allS (l.take k)) f = wideS (allS (l.take k)) f.a0 f.a1 f.a2 f.a3) := by rw [stepS, if_neg (by omega), if_neg (by omega)]; exact Lib.hid rfl
        have HK := Lib.hid hk0
        clear hk0
        go_wp2_with (first
          | (go_at_call 14; refine (kind_any f _).mono ?_; rw [HK.out]; rintro e w2 ⟨rfl, hb2⟩; have x3' := (hb2.cell (p := ⟨b, off + k * 7 + 3, none⟩) (Nat.lt_of_lt_of_le hbw hB.size)).trans x3; have x4' := (hb2.cell (p := ⟨b, off + k * 7 + 4, none⟩) (Nat.lt_of_lt_of_le hbw hB.size)).trans x4; have x5' := (hb2.cell (p := ⟨b, off + k * 7 + 5, none⟩) (Nat.lt_of_lt_of_le hbw hB.size)).trans x5; have x6' := (hb2.cell (p := ⟨b, off + k * 7 + 6, none⟩) (Nat.lt_of_lt_of_le hbw hB.size)).trans x6)
          | (go_at_call 27; refine (outWide_any w4 _ (hO.below hb2)).mono ?_; rintro e w3 ⟨rfl, hO3, hG3⟩))
        go_roundw
        case rel => exact ⟨k + 1, by omega, by go_num, by rw [HF.out, HS.out]; exact hO3, (chain hB hb2).grown hG3 (Nat.le_trans hB.size hb2.size) (fun j e => by cases e; exact Nat.le_refl _)⟩
        case measure => simp [intOf]; omega
    · obtain rfl : k = l.length := by omega
      rw [List.take_length] at hO
      generalize hL : l.length = L at *
      have HL := Lib.hid hL
      clear hL
      go_wp2_with (go_at_call 28; refine (outDone_any _ hO).mono ?_; rintro e w2 ⟨v, rfl, hv, hb2⟩)
      go_ret2
      exact ⟨v, rfl, hv, chain hB hb2⟩
end Go.Proofs.Ytjhfchjffiliaaa
