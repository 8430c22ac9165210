/-
  EscrowWhole answers true at every input, and leaves its arguments as they are.
-/
import Derived.Deep.Slices
import Derived.SizedLaws
import Derived.Carry
import Derived.ChangeMaps5
import Derived.Test.YthhmdgmmeedhdaaGreatK14
namespace Go.Proofs.YthhmdgmmeedhdaaGreat
open Go.RowKit Go.Shelf
attribute [local irreducible] wpFrom wpAnyH StepH
theorem m8000 : (8000 : Nat) < M4 := by unfold M4 M; decide
theorem sum_le {S : Es} (h : ∀ r, r < 2 → sumE S r = 8000) {j : Nat} (hj : j < 2) : sumB S.pu j + S.he j ≤ 8000 := by
  have := h j hj
  unfold sumE at this
  omega
theorem tot8 {S : Es} (hp : OkE S) (h : ∀ r, r < 2 → sumE S r = 8000) {j : Nat} (hj : j < 2) (w : World) : Calls Tryz.prog 16 #[bkv S.pu, .int .i64 (j : Int)] w (RetN (sumB S.pu j) true w) := by
  have h1 := sum_le h hj
  have h2 : totB S.pu (j : Int) = (sumB S.pu j, true) := by
    unfold totB
    exact if_pos ⟨⟨by omega, by omega⟩, Nat.lt_of_le_of_lt (Nat.le_trans (Nat.le_add_right _ _) h1) m8000⟩
  have := bookTotal_any S.pu hp.p (j : Int) w
  rw [h2] at this
  exact this
theorem add8 {S : Es} (h : ∀ r, r < 2 → sumE S r = 8000) {j : Nat} (hj : j < 2) (w : World) : Calls Tryz.prog 17 #[wn (sumB S.pu j), wn (S.he j)] w (RetN (sumB S.pu j + S.he j) true w) := by
  have h1 := sum_le h hj
  have hm := m8000
  have h2 : sumB S.pu j + S.he j < M4 := Nat.lt_of_le_of_lt h1 hm
  have := refAddN_any (x := sumB S.pu j) (y := S.he j) (Nat.lt_of_le_of_lt (Nat.le_add_right _ _) h2) (Nat.lt_of_le_of_lt (Nat.le_add_left _ _) h2) w
  rw [show addN (sumB S.pu j) (S.he j) = sumB S.pu j + S.he j from if_pos h2, show fitB (sumB S.pu j) (S.he j) = true from decide_eq_true h2] at this
  exact this
theorem addB8 {S : Es} (h : ∀ r, r < 2 → sumE S r = 8000) {j : Nat} (hj : j = 0) (w : World) : Calls Tryz.prog 17 #[wn (sumB S.pu j + S.he j), wn S.bu] w (RetN 8000 true w) := by
  subst hj
  have h1 : sumB S.pu 0 + S.he 0 + S.bu = 8000 := h 0 (by omega)
  have hm := m8000
  have := refAddN_any (x := sumB S.pu 0 + S.he 0) (y := S.bu) (Nat.lt_of_le_of_lt (by omega) hm) (Nat.lt_of_le_of_lt (by omega) hm) w
  rw [show addN (sumB S.pu 0 + S.he 0) S.bu = 8000 from (if_pos (by rw [h1]; exact hm)).trans h1, show fitB (sumB S.pu 0 + S.he 0) S.bu = true from decide_eq_true (by rw [h1]; exact hm)] at this
  exact this
theorem sum_1 {S : Es} (h : ∀ r, r < 2 → sumE S r = 8000) {j : Nat} (hj : j < 2) (h0 : j ≠ 0) : sumB S.pu j + S.he j = 8000 := by
  have := h j hj
  unfold sumE at this
  rw [if_neg h0] at this
  exact this
set_option maxRecDepth 100000 in
set_option maxHeartbeats 4000000 in
theorem escrowWhole_any (c : Bool) (z : Int) (l : List Tr) (lv : Value) (w : World) {lo hi : Nat} (hl : RSl (fun t => txc t) lo hi w lv l) (hhi : hi ≤ w.heap.size) (hok : ∀ t ∈ l, OkT t) :
    Calls Tryz.prog 4 #[.bool c, .int .i64 z, lv] w fun e W' => e = .returned (.bool true) ∧ Below w.heap.size w W' := by
  have hmx : Tryz.prog.follows .mixedOrders = true := by kernel_rfl
  have HET := Lib.hid (fun k x (hx : l[k]? = some x) => hl.elem txc_25 hx Tryz.underlying22 (fun W => by kernel_rfl))
  have hml := hl.len
  obtain ⟨pt0, ct, rfl⟩ := hl.slice
  unfold maxLen at hml
  have HLT := Lib.hid hl
  have HHT := Lib.hid hhi
  have HOK := Lib.hid hok
  have HML := Lib.hid hml
  clear hl hhi hok hml
  have hM := Mem.start w
  go_enter Tryz.func4, Tryz.ntmps4
  go_upto_region 0 with fail
  refine wp_region_fromM (fun W => Mem w none [] W) hM ?_
  clear hM
  rintro Y1 hM
  refine tF 1 [.val 0 (some 6) (.bool false)] trivial ?_
  refine dF ?_
  try simp only [puts, Tk.put, Act.put, List.setIfInBounds_toArray, List.set_cons_zero, List.set_cons_succ]
  go_upto_region 1 with fail
  refine wp_region_fromM (fun W => Mem w none [] W) hM ?_
  clear hM
  rintro Y2 hM
  refine cF (some 14) 8 #[] ((alive12_any _).mono ?_)
  rintro e W1 ⟨rfl, hb⟩
  replace hM := hM.below hb
  clear hb
  refine tF 2 [.val 1 (some 15) (.bool false)] trivial ?_
  refine dF ?_
  try simp only [puts, Tk.put, Act.put, List.setIfInBounds_toArray, List.set_cons_zero, List.set_cons_succ]
  go_upto_region 3 with fail
  refine wp_region_fromM (fun W => Mem w none [] W) hM ?_
  clear hM
  rintro Y3 hM
  refine tF 1 [.val 0 (some 7) (.int .i64 0)] trivial ?_
  refine dF ?_
  try simp only [puts, Tk.put, Act.put, List.setIfInBounds_toArray, List.set_cons_zero, List.set_cons_succ]
  go_upto_if 16 with fail
  go_cut [7, 16] (fun p q wc => ∃ a : Int, p = .int .i64 a ∧ q = .bool c ∧ Mem w none [] wc)
  case first =>
    cases c with
    | false =>
      go_wp2_with fail
      go_meet
      exact ⟨_, rfl, rfl, hM⟩
    | true =>
      go_wp2_with fail
      go_meet
      exact ⟨_, rfl, rfl, hM⟩
  case rest =>
    obtain ⟨a, rfl, rfl, hM⟩ := hcut
    go_upto_region 6 with fail
    refine wp_region_fromM (fun W => Mem w none [] W) hM ?_
    clear hM
    rintro Y4 hM
    refine tF 2 [.val 0 (some 17) (.int .i64 a), .val 1 (some 18) (.int .i64 z)] trivial ?_
    refine cF (some 19) 9 #[.int .i64 a, .int .i64 z] ((genesis_any a z _).mono ?_)
    rintro e W1 ⟨rfl, hb⟩
    rw [genP_eq]
    replace hM := hM.below hb
    clear hb
    refine rF (some 8) (pt W1.heap.size 0) (W1.alloc (.cells (stc zS nilV).toArray 34)) ?_
    replace hM := hM.alloc 34 (stc zS nilV)
    generalize World.alloc _ _ = Y5 at *
    generalize hNe : W1.heap.size = R at *
    clear hNe
    refine sF 34 (pt R 0) (stv (genE a z) nilV) (sto_st (hM.at 0 rfl) (stc_len _ _) (genE a z) rfl) ?_
    replace hM := hM.set 0 (cs' := stc (genE a z) nilV) rfl rfl
    generalize World.setRow _ _ _ = Y6 at *
    refine dF ?_
    try simp only [puts, Tk.put, Act.put, List.setIfInBounds_toArray, List.set_cons_zero, List.set_cons_succ]
    go_upto_region 7 with fail
    refine wp_region_fromM (fun W => Mem w none [(R, 34, stc (genE a z) nilV)] W) hM ?_
    clear hM
    rintro Y7 hM
    refine tF 1 [.val 0 (some 9) (.int .i64 0)] trivial ?_
    refine dF ?_
    try simp only [puts, Tk.put, Act.put, List.setIfInBounds_toArray, List.set_cons_zero, List.set_cons_succ]
    go_wp2_with fail
    go_loopw [9] (fun i wr => ∃ (k : Nat) (S : Es) (v : Value) (h : Nat), k ≤ l.length ∧ k ≤ 40 ∧ i = .int .i64 (k : Nat) ∧ (OkE S ∧ (∀ r, r < 2 → sumE S r = 8000) ∧ S.lk.length ≤ k) ∧ Mem w none [(R, 34, stc S v)] wr ∧ RLk (R + 1) h wr v S.lk) (fun i _ => 40 - (intOf i).toNat)
    case atStart => exact ⟨0, genE a z, nilV, R + 1, Nat.zero_le _, Nat.zero_le _, rfl, ⟨gen_ok a z, fun r _ => gen_sum a z r, Nat.le_refl _⟩, hM, RSl.nil _ _ _, (hM.at 0 rfl).lt⟩
    clear hM
    case round =>
      obtain ⟨k, S, v, h, hkl, hk40, rfl, hS, hM, hO⟩ := hrel
      have HS := Lib.hid hS
      clear hS
      by_cases hq : k < l.length
      case pos =>
        by_cases hq2 : k < 40
        case pos =>
          obtain ⟨x, hx⟩ : ∃ x, l[k]? = some x := ⟨_, List.getElem?_eq_getElem hq⟩
          have htx := HOK.out x (List.mem_of_getElem? hx)
          obtain ⟨bt, ot, _, _, hit, hct⟩ := HET.out k x hx
          obtain ⟨S', E', B', _, hA, hS1, hsum, hlk⟩ := app_any HS.out.1 x
          have HIT := Lib.hid hit
          have HCT := Lib.hid hct
          have HA := Lib.hid hA
          have HSS : Hid (OkE S' ∧ (∀ r, r < 2 → sumE S' r = 8000) ∧ S'.lk.length ≤ k + 1) := Lib.hid ⟨hS1, fun r hr => (hsum r hr).trans (HS.out.2.1 r hr), Nat.le_trans (lk_stays hlk).2.1 (by have := HS.out.2.2; omega)⟩
          have HQ := Lib.hid hq
          have HQ2 := Lib.hid hq2
          clear hx hit hct hA hS1 hsum hlk
          go_upto_region 8 with fail
          refine wp_region_fromM (fun W => Mem w none [(R, 34, stc S v)] W ∧ RLk (R + 1) h W v S.lk) ⟨hM, hO⟩ ?_
          clear hM hO
          rintro Y8 ⟨hM, hO⟩
          refine tF 2 [.val 0 (some 20) (.int .i64 (k : Int)), .val 1 (some 21) ((.slice pt0 l.length ct))] trivial ?_
          refine rF (some 22) (.int .i64 l.length) (Y8) ?_
          refine tF 8 [.alt 3 (some 23) (.bool (decide ((k : Int) < (l.length : Int)))) (.bool true), .val 4 (some 24) (.bool true), .val 5 (some 25) (.int .i64 (k : Int)), .alt 6 (some 26) (.bool (decide ((k : Int) < 40))) (.bool true), .val 7 (some 27) (.bool true)] ⟨congrArg Value.bool (decide_eq_true (by omega)), congrArg Value.bool (decide_eq_true (by omega)), trivial⟩ ?_
          refine dF ?_
          try simp only [puts, Tk.put, Act.put, List.setIfInBounds_toArray, List.set_cons_zero, List.set_cons_succ]
          go_upto_region 10 with fail
          refine wp_region_M (fun W => Mem w none [] W) (fun W => Mem w none [(R, 34, stc S v)] W ∧ RLk (R + 1) h W v S.lk) hmx ⟨hM.drew, hO.drew⟩ ?_
          clear hM hO
          rintro Y9 ⟨hM, hO⟩
          have hS := hM.sub (.cons _ .slnil)
          refine tD 7 [.val 1 (some 32) ((.slice pt0 l.length ct)), .val 2 (some 33) (.int .i64 (k : Int)), .idx 3 (some 34) 22 ((.slice pt0 l.length ct)) (.int .i64 (k : Int)) (pt bt ot), .load 4 (some 35) 50 (pt bt ot) (txv x)] ⟨fun W h => HIT.out _, fun W h => ld_txS (HCT.out _ (HLT.out.below h.b HHT.out)), trivial⟩ hS ?_
          refine oD 0 6 (lD (some 31) 34 (pt R 0) (stv S v) (ld_st (s := S) (hM.at 0 rfl)) (hS) ?_)
          refine oD 5 5 (cD (some 36) 12 #[stv S v, txv x] ((((esc_apply_any S v HS.out.1 x htx _ hO.1 hO.2 (by have := HS.out.2.2; omega)).mono fun _ _ h => HA.out _ _ _ h)).mono ?_))
          rintro e W1 ⟨v1, rfl, hP, hb⟩
          refine And.intro (hS.below hb) ?_
          replace hP : RLk (R + 1) W1.heap.size W1 v1 S'.lk := ⟨(OwnL.rsl hP).mono (hM.at 0 rfl).lt (Nat.le_refl _), Nat.le_refl _⟩
          replace hS := hS.below hb
          replace hM := hM.below hb
          clear hb hO
          generalize hNe : W1.heap.size = h1 at *
          clear hNe
          refine tD 1 [.val 6 (some 30) (.tuple #[stv S' v1, .int .i64 E', .bool B']), .val 7 (some 37) (stv S' v1), .val 8 (some 38) (.int .i64 E'), .val 9 (some 39) (.bool B')] trivial hS ?_
          have hP1 := hP.row (B := R) (.inl (Nat.lt_succ_self R)) (stc S' v1).toArray
          have hM1 := hM.set 0 (cs' := stc S' v1) rfl rfl
          refine oD 10 0 (sD (w' := W1.setRow R (stc S' v1).toArray) 34 (pt R 0) (stv S' v1) (sto_st (hM.at 0 rfl) (stc_len _ _) S' hP.one) (hM1.sub (.cons _ .slnil)) ?_)
          replace hS := hM1.sub (.cons _ .slnil)
          replace hM := hM1
          clear hM1
          generalize World.setRow _ _ _ = Y10 at *
          replace hP := hP1
          clear hP1
          refine dD ?_
          try simp only [puts, Tk.put, Act.put, List.setIfInBounds_toArray, List.set_cons_zero, List.set_cons_succ]
          clear hS
          go_upto_region 11 with fail
          refine wp_region_fromM (fun W => Mem w none [(R, 34, stc S' v1)] W ∧ RLk (R + 1) h1 W v1 S'.lk) ⟨hM, hP⟩ ?_
          clear hM hP
          rintro Y11 ⟨hM, hP⟩
          refine tF 1 [.val 0 (some 10) (.int .i64 0)] trivial ?_
          refine dF ?_
          try simp only [puts, Tk.put, Act.put, List.setIfInBounds_toArray, List.set_cons_zero, List.set_cons_succ]
          go_wp2_with fail
          go_loopw [10] (fun i wr => ∃ j : Nat, j ≤ 2 ∧ i = .int .i64 (j : Nat) ∧ Mem w none [(R, 34, stc S' v1)] wr ∧ RLk (R + 1) h1 wr v1 S'.lk) (fun i _ => 2 - (intOf i).toNat)
          case atStart => exact ⟨0, Nat.zero_le _, rfl, hM, hP⟩
          clear hM hP
          case round =>
            obtain ⟨j, hj, rfl, hM, hP⟩ := hrel
            by_cases hj2 : j < 2
            case pos =>
              go_upto_region 12 with fail
              refine wp_region_fromM (fun W => Mem w none [(R, 34, stc S' v1)] W ∧ RLk (R + 1) h1 W v1 S'.lk) ⟨hM, hP⟩ ?_
              clear hM hP
              rintro Y12 ⟨hM, hP⟩
              refine tF 2 [.val 0 (some 40) (.int .i64 (j : Int)), .alt 1 (some 41) (.bool (decide ((j : Int) < 2))) (.bool true)] ⟨congrArg Value.bool (decide_eq_true (by omega)), trivial⟩ ?_
              refine dF ?_
              try simp only [puts, Tk.put, Act.put, List.setIfInBounds_toArray, List.set_cons_zero, List.set_cons_succ]
              go_upto_region 14 with fail
              refine wp_region_fromM (fun W => Mem w none [(R, 34, stc S' v1)] W ∧ RLk (R + 1) h1 W v1 S'.lk) ⟨hM, hP⟩ ?_
              clear hM hP
              rintro Y13 ⟨hM, hP⟩
              refine tF 3 [.val 0 (some 45) (pt R 2), .load 1 (some 46) 30 (pt R 2) (bkv S'.pu), .val 2 (some 47) (.int .i64 (j : Int))] ⟨ld_pu (s := S') (hM.at 0 rfl), trivial⟩ ?_
              refine cF (some 48) 16 #[bkv S'.pu, .int .i64 (j : Int)] ((tot8 HSS.out.1 HSS.out.2.1 hj2 _).mono ?_)
              rintro e W1 ⟨rfl, hb⟩
              have hh1 := hP.2
              replace hM := hM.below hb
              replace hP := hP.below hb
              clear hb
              refine tF 7 [.val 4 (some 44) (.tuple #[wn (sumB S'.pu j), .bool true]), .val 5 (some 49) (wn (sumB S'.pu j)), .val 6 (some 50) (.bool true)] trivial ?_
              replace hh1 := hP.2
              replace hP := hP.alloc (.cells (ws (nw 0)).toArray 27)
              refine rF (some 11) (pt W1.heap.size 0) (W1.alloc (.cells (ws (nw 0)).toArray 27)) ?_
              replace hM := hM.alloc 27 (ws (nw 0))
              generalize World.alloc _ _ = Y14 at *
              generalize hNe : W1.heap.size = T at *
              clear hNe
              have hP1 := hP.row (B := T) (.inr hh1) (ws (nw (sumB S'.pu j))).toArray
              refine sF (w' := Y14.setRow T (ws (nw (sumB S'.pu j))).toArray) 27 (pt T 0) (wn (sumB S'.pu j)) (sto_wn (hM.at 0 rfl) _) ?_
              replace hM := hM.set 0 (cs' := ws (nw (sumB S'.pu j))) rfl rfl
              generalize World.setRow _ _ _ = Y15 at *
              replace hP := hP1
              clear hP1
              refine tF 10 [.val 9 (some 12) (.bool true)] trivial ?_
              refine dF ?_
              try simp only [puts, Tk.put, Act.put, List.setIfInBounds_toArray, List.set_cons_zero, List.set_cons_succ]
              go_upto_region 15 with fail
              refine wp_region_M (fun W => Mem w none [(R, 34, stc S' v1)] W) (fun W => Mem w none [(T, 27, ws (nw (sumB S'.pu j))), (R, 34, stc S' v1)] W ∧ RLk (R + 1) h1 W v1 S'.lk) hmx ⟨hM.drew, hP.drew⟩ ?_
              clear hM hP
              rintro Y16 ⟨hM, hP⟩
              have hS := hM.sub (.cons _ (.cons_cons _ .slnil))
              refine tD 7 [.val 1 (some 53) (.int .i64 (j : Int)), .val 2 (some 54) (pt R 138), .idx 3 (some 55) 28 (pt R 138) (.int .i64 (j : Int)) (pt R (138 + j * 4)), .load 4 (some 56) 27 (pt R (138 + j * 4)) (wn (S'.he j))] ⟨fun W h => idx_he (by omega), fun W h => ld_heO (s := S') (h.at 0 rfl) (by omega), trivial⟩ hS ?_
              refine oD 0 6 (lD (some 52) 27 (pt T 0) (wn (sumB S'.pu j)) (load_wn (hM.at 0 rfl)) (hS) ?_)
              refine oD 5 5 (cD (some 57) 17 #[wn (sumB S'.pu j), wn (S'.he j)] ((add8 HSS.out.2.1 hj2 _).mono ?_))
              rintro e W1 ⟨rfl, hb⟩
              refine And.intro (hS.below hb) ?_
              replace hS := hS.below hb
              replace hM := hM.below hb
              replace hP := hP.below hb
              clear hb
              refine tD 2 [.val 6 (some 51) (.tuple #[wn (sumB S'.pu j + S'.he j), .bool true]), .val 7 (some 58) (wn (sumB S'.pu j + S'.he j)), .val 8 (some 59) (.bool true)] trivial hS ?_
              have hP1 := hP.row (B := T) (.inr hh1) (ws (nw (sumB S'.pu j + S'.he j))).toArray
              have hM1 := hM.set 0 (cs' := ws (nw (sumB S'.pu j + S'.he j))) rfl rfl
              refine oD 9 1 (sD (w' := W1.setRow T (ws (nw (sumB S'.pu j + S'.he j))).toArray) 27 (pt T 0) (wn (sumB S'.pu j + S'.he j)) (sto_wn (hM.at 0 rfl) _) (hM1.sub (.cons _ (.cons_cons _ .slnil))) ?_)
              replace hS := hM1.sub (.cons _ (.cons_cons _ .slnil))
              replace hM := hM1
              clear hM1
              generalize World.setRow _ _ _ = Y17 at *
              replace hP := hP1
              clear hP1
              refine tD 0 [.val 10 (some 13) (.bool true)] trivial hS ?_
              refine dD ?_
              try simp only [puts, Tk.put, Act.put, List.setIfInBounds_toArray, List.set_cons_zero, List.set_cons_succ]
              clear hS
              by_cases hj0 : j = 0
              case pos =>
                have HJ0 := Lib.hid hj0
                clear hj0
                go_upto_region 16 with fail
                refine wp_region_fromM (fun W => Mem w none [(T, 27, ws (nw (sumB S'.pu j + S'.he j))), (R, 34, stc S' v1)] W ∧ RLk (R + 1) h1 W v1 S'.lk) ⟨hM, hP⟩ ?_
                clear hM hP
                rintro Y18 ⟨hM, hP⟩
                refine tF 2 [.val 0 (some 60) (.int .i64 (j : Int)), .alt 1 (some 61) (.bool ((j : Int) == 0)) (.bool true)] ⟨congrArg Value.bool (beq_iff_eq.2 (by have := HJ0.out; omega)), trivial⟩ ?_
                refine dF ?_
                try simp only [puts, Tk.put, Act.put, List.setIfInBounds_toArray, List.set_cons_zero, List.set_cons_succ]
                go_upto_region 17 with fail
                refine wp_region_fromM (fun W => Mem w none [(T, 27, ws (nw (sumB S'.pu j + S'.he j))), (R, 34, stc S' v1)] W ∧ RLk (R + 1) h1 W v1 S'.lk) ⟨hM, hP⟩ ?_
                clear hM hP
                rintro Y19 ⟨hM, hP⟩
                refine tF 3 [.load 0 (some 63) 27 (pt T 0) (wn (sumB S'.pu j + S'.he j)), .val 1 (some 64) (pt R 146), .load 2 (some 65) 27 (pt R 146) (wn S'.bu)] ⟨load_wn (hM.at 0 rfl), ld_bu (s := S') (hM.at 1 rfl), trivial⟩ ?_
                refine cF (some 66) 17 #[wn (sumB S'.pu j + S'.he j), wn S'.bu] ((addB8 HSS.out.2.1 HJ0.out _).mono ?_)
                rintro e W1 ⟨rfl, hb⟩
                replace hM := hM.below hb
                replace hP := hP.below hb
                clear hb
                refine tF 7 [.val 4 (some 62) (.tuple #[wn 8000, .bool true]), .val 5 (some 67) (wn 8000), .val 6 (some 68) (.bool true)] trivial ?_
                have hP1 := hP.row (B := T) (.inr hh1) (ws (nw 8000)).toArray
                refine sF (w' := W1.setRow T (ws (nw 8000)).toArray) 27 (pt T 0) (wn 8000) (sto_wn (hM.at 0 rfl) _) ?_
                replace hM := hM.set 0 (cs' := ws (nw 8000)) rfl rfl
                generalize World.setRow _ _ _ = Y20 at *
                replace hP := hP1
                clear hP1
                refine dF ?_
                try simp only [puts, Tk.put, Act.put, List.setIfInBounds_toArray, List.set_cons_zero, List.set_cons_succ]
                go_upto_region 18 with fail
                refine wp_region_fromM (fun W => Mem w none [(T, 27, ws (nw 8000)), (R, 34, stc S' v1)] W ∧ RLk (R + 1) h1 W v1 S'.lk) ⟨hM, hP⟩ ?_
                clear hM hP
                rintro Y21 ⟨hM, hP⟩
                refine tF 9 [.val 0 (some 69) (.bool true), .val 1 (some 70) (.bool false), .val 2 (some 71) (.bool false), .val 3 (some 72) (.bool true), .val 4 (some 73) (.bool false), .val 5 (some 74) (.bool false), .val 6 (some 75) (.bool false), .load 7 (some 76) 27 (pt T 0) (wn (8000)), .val 8 (some 77) (wn (8000))] ⟨load_wn (hM.at 0 rfl), trivial⟩ ?_
                refine neA (.tmp 76) (.tmp 77) 27 (some 78) (ws (nw 8000)).toArray (ws (nw 8000)).toArray true (eq_wn 9998 8000 _) ?_
                refine tF 11 [.val 10 (some 79) (.bool false)] trivial ?_
                refine dF ?_
                try simp only [puts, Tk.put, Act.put, List.setIfInBounds_toArray, List.set_cons_zero, List.set_cons_succ]
                have hM5 := Lib.hid hM.tail
                have hP5 := Lib.hid hP
                clear hM hP
                have hwr : IntKind.i64.wrap ((j : Int) + 1) = ((j + 1 : Nat) : Int) := (IntWalk.i64_in _ (by omega)).trans (by omega)
                go_wp2_with fail
                go_roundw
                case rel => exact ⟨j + 1, hj2, by go_num, hM5.out, hP5.out⟩
                case measure => simp [intOf]; omega
              have HJ0 := Lib.hid hj0
              clear hj0
              go_upto_region 16 with fail
              refine wp_region_fromM (fun W => Mem w none [(T, 27, ws (nw (sumB S'.pu j + S'.he j))), (R, 34, stc S' v1)] W ∧ RLk (R + 1) h1 W v1 S'.lk) ⟨hM, hP⟩ ?_
              clear hM hP
              rintro Y22 ⟨hM, hP⟩
              refine tF 2 [.val 0 (some 60) (.int .i64 (j : Int)), .alt 1 (some 61) (.bool ((j : Int) == 0)) (.bool false)] ⟨congrArg Value.bool (beq_eq_false_iff_ne.2 (by have := HJ0.out; omega)), trivial⟩ ?_
              refine dF ?_
              try simp only [puts, Tk.put, Act.put, List.setIfInBounds_toArray, List.set_cons_zero, List.set_cons_succ]
              rw [sum_1 HSS.out.2.1 hj2 HJ0.out] at hM
              go_upto_region 18 with fail
              refine wp_region_fromM (fun W => Mem w none [(T, 27, ws (nw 8000)), (R, 34, stc S' v1)] W ∧ RLk (R + 1) h1 W v1 S'.lk) ⟨hM, hP⟩ ?_
              clear hM hP
              rintro Y23 ⟨hM, hP⟩
              refine tF 9 [.val 0 (some 69) (.bool true), .val 1 (some 70) (.bool false), .val 2 (some 71) (.bool false), .val 3 (some 72) (.bool true), .val 4 (some 73) (.bool false), .val 5 (some 74) (.bool false), .val 6 (some 75) (.bool false), .load 7 (some 76) 27 (pt T 0) (wn (8000)), .val 8 (some 77) (wn (8000))] ⟨load_wn (hM.at 0 rfl), trivial⟩ ?_
              refine neA (.tmp 76) (.tmp 77) 27 (some 78) (ws (nw 8000)).toArray (ws (nw 8000)).toArray true (eq_wn 9998 8000 _) ?_
              refine tF 11 [.val 10 (some 79) (.bool false)] trivial ?_
              refine dF ?_
              try simp only [puts, Tk.put, Act.put, List.setIfInBounds_toArray, List.set_cons_zero, List.set_cons_succ]
              have hM5 := Lib.hid hM.tail
              have hP5 := Lib.hid hP
              clear hM hP
              have hwr : IntKind.i64.wrap ((j : Int) + 1) = ((j + 1 : Nat) : Int) := (IntWalk.i64_in _ (by omega)).trans (by omega)
              go_wp2_with fail
              go_roundw
              case rel => exact ⟨j + 1, hj2, by go_num, hM5.out, hP5.out⟩
              case measure => simp [intOf]; omega
            go_upto_region 12 with fail
            refine wp_region_fromM (fun W => Mem w none [(R, 34, stc S' v1)] W ∧ RLk (R + 1) h1 W v1 S'.lk) ⟨hM, hP⟩ ?_
            clear hM hP
            rintro Y24 ⟨hM, hP⟩
            refine tF 2 [.val 0 (some 40) (.int .i64 (j : Int)), .alt 1 (some 41) (.bool (decide ((j : Int) < 2))) (.bool false)] ⟨congrArg Value.bool (decide_eq_false (by omega)), trivial⟩ ?_
            refine dF ?_
            try simp only [puts, Tk.put, Act.put, List.setIfInBounds_toArray, List.set_cons_zero, List.set_cons_succ]
            have hM5 := Lib.hid hM
            have hP5 := Lib.hid hP
            clear hM hP
            have hkk := HQ.out
            have hkm := HML.out
            have hwr : IntKind.i64.wrap ((k : Int) + 1) = ((k + 1 : Nat) : Int) := (IntWalk.i64_in _ (by omega)).trans (by omega)
            go_wp2_with fail
            go_roundw
            case rel => exact ⟨k + 1, S', v1, h1, HQ.out, HQ2.out, by go_num, HSS.out, hM5.out, hP5.out⟩
            case measure => have := HQ2.out; simp [intOf]; omega
        go_upto_region 8 with fail
        refine wp_region_fromM (fun W => Mem w none [(R, 34, stc S v)] W ∧ RLk (R + 1) h W v S.lk) ⟨hM, hO⟩ ?_
        clear hM hO
        rintro Y25 ⟨hM, hO⟩
        refine tF 2 [.val 0 (some 20) (.int .i64 (k : Int)), .val 1 (some 21) ((.slice pt0 l.length ct))] trivial ?_
        refine rF (some 22) (.int .i64 l.length) (Y25) ?_
        refine tF 8 [.alt 3 (some 23) (.bool (decide ((k : Int) < (l.length : Int)))) (.bool true), .val 4 (some 24) (.bool true), .val 5 (some 25) (.int .i64 (k : Int)), .alt 6 (some 26) (.bool (decide ((k : Int) < 40))) (.bool false), .val 7 (some 27) (.bool false)] ⟨congrArg Value.bool (decide_eq_true (by omega)), congrArg Value.bool (decide_eq_false (by omega)), trivial⟩ ?_
        refine dF ?_
        try simp only [puts, Tk.put, Act.put, List.setIfInBounds_toArray, List.set_cons_zero, List.set_cons_succ]
        go_upto_region 20 with fail
        refine wp_region_fromM (fun W => Mem w none [(R, 34, stc S v)] W ∧ RLk (R + 1) h W v S.lk) ⟨hM, hO⟩ ?_
        clear hM hO
        rintro Y26 ⟨hM, hO⟩
        refine tF 1 [.val 0 (some 6) (.bool true)] trivial ?_
        refine dF ?_
        try simp only [puts, Tk.put, Act.put, List.setIfInBounds_toArray, List.set_cons_zero, List.set_cons_succ]
        go_wp2_with fail
        go_ret
        exact ⟨rfl, hM.b⟩
      have hlt := hq
      clear hq
      go_upto_region 8 with fail
      refine wp_region_fromM (fun W => Mem w none [(R, 34, stc S v)] W ∧ RLk (R + 1) h W v S.lk) ⟨hM, hO⟩ ?_
      clear hM hO
      rintro Y27 ⟨hM, hO⟩
      refine tF 2 [.val 0 (some 20) (.int .i64 (k : Int)), .val 1 (some 21) ((.slice pt0 l.length ct))] trivial ?_
      refine rF (some 22) (.int .i64 l.length) (Y27) ?_
      refine tF 8 [.alt 3 (some 23) (.bool (decide ((k : Int) < (l.length : Int)))) (.bool false), .val 4 (some 24) (.bool false), .skip 5 (some 25), .skip 6 (some 26), .val 7 (some 27) (.bool false)] ⟨congrArg Value.bool (decide_eq_false (by omega)), trivial⟩ ?_
      refine dF ?_
      try simp only [puts, Tk.put, Act.put, List.setIfInBounds_toArray, List.set_cons_zero, List.set_cons_succ]
      go_upto_region 20 with fail
      refine wp_region_fromM (fun W => Mem w none [(R, 34, stc S v)] W ∧ RLk (R + 1) h W v S.lk) ⟨hM, hO⟩ ?_
      clear hM hO
      rintro Y28 ⟨hM, hO⟩
      refine tF 1 [.val 0 (some 6) (.bool true)] trivial ?_
      refine dF ?_
      try simp only [puts, Tk.put, Act.put, List.setIfInBounds_toArray, List.set_cons_zero, List.set_cons_succ]
      go_wp2_with fail
      go_ret
      exact ⟨rfl, hM.b⟩
end Go.Proofs.YthhmdgmmeedhdaaGreat
namespace Go.Proofs.YthhmdgmmeedhdaaGreat
open Go.ChangeShapes Go.WideShapes Go.ChangeAt Go.RowKit Go.Deep
open Go.ChangeMaps (open_string)
set_option maxRecDepth 100000 in
theorem escrowWhole_lifted (os : Os) (started : os.Started) (H : Type) (enc : TypeId × Value → H) :
    ReturnsInHanded {} Tryz.checked os 4 .any (Rows.escrowWholeSpec.pre6 enc Tryz.prog Tryz.f4 Rows.escrowWholeRow.domain false) (Rows.escrowWholeSpec.post enc Tryz.prog Tryz.f4 false true false false) := by
  refine returnsInHanded_of_change_sized (C := Tryz.checked) Tryz.own started (by kernel_rfl) Tryz.func4
    (ChangeSpec.witness6 (enc := enc) (C := Tryz.checked) false ⟨#[], #[.bool false, .int .i64 0, .slice none 0 0], []⟩ 8 (by kernel_rfl) (by kernel_rfl) (by kernel_rfl) (by kernel_rfl)) ?_
  intro W base args ds gs before hval0 hW hcnd hsz0 _
  have hval : ∀ (j : Nat) t v, Tryz.f4.params[j]? = some t → args[j]? = some v → Value.okWide Tryz.prog W .any base t v := hval0
  have hW' := hW
  obtain ⟨p, q, hA0, hV, rfl, hfz, hnd⟩ := hW
  have hA : DataW.TrodAll enc Tryz.prog W 0 (fun _ => true) true Tryz.f4.params.toList args.toList ds p := hA0
  have hsz : (DataW.weightsEach Tryz.prog (Tryz.f4.params.toList ++ Rows.escrowWholeSpec.plain.varTypes Tryz.prog) (ds ++ gs)).all (· ≤ reachBytes) = true := hsz0
  rw [Tryz.params4] at hA hval hsz
  obtain ⟨v0, v1, v2, d0, d1, d2, p0, p1, p2, rfl, rfl, rfl, h0, h1, h2⟩ := trodAll_three hA
  obtain ⟨rfl, rfl⟩ := trodVars_none hV
  obtain ⟨a2, len2, cap2, rfl⟩ := okWide_slice Tryz.underlying22 (hval 2 22 v2 rfl rfl)
  have k0 := h0
  have k1 := h1
  have k2 := h2
  have lt0 : ∀ x ∈ p0, x.block < W.heap.size := by obtain ⟨m, hm⟩ := k0; exact DataW.trod_lt m _ _ _ hm
  have lt1 : ∀ x ∈ p1, x.block < W.heap.size := by obtain ⟨m, hm⟩ := k1; exact DataW.trod_lt m _ _ _ hm
  have lt2 : ∀ x ∈ p2, x.block < W.heap.size := by obtain ⟨m, hm⟩ := k2; exact DataW.trod_lt m _ _ _ hm
  obtain ⟨b0, rfl, _, _⟩ := Go.RowKit.open_bool Tryz.underlying4 (hval 0 4 v0 rfl rfl) h0
  obtain ⟨z1, rfl, _, _, wf1⟩ := open_int Tryz.underlying3 (hval 1 3 v1 rfl rfl) h1
  obtain ⟨zl1, zh1⟩ := wf_i64 wf1
  obtain ⟨l2, hsl2, hok2⟩ := open_txs h2 (fun n hn => sized_in hsz (j := 2) (t := 22) rfl rfl n hn)
  clear hA0 hval0
  refine (escrowWhole_any b0 z1 l2 _ W hsl2 (Nat.le_refl _) hok2).mono fun e W' ⟨he, bel⟩ => ?_
  subst he
  exact ⟨_, rfl, _, _, _, [], _, [], hW', trodAll_mk1 (shut_bool Tryz.underlying4 _), (trodAll_mk3 (Below.trod Tryz.laidOut (by kernel_rfl) (of_decide_eq_true (by kernel_rfl)) k0 bel lt0) (Below.trod Tryz.laidOut (by kernel_rfl) (of_decide_eq_true (by kernel_rfl)) k1 bel lt1) (Below.trod Tryz.laidOut (by kernel_rfl) (of_decide_eq_true (by kernel_rfl)) k2 bel lt2)), rfl, bel.frame _, fun h => by cases h⟩
theorem escrowWhole_over : Rows.escrowWholeRow.holds Tryz.pinned (OpenSpec.ofChange Rows.escrowWholeSpec) :=
  OpenClaim.holds_of_wide 4 Tryz.f4 rfl rfl rfl rfl rfl rfl rfl ⟨rfl, rfl, rfl, rfl, rfl⟩ rfl rfl rfl rfl rfl (by kernel_rfl) Tryz.func4 (by kernel_rfl)
    (of_decide_eq_true (by kernel_rfl)) (by unfold Func.isWrapper; first | (rw [if_pos (by decide +kernel)]; kernel_rfl) | (rw [if_neg (by decide +kernel)]; exact ⟨rfl, rfl⟩))
    (fun os started H enc _ => escrowWhole_lifted os started H enc)
theorem escrowWhole_proved : Rows.EscrowWholeSaid := escrowWhole_over
end Go.Proofs.YthhmdgmmeedhdaaGreat
