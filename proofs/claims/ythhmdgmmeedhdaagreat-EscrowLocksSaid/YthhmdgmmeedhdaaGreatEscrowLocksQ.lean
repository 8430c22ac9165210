/-
  EscrowLocks answers true at every input, and leaves its arguments as they are.
-/
import Derived.Deep.Slices
import Derived.SizedLaws
import Derived.Carry
import Derived.ChangeMaps5
import Derived.Test.YthhmdgmmeedhdaaGreatK14
namespace Go.Proofs.YthhmdgmmeedhdaaGreat
open Go.RowKit Go.Shelf
attribute [local irreducible] wpFrom wpAnyH StepH
def zL : Lk := ⟨ByteArray.empty, ByteArray.empty, 0⟩
set_option maxRecDepth 100000 in
set_option maxHeartbeats 4000000 in
theorem escrowLocks_any (s : Es) (v : Value) (hp : OkK s.pu) (hva : OkK s.va) (hhe : s.he 0 < M4 ∧ s.he 1 < M4) (hbu : s.bu < M4) (t : Tr) (ht : OkT t) (w : World) {lo hi : Nat} (hl : RSl lkc lo hi w v s.lk) (hhi : hi ≤ w.heap.size) (hr : (s.lk.length + 2) * 40 ≤ 140737488355328) :
    Calls Tryz.prog 6 #[stv s v, txv t] w fun e W' => e = .returned (.bool true) ∧ Below w.heap.size w W' := by
  have hmx : Tryz.prog.follows .mixedOrders = true := by kernel_rfl
  have hs : OkE (sideE s) := side_ok hp hva hhe hbu
  obtain ⟨S, E, B, _, hA, _, _, hlk⟩ := app_any hs t
  obtain ⟨hn1, hn2, hst⟩ := lk_stays hlk
  replace hl : RSl lkc lo hi w v (sideE s).lk := hl
  replace hr : ((sideE s).lk.length + 2) * 40 ≤ 140737488355328 := hr
  have HE1 := Lib.hid (fun k x (hx : (sideE s).lk[k]? = some x) => hl.elem lkc_len hx Tryz.underlying32 (fun W => by kernel_rfl))
  have HA := Lib.hid hA
  have HST := Lib.hid hst
  obtain ⟨p1, c1, rfl⟩ := hl.slice
  have hv := hl.one
  have HL1 := Lib.hid hl
  have HR := Lib.hid hr
  have HH1 := Lib.hid hhi
  have HN := Lib.hid (And.intro hn1 hn2)
  clear hl hp hva hhe hbu hA hlk hst hr hhi hn1 hn2
  have hM := Mem.start w
  go_enter Tryz.func6, Tryz.ntmps6
  go_upto_region 0 with fail
  refine wp_region_fromM (fun W => Mem w none [] W) hM ?_
  clear hM
  rintro Y1 hM
  refine rF (some 2) (pt Y1.heap.size 0) (Y1.alloc (.cells (stc s (.slice p1 (sideE s).lk.length c1)).toArray 34)) ?_
  replace hM := hM.alloc 34 (stc s (.slice p1 (sideE s).lk.length c1))
  generalize World.alloc _ _ = Y2 at *
  generalize hNe : Y1.heap.size = P at *
  clear hNe
  refine rF (some 3) (pt Y2.heap.size 0) (Y2.alloc (.cells (txc t).toArray 50)) ?_
  replace hM := hM.alloc 50 (txc t)
  generalize World.alloc _ _ = Y3 at *
  generalize hNe : Y2.heap.size = X at *
  clear hNe
  refine tF 3 [.val 2 (some 4) (.bool false)] trivial ?_
  refine dF ?_
  try simp only [puts, Tk.put, Act.put, List.setIfInBounds_toArray, List.set_cons_zero, List.set_cons_succ]
  go_upto_region 1 with fail
  refine wp_region_fromM (fun W => Mem w none [(X, 50, txc t), (P, 34, stc s (.slice p1 (sideE s).lk.length c1))] W) hM ?_
  clear hM
  rintro Y4 hM
  refine cF (some 11) 8 #[] ((alive12_any _).mono ?_)
  rintro e W1 ⟨rfl, hb⟩
  replace hM := hM.below hb
  clear hb
  refine tF 2 [.val 1 (some 12) (.bool false)] trivial ?_
  refine dF ?_
  try simp only [puts, Tk.put, Act.put, List.setIfInBounds_toArray, List.set_cons_zero, List.set_cons_succ]
  go_upto_region 3 with fail
  refine wp_region_fromM (fun W => Mem w none [(X, 50, txc t), (P, 34, stc s (.slice p1 (sideE s).lk.length c1))] W) hM ?_
  clear hM
  rintro Y5 hM
  refine tF 1 [.load 0 (some 13) 34 (pt P 0) (stv (s) ((.slice p1 (sideE s).lk.length c1)))] ⟨ld_st (hM.at 1 rfl), trivial⟩ ?_
  refine cF (some 14) 18 #[stv (s) ((.slice p1 (sideE s).lk.length c1))] ((side_any s (.slice p1 (sideE s).lk.length c1) hv _).mono ?_)
  rintro e W1 ⟨rfl, hb⟩
  replace hM := hM.below hb
  clear hb
  refine sF 34 (pt P 0) (stv (sideE s) (.slice p1 (sideE s).lk.length c1)) (sto_st (hM.at 1 rfl) (stc_len _ _) (sideE s) hv) ?_
  replace hM := hM.set 1 (cs' := stc (sideE s) (.slice p1 (sideE s).lk.length c1)) rfl rfl
  generalize World.setRow _ _ _ = Y6 at *
  refine dF ?_
  try simp only [puts, Tk.put, Act.put, List.setIfInBounds_toArray, List.set_cons_zero, List.set_cons_succ]
  go_upto_region 4 with fail
  refine wp_region_fromM (fun W => Mem w none [(X, 50, txc t), (P, 34, stc (sideE s) (.slice p1 (sideE s).lk.length c1))] W) hM ?_
  clear hM
  rintro Y7 hM
  refine tF 2 [.load 0 (some 16) 34 (pt P 0) (stv ((sideE s)) ((.slice p1 (sideE s).lk.length c1))), .load 1 (some 17) 50 (pt X 0) (txv t)] ⟨ld_st (hM.at 1 rfl), ld_tx (hM.at 0 rfl), trivial⟩ ?_
  refine cF (some 18) 12 #[stv ((sideE s)) ((.slice p1 (sideE s).lk.length c1)), txv t] ((((esc_apply_any (sideE s) _ hs t ht _ (HL1.out.below hM.b HH1.out) (Nat.le_trans HH1.out hM.size) (by have := HR.out; omega)).mono fun _ _ h => HA.out _ _ _ h)).mono ?_)
  rintro e W1 ⟨v1, rfl, hO, hb⟩
  replace hO : RLk 0 W1.heap.size W1 v1 S.lk := ⟨(OwnL.rsl hO).mono (Nat.zero_le _) (Nat.le_refl _), Nat.le_refl _⟩
  have hel := fun k x (hx : S.lk[k]? = some x) => hO.1.elem lkc_len hx Tryz.underlying32 (fun W => by kernel_rfl)
  replace hM := hM.below hb
  clear hb
  replace hO := hO.alloc (.cells (stc zS nilV).toArray 34)
  refine tF 7 [.val 3 (some 15) (.tuple #[stv S v1, .int .i64 E, .bool B]), .val 4 (some 19) (stv S v1), .val 5 (some 20) (.int .i64 E), .val 6 (some 21) (.bool B)] trivial ?_
  refine rF (some 5) (pt W1.heap.size 0) (W1.alloc (.cells (stc zS nilV).toArray 34)) ?_
  replace hM := hM.alloc 34 (stc zS nilV)
  generalize World.alloc _ _ = Y8 at *
  generalize hNe : W1.heap.size = N at *
  clear hNe
  have HE2 := Lib.hid hel
  clear hel
  obtain ⟨p2, c2, rfl⟩ := hO.1.slice
  have hO1 := hO.row (.inr (Nat.le_refl N)) (stc S (.slice p2 S.lk.length c2)).toArray
  refine sF (w' := Y8.setRow N (stc S (.slice p2 S.lk.length c2)).toArray) 34 (pt N 0) (stv S (.slice p2 S.lk.length c2)) (sto_st (hM.at 0 rfl) (stc_len _ _) S hO.one) ?_
  replace hM := hM.set 0 (cs' := stc S (.slice p2 S.lk.length c2)) rfl rfl
  generalize World.setRow _ _ _ = Y9 at *
  replace hO := hO1
  clear hO1
  refine tF 11 [.val 9 (some 6) (.int .i64 E), .val 10 (some 7) (.bool B)] trivial ?_
  refine dF ?_
  try simp only [puts, Tk.put, Act.put, List.setIfInBounds_toArray, List.set_cons_zero, List.set_cons_succ]
  go_upto_region 5 with fail
  refine wp_region_fromM (fun W => Mem w none [(N, 34, stc S (.slice p2 S.lk.length c2)), (X, 50, txc t), (P, 34, stc (sideE s) (.slice p1 (sideE s).lk.length c1))] W ∧ RLk 0 N W (.slice p2 S.lk.length c2) S.lk) ⟨hM, hO⟩ ?_
  clear hM hO
  rintro Y10 ⟨hM, hO⟩
  refine tF 2 [.val 0 (some 22) (pt N 150), .load 1 (some 23) 32 (pt N 150) ((.slice p2 S.lk.length c2))] ⟨ld_lk (s := S) (hM.at 0 rfl), trivial⟩ ?_
  refine rF (some 24) (.int .i64 S.lk.length) (Y10) ?_
  refine tF 5 [.val 3 (some 25) (pt P 150), .load 4 (some 26) 32 (pt P 150) ((.slice p1 (sideE s).lk.length c1))] ⟨ld_lk (s := (sideE s)) (hM.at 2 rfl), trivial⟩ ?_
  refine rF (some 27) (.int .i64 (sideE s).lk.length) (Y10) ?_
  refine tF 10 [.alt 6 (some 28) (.bool (decide ((S.lk.length : Int) < ((sideE s).lk.length : Int)))) (.bool false), .val 7 (some 29) (.bool false), .val 8 (some 30) (pt N 150), .load 9 (some 31) 32 (pt N 150) ((.slice p2 S.lk.length c2))] ⟨congrArg Value.bool (decide_eq_false (by have := HN.out.1; omega)), ld_lk (s := S) (hM.at 0 rfl), trivial⟩ ?_
  refine rF (some 32) (.int .i64 S.lk.length) (Y10) ?_
  refine tF 13 [.val 11 (some 33) (pt P 150), .load 12 (some 34) 32 (pt P 150) ((.slice p1 (sideE s).lk.length c1))] ⟨ld_lk (s := (sideE s)) (hM.at 2 rfl), trivial⟩ ?_
  refine rF (some 35) (.int .i64 (sideE s).lk.length) (Y10) ?_
  refine tF 17 [.alt 14 (some 36) (.int .i64 (IntKind.i64.wrap (((sideE s).lk.length : Int) + 1))) (.int .i64 (((sideE s).lk.length : Int) + 1)), .alt 15 (some 37) (.bool (decide (((sideE s).lk.length : Int) + 1 < (S.lk.length : Int)))) (.bool false), .val 16 (some 38) (.bool false)] ⟨congrArg (Value.int .i64) (IntWalk.i64_in _ (by have := HR.out; omega)), congrArg Value.bool (decide_eq_false (by have := HN.out.2; omega)), trivial⟩ ?_
  refine dF ?_
  try simp only [puts, Tk.put, Act.put, List.setIfInBounds_toArray, List.set_cons_zero, List.set_cons_succ]
  go_upto_region 7 with fail
  refine wp_region_fromM (fun W => Mem w none [(N, 34, stc S (.slice p2 S.lk.length c2)), (X, 50, txc t), (P, 34, stc (sideE s) (.slice p1 (sideE s).lk.length c1))] W ∧ RLk 0 N W (.slice p2 S.lk.length c2) S.lk) ⟨hM, hO⟩ ?_
  clear hM hO
  rintro Y11 ⟨hM, hO⟩
  refine tF 1 [.val 0 (some 8) (.int .i64 0)] trivial ?_
  refine dF ?_
  try simp only [puts, Tk.put, Act.put, List.setIfInBounds_toArray, List.set_cons_zero, List.set_cons_succ]
  go_wp2_with fail
  go_loopw [8] (fun i wr => ∃ k : Nat, k ≤ (sideE s).lk.length ∧ i = .int .i64 (k : Nat) ∧ Mem w none [(N, 34, stc S (.slice p2 S.lk.length c2)), (X, 50, txc t), (P, 34, stc (sideE s) (.slice p1 (sideE s).lk.length c1))] wr ∧ RLk 0 N wr (.slice p2 S.lk.length c2) S.lk) (fun i _ => (sideE s).lk.length - (intOf i).toNat)
  case atStart => exact ⟨0, Nat.zero_le _, rfl, hM, hO⟩
  clear hM hO
  case round =>
    obtain ⟨k, hk, rfl, hM, hO⟩ := hrel
    by_cases hlt : k < (sideE s).lk.length
    · obtain ⟨x, hx⟩ : ∃ x, (sideE s).lk[k]? = some x := ⟨_, List.getElem?_eq_getElem hlt⟩
      obtain ⟨y, hy, hke, hdg, hyx⟩ := HST.out k x hx
      obtain ⟨b1, o1, _, _, hi1, hc1⟩ := HE1.out k x hx
      obtain ⟨b2, o2, _, _, hi2, hc2⟩ := HE2.out k y hy
      have HI1 := Lib.hid hi1
      have HC1 := Lib.hid hc1
      have HI2 := Lib.hid hi2
      have HC2 := Lib.hid hc2
      have HKE := Lib.hid hke
      have HDG := Lib.hid hdg
      have hlt' : (k : Int) < ((sideE s).lk.length : Int) := by omega
      have HLT := Lib.hid hlt
      clear hx hy hi1 hc1 hi2 hc2 hlt hke hdg
      go_upto_region 8 with fail
      refine wp_region_fromM (fun W => Mem w none [(N, 34, stc S (.slice p2 S.lk.length c2)), (X, 50, txc t), (P, 34, stc (sideE s) (.slice p1 (sideE s).lk.length c1))] W ∧ RLk 0 N W (.slice p2 S.lk.length c2) S.lk) ⟨hM, hO⟩ ?_
      clear hM hO
      rintro Y12 ⟨hM, hO⟩
      refine tF 3 [.val 0 (some 39) (.int .i64 (k : Int)), .val 1 (some 40) (pt P 150), .load 2 (some 41) 32 (pt P 150) ((.slice p1 (sideE s).lk.length c1))] ⟨ld_lk (s := (sideE s)) (hM.at 2 rfl), trivial⟩ ?_
      refine rF (some 42) (.int .i64 (sideE s).lk.length) (Y12) ?_
      refine tF 5 [.alt 4 (some 43) (.bool (decide ((k : Int) < ((sideE s).lk.length : Int)))) (.bool true)] ⟨congrArg Value.bool (decide_eq_true hlt'), trivial⟩ ?_
      refine dF ?_
      try simp only [puts, Tk.put, Act.put, List.setIfInBounds_toArray, List.set_cons_zero, List.set_cons_succ]
      go_upto_region 10 with fail
      refine wp_region_M (fun W => Mem w none [(N, 34, stc S (.slice p2 S.lk.length c2)), (X, 50, txc t), (P, 34, stc (sideE s) (.slice p1 (sideE s).lk.length c1))] W ∧ RLk 0 N W (.slice p2 S.lk.length c2) S.lk) (fun W => Mem w none [(N, 34, stc S (.slice p2 S.lk.length c2)), (X, 50, txc t), (P, 34, stc (sideE s) (.slice p1 (sideE s).lk.length c1))] W ∧ RLk 0 N W (.slice p2 S.lk.length c2) S.lk) hmx ⟨hM.drew, hO.drew⟩ ?_
      clear hM hO
      rintro Y13 ⟨hM, hO⟩
      have hS := And.intro hM hO
      refine tD 4 [.val 0 (some 46) (pt P 150), .load 1 (some 47) 32 (pt P 150) ((.slice p1 (sideE s).lk.length c1)), .val 2 (some 48) (.int .i64 (k : Int)), .idx 3 (some 49) 32 ((.slice p1 (sideE s).lk.length c1)) (.int .i64 (k : Int)) (pt b1 o1), .load 4 (some 50) 63 (pt b1 o1) (.agg (lkc x).toArray), .val 5 (some 51) (pt N 150), .load 6 (some 52) 32 (pt N 150) ((.slice p2 S.lk.length c2)), .val 7 (some 53) (.int .i64 (k : Int)), .idx 8 (some 54) 32 ((.slice p2 S.lk.length c2)) (.int .i64 (k : Int)) (pt b2 o2), .load 9 (some 55) 63 (pt b2 o2) (.agg (lkc y).toArray)] ⟨fun W h => ld_lk (s := (sideE s)) (h.1.at 2 rfl), fun W h => HI1.out _, fun W h => ld_lkS (HC1.out _ (HL1.out.below h.1.b HH1.out)), fun W h => ld_lk (s := S) (h.1.at 0 rfl), fun W h => HI2.out _, fun W h => ld_lkS (HC2.out _ h.2.1), trivial⟩ hS ?_
      refine oT 10 11 3 ?_ ?_
      · have hM1 := hM.alloc 63 (lkc zL)
        have hO1 := hO.alloc (.cells (lkc zL).toArray 63)
        have hltA := (hM.at 0 rfl).lt
        refine rD (some 9) (pt Y13.heap.size 0) (Y13.alloc (.cells (lkc zL).toArray 63)) (⟨hM1.sub (.cons _ (.cons_cons _ (.cons_cons _ (.cons_cons _ .slnil)))), hO1⟩) ?_
        replace hM := hM1
        replace hO := hO1
        clear hM1 hO1
        generalize World.alloc _ _ = Y14 at *
        generalize hNe : Y13.heap.size = A at *
        clear hNe
        replace hS := And.intro (hM.sub (.cons _ (.cons_cons _ (.cons_cons _ (.cons_cons _ .slnil))))) hO
        have hM1 := hM.alloc 63 (lkc zL)
        have hO1 := hO.alloc (.cells (lkc zL).toArray 63)
        have hltC := (hM.at 1 rfl).lt
        refine oD 11 2 (rD (some 10) (pt Y14.heap.size 0) (Y14.alloc (.cells (lkc zL).toArray 63)) (⟨hM1.sub (.cons _ (.cons _ (.cons_cons _ (.cons_cons _ (.cons_cons _ .slnil))))), hO1⟩) ?_)
        replace hM := hM1
        replace hO := hO1
        clear hM1 hO1
        generalize World.alloc _ _ = Y15 at *
        generalize hNe : Y14.heap.size = C at *
        clear hNe
        replace hS := And.intro (hM.sub (.cons _ (.cons _ (.cons_cons _ (.cons_cons _ (.cons_cons _ .slnil)))))) hO
        have hM1 := hM.set 1 (cs' := lkc x) rfl rfl
        have hO1 := hO.row (B := A) (.inr (Nat.le_of_lt hltA)) (lkc x).toArray
        refine oD 12 1 (sD (w' := Y15.setRow A (lkc x).toArray) 63 (pt A 0) (.agg (lkc x).toArray) (sto_lkS (hM.at 1 rfl) x) (⟨hM1.sub (.cons _ (.cons _ (.cons_cons _ (.cons_cons _ (.cons_cons _ .slnil))))), hO1⟩) ?_)
        replace hM := hM1
        replace hO := hO1
        clear hM1 hO1
        generalize World.setRow _ _ _ = Y16 at *
        replace hS := And.intro (hM.sub (.cons _ (.cons _ (.cons_cons _ (.cons_cons _ (.cons_cons _ .slnil)))))) hO
        have hM1 := hM.set 0 (cs' := lkc y) rfl rfl
        have hO1 := hO.row (B := C) (.inr (Nat.le_of_lt hltC)) (lkc y).toArray
        refine oD 13 0 (sD (w' := Y16.setRow C (lkc y).toArray) 63 (pt C 0) (.agg (lkc y).toArray) (sto_lkS (hM.at 0 rfl) y) (⟨hM1.sub (.cons _ (.cons _ (.cons_cons _ (.cons_cons _ (.cons_cons _ .slnil))))), hO1⟩) ?_)
        replace hM := hM1
        replace hO := hO1
        clear hM1 hO1
        generalize World.setRow _ _ _ = Y17 at *
        replace hS := And.intro (hM.sub (.cons _ (.cons _ (.cons_cons _ (.cons_cons _ (.cons_cons _ .slnil)))))) hO
        refine dD ?_
        try simp only [puts, Tk.put, Act.put, List.setIfInBounds_toArray, List.set_cons_zero, List.set_cons_succ]
        clear hS
        by_cases hq : x.st = y.st
        case pos =>
          have h1 := Lib.hid hq
          clear hq
          go_upto_region 11 with fail
          refine wp_region_fromM (fun W => Mem w none [(C, 63, lkc y), (A, 63, lkc x), (N, 34, stc S (.slice p2 S.lk.length c2)), (X, 50, txc t), (P, 34, stc (sideE s) (.slice p1 (sideE s).lk.length c1))] W ∧ RLk 0 N W (.slice p2 S.lk.length c2) S.lk) ⟨hM, hO⟩ ?_
          clear hM hO
          rintro Y18 ⟨hM, hO⟩
          refine tF 24 [.val 0 (some 56) (pt A 0), .load 1 (some 57) 9 (pt A 0) (.string x.ke), .val 2 (some 58) (pt C 0), .load 3 (some 59) 9 (pt C 0) (.string y.ke), .alt 4 (some 60) (.bool (!(x.ke.toList == y.ke.toList))) (.bool false), .val 5 (some 61) (.bool false), .val 6 (some 62) (pt A 1), .load 7 (some 63) 9 (pt A 1) (.string x.dg), .val 8 (some 64) (pt C 1), .load 9 (some 65) 9 (pt C 1) (.string y.dg), .alt 10 (some 66) (.bool (!(x.dg.toList == y.dg.toList))) (.bool false), .val 11 (some 67) (.bool false), .val 12 (some 68) (.bool false), .val 13 (some 69) (pt A 2), .load 14 (some 70) 3 (pt A 2) (.int .i64 x.st), .val 15 (some 71) (pt C 2), .load 16 (some 72) 3 (pt C 2) (.int .i64 y.st), .alt 17 (some 73) (.bool (x.st != y.st)) (.bool false), .val 18 (some 74) (.bool false), .skip 19 (some 75), .skip 20 (some 76), .skip 21 (some 77), .val 22 (some 78) (.bool false), .val 23 (some 79) (.bool false)] ⟨ld_str (hM.at 1 rfl) 0 rfl, ld_str (hM.at 0 rfl) 0 rfl, congrArg Value.bool (by rw [HKE.out, beq_self_eq_true]; rfl), ld_str (hM.at 1 rfl) 1 rfl, ld_str (hM.at 0 rfl) 1 rfl, congrArg Value.bool (by rw [HDG.out, beq_self_eq_true]; rfl), ld_int (hM.at 1 rfl) 2 rfl, ld_int (hM.at 0 rfl) 2 rfl, congrArg Value.bool (by rw [h1.out]; exact bne_self_eq_false _), trivial⟩ ?_
          refine dF ?_
          try simp only [puts, Tk.put, Act.put, List.setIfInBounds_toArray, List.set_cons_zero, List.set_cons_succ]
          have hlt2 := HLT.out
          have hr2 := HR.out
          have hM5 := hM.sub (.cons _ (.cons _ (.cons_cons _ (.cons_cons _ (.cons_cons _ .slnil)))))
          have HM5 := Lib.hid hM5
          have HO5 := Lib.hid hO
          clear hM hM5 hO hyx
          have hwr : IntKind.i64.wrap ((k : Int) + 1) = ((k + 1 : Nat) : Int) := (IntWalk.i64_in _ (by omega)).trans (by omega)
          go_wp2_with fail
          go_roundw
          case rel => exact ⟨k + 1, HLT.out, by go_num, HM5.out, HO5.out⟩
          case measure => have := HLT.out; simp [intOf]; omega
        have h1 := Lib.hid hq
        clear hq
        go_upto_region 11 with fail
        refine wp_region_fromM (fun W => Mem w none [(C, 63, lkc y), (A, 63, lkc x), (N, 34, stc S (.slice p2 S.lk.length c2)), (X, 50, txc t), (P, 34, stc (sideE s) (.slice p1 (sideE s).lk.length c1))] W ∧ RLk 0 N W (.slice p2 S.lk.length c2) S.lk) ⟨hM, hO⟩ ?_
        clear hM hO
        rintro Y19 ⟨hM, hO⟩
        refine tF 24 [.val 0 (some 56) (pt A 0), .load 1 (some 57) 9 (pt A 0) (.string x.ke), .val 2 (some 58) (pt C 0), .load 3 (some 59) 9 (pt C 0) (.string y.ke), .alt 4 (some 60) (.bool (!(x.ke.toList == y.ke.toList))) (.bool false), .val 5 (some 61) (.bool false), .val 6 (some 62) (pt A 1), .load 7 (some 63) 9 (pt A 1) (.string x.dg), .val 8 (some 64) (pt C 1), .load 9 (some 65) 9 (pt C 1) (.string y.dg), .alt 10 (some 66) (.bool (!(x.dg.toList == y.dg.toList))) (.bool false), .val 11 (some 67) (.bool false), .val 12 (some 68) (.bool false), .val 13 (some 69) (pt A 2), .load 14 (some 70) 3 (pt A 2) (.int .i64 x.st), .val 15 (some 71) (pt C 2), .load 16 (some 72) 3 (pt C 2) (.int .i64 y.st), .alt 17 (some 73) (.bool (x.st != y.st)) (.bool true), .val 18 (some 74) (.bool true), .val 19 (some 75) (pt A 2), .load 20 (some 76) 3 (pt A 2) (.int .i64 x.st), .alt 21 (some 77) (.bool (x.st != 1)) (.bool false), .val 22 (some 78) (.bool false), .val 23 (some 79) (.bool false)] ⟨ld_str (hM.at 1 rfl) 0 rfl, ld_str (hM.at 0 rfl) 0 rfl, congrArg Value.bool (by rw [HKE.out, beq_self_eq_true]; rfl), ld_str (hM.at 1 rfl) 1 rfl, ld_str (hM.at 0 rfl) 1 rfl, congrArg Value.bool (by rw [HDG.out, beq_self_eq_true]; rfl), ld_int (hM.at 1 rfl) 2 rfl, ld_int (hM.at 0 rfl) 2 rfl, congrArg Value.bool (bne_iff_ne.2 h1.out), ld_int (hM.at 1 rfl) 2 rfl, congrArg Value.bool (by rw [hyx.resolve_left (fun e => h1.out e.symm)]; rfl), trivial⟩ ?_
        refine dF ?_
        try simp only [puts, Tk.put, Act.put, List.setIfInBounds_toArray, List.set_cons_zero, List.set_cons_succ]
        have hlt2 := HLT.out
        have hr2 := HR.out
        have hM5 := hM.sub (.cons _ (.cons _ (.cons_cons _ (.cons_cons _ (.cons_cons _ .slnil)))))
        have HM5 := Lib.hid hM5
        have HO5 := Lib.hid hO
        clear hM hM5 hO hyx
        have hwr : IntKind.i64.wrap ((k : Int) + 1) = ((k + 1 : Nat) : Int) := (IntWalk.i64_in _ (by omega)).trans (by omega)
        go_wp2_with fail
        go_roundw
        case rel => exact ⟨k + 1, HLT.out, by go_num, HM5.out, HO5.out⟩
        case measure => have := HLT.out; simp [intOf]; omega
      · have hM1 := hM.alloc 63 (lkc zL)
        have hO1 := hO.alloc (.cells (lkc zL).toArray 63)
        have hltC := (hM.at 0 rfl).lt
        refine rD (some 10) (pt Y13.heap.size 0) (Y13.alloc (.cells (lkc zL).toArray 63)) (⟨hM1.sub (.cons _ (.cons_cons _ (.cons_cons _ (.cons_cons _ .slnil)))), hO1⟩) ?_
        replace hM := hM1
        replace hO := hO1
        clear hM1 hO1
        generalize World.alloc _ _ = Y20 at *
        generalize hNe : Y13.heap.size = C at *
        clear hNe
        replace hS := And.intro (hM.sub (.cons _ (.cons_cons _ (.cons_cons _ (.cons_cons _ .slnil))))) hO
        have hM1 := hM.alloc 63 (lkc zL)
        have hO1 := hO.alloc (.cells (lkc zL).toArray 63)
        have hltA := (hM.at 1 rfl).lt
        refine oD 10 2 (rD (some 9) (pt Y20.heap.size 0) (Y20.alloc (.cells (lkc zL).toArray 63)) (⟨hM1.sub (.cons _ (.cons _ (.cons_cons _ (.cons_cons _ (.cons_cons _ .slnil))))), hO1⟩) ?_)
        replace hM := hM1
        replace hO := hO1
        clear hM1 hO1
        generalize World.alloc _ _ = Y21 at *
        generalize hNe : Y20.heap.size = A at *
        clear hNe
        replace hS := And.intro (hM.sub (.cons _ (.cons _ (.cons_cons _ (.cons_cons _ (.cons_cons _ .slnil)))))) hO
        have hM1 := hM.set 0 (cs' := lkc x) rfl rfl
        have hO1 := hO.row (B := A) (.inr (Nat.le_of_lt hltA)) (lkc x).toArray
        refine oD 12 1 (sD (w' := Y21.setRow A (lkc x).toArray) 63 (pt A 0) (.agg (lkc x).toArray) (sto_lkS (hM.at 0 rfl) x) (⟨hM1.sub (.cons _ (.cons _ (.cons_cons _ (.cons_cons _ (.cons_cons _ .slnil))))), hO1⟩) ?_)
        replace hM := hM1
        replace hO := hO1
        clear hM1 hO1
        generalize World.setRow _ _ _ = Y22 at *
        replace hS := And.intro (hM.sub (.cons _ (.cons _ (.cons_cons _ (.cons_cons _ (.cons_cons _ .slnil)))))) hO
        have hM1 := hM.set 1 (cs' := lkc y) rfl rfl
        have hO1 := hO.row (B := C) (.inr (Nat.le_of_lt hltC)) (lkc y).toArray
        refine oD 13 0 (sD (w' := Y22.setRow C (lkc y).toArray) 63 (pt C 0) (.agg (lkc y).toArray) (sto_lkS (hM.at 1 rfl) y) (⟨hM1.sub (.cons _ (.cons _ (.cons_cons _ (.cons_cons _ (.cons_cons _ .slnil))))), hO1⟩) ?_)
        replace hM := hM1
        replace hO := hO1
        clear hM1 hO1
        generalize World.setRow _ _ _ = Y23 at *
        replace hS := And.intro (hM.sub (.cons _ (.cons _ (.cons_cons _ (.cons_cons _ (.cons_cons _ .slnil)))))) hO
        refine dD ?_
        try simp only [puts, Tk.put, Act.put, List.setIfInBounds_toArray, List.set_cons_zero, List.set_cons_succ]
        clear hS
        by_cases hq : x.st = y.st
        case pos =>
          have h1 := Lib.hid hq
          clear hq
          go_upto_region 11 with fail
          refine wp_region_fromM (fun W => Mem w none [(A, 63, lkc x), (C, 63, lkc y), (N, 34, stc S (.slice p2 S.lk.length c2)), (X, 50, txc t), (P, 34, stc (sideE s) (.slice p1 (sideE s).lk.length c1))] W ∧ RLk 0 N W (.slice p2 S.lk.length c2) S.lk) ⟨hM, hO⟩ ?_
          clear hM hO
          rintro Y24 ⟨hM, hO⟩
          refine tF 24 [.val 0 (some 56) (pt A 0), .load 1 (some 57) 9 (pt A 0) (.string x.ke), .val 2 (some 58) (pt C 0), .load 3 (some 59) 9 (pt C 0) (.string y.ke), .alt 4 (some 60) (.bool (!(x.ke.toList == y.ke.toList))) (.bool false), .val 5 (some 61) (.bool false), .val 6 (some 62) (pt A 1), .load 7 (some 63) 9 (pt A 1) (.string x.dg), .val 8 (some 64) (pt C 1), .load 9 (some 65) 9 (pt C 1) (.string y.dg), .alt 10 (some 66) (.bool (!(x.dg.toList == y.dg.toList))) (.bool false), .val 11 (some 67) (.bool false), .val 12 (some 68) (.bool false), .val 13 (some 69) (pt A 2), .load 14 (some 70) 3 (pt A 2) (.int .i64 x.st), .val 15 (some 71) (pt C 2), .load 16 (some 72) 3 (pt C 2) (.int .i64 y.st), .alt 17 (some 73) (.bool (x.st != y.st)) (.bool false), .val 18 (some 74) (.bool false), .skip 19 (some 75), .skip 20 (some 76), .skip 21 (some 77), .val 22 (some 78) (.bool false), .val 23 (some 79) (.bool false)] ⟨ld_str (hM.at 0 rfl) 0 rfl, ld_str (hM.at 1 rfl) 0 rfl, congrArg Value.bool (by rw [HKE.out, beq_self_eq_true]; rfl), ld_str (hM.at 0 rfl) 1 rfl, ld_str (hM.at 1 rfl) 1 rfl, congrArg Value.bool (by rw [HDG.out, beq_self_eq_true]; rfl), ld_int (hM.at 0 rfl) 2 rfl, ld_int (hM.at 1 rfl) 2 rfl, congrArg Value.bool (by rw [h1.out]; exact bne_self_eq_false _), trivial⟩ ?_
          refine dF ?_
          try simp only [puts, Tk.put, Act.put, List.setIfInBounds_toArray, List.set_cons_zero, List.set_cons_succ]
          have hlt2 := HLT.out
          have hr2 := HR.out
          have hM5 := hM.sub (.cons _ (.cons _ (.cons_cons _ (.cons_cons _ (.cons_cons _ .slnil)))))
          have HM5 := Lib.hid hM5
          have HO5 := Lib.hid hO
          clear hM hM5 hO hyx
          have hwr : IntKind.i64.wrap ((k : Int) + 1) = ((k + 1 : Nat) : Int) := (IntWalk.i64_in _ (by omega)).trans (by omega)
          go_wp2_with fail
          go_roundw
          case rel => exact ⟨k + 1, HLT.out, by go_num, HM5.out, HO5.out⟩
          case measure => have := HLT.out; simp [intOf]; omega
        have h1 := Lib.hid hq
        clear hq
        go_upto_region 11 with fail
        refine wp_region_fromM (fun W => Mem w none [(A, 63, lkc x), (C, 63, lkc y), (N, 34, stc S (.slice p2 S.lk.length c2)), (X, 50, txc t), (P, 34, stc (sideE s) (.slice p1 (sideE s).lk.length c1))] W ∧ RLk 0 N W (.slice p2 S.lk.length c2) S.lk) ⟨hM, hO⟩ ?_
        clear hM hO
        rintro Y25 ⟨hM, hO⟩
        refine tF 24 [.val 0 (some 56) (pt A 0), .load 1 (some 57) 9 (pt A 0) (.string x.ke), .val 2 (some 58) (pt C 0), .load 3 (some 59) 9 (pt C 0) (.string y.ke), .alt 4 (some 60) (.bool (!(x.ke.toList == y.ke.toList))) (.bool false), .val 5 (some 61) (.bool false), .val 6 (some 62) (pt A 1), .load 7 (some 63) 9 (pt A 1) (.string x.dg), .val 8 (some 64) (pt C 1), .load 9 (some 65) 9 (pt C 1) (.string y.dg), .alt 10 (some 66) (.bool (!(x.dg.toList == y.dg.toList))) (.bool false), .val 11 (some 67) (.bool false), .val 12 (some 68) (.bool false), .val 13 (some 69) (pt A 2), .load 14 (some 70) 3 (pt A 2) (.int .i64 x.st), .val 15 (some 71) (pt C 2), .load 16 (some 72) 3 (pt C 2) (.int .i64 y.st), .alt 17 (some 73) (.bool (x.st != y.st)) (.bool true), .val 18 (some 74) (.bool true), .val 19 (some 75) (pt A 2), .load 20 (some 76) 3 (pt A 2) (.int .i64 x.st), .alt 21 (some 77) (.bool (x.st != 1)) (.bool false), .val 22 (some 78) (.bool false), .val 23 (some 79) (.bool false)] ⟨ld_str (hM.at 0 rfl) 0 rfl, ld_str (hM.at 1 rfl) 0 rfl, congrArg Value.bool (by rw [HKE.out, beq_self_eq_true]; rfl), ld_str (hM.at 0 rfl) 1 rfl, ld_str (hM.at 1 rfl) 1 rfl, congrArg Value.bool (by rw [HDG.out, beq_self_eq_true]; rfl), ld_int (hM.at 0 rfl) 2 rfl, ld_int (hM.at 1 rfl) 2 rfl, congrArg Value.bool (bne_iff_ne.2 h1.out), ld_int (hM.at 0 rfl) 2 rfl, congrArg Value.bool (by rw [hyx.resolve_left (fun e => h1.out e.symm)]; rfl), trivial⟩ ?_
        refine dF ?_
        try simp only [puts, Tk.put, Act.put, List.setIfInBounds_toArray, List.set_cons_zero, List.set_cons_succ]
        have hlt2 := HLT.out
        have hr2 := HR.out
        have hM5 := hM.sub (.cons _ (.cons _ (.cons_cons _ (.cons_cons _ (.cons_cons _ .slnil)))))
        have HM5 := Lib.hid hM5
        have HO5 := Lib.hid hO
        clear hM hM5 hO hyx
        have hwr : IntKind.i64.wrap ((k : Int) + 1) = ((k + 1 : Nat) : Int) := (IntWalk.i64_in _ (by omega)).trans (by omega)
        go_wp2_with fail
        go_roundw
        case rel => exact ⟨k + 1, HLT.out, by go_num, HM5.out, HO5.out⟩
        case measure => have := HLT.out; simp [intOf]; omega
    · obtain rfl : k = (sideE s).lk.length := by omega
      go_upto_region 8 with fail
      refine wp_region_fromM (fun W => Mem w none [(N, 34, stc S (.slice p2 S.lk.length c2)), (X, 50, txc t), (P, 34, stc (sideE s) (.slice p1 (sideE s).lk.length c1))] W ∧ RLk 0 N W (.slice p2 S.lk.length c2) S.lk) ⟨hM, hO⟩ ?_
      clear hM hO
      rintro Y26 ⟨hM, hO⟩
      refine tF 3 [.val 0 (some 39) (.int .i64 ((sideE s).lk.length : Int)), .val 1 (some 40) (pt P 150), .load 2 (some 41) 32 (pt P 150) ((.slice p1 (sideE s).lk.length c1))] ⟨ld_lk (s := (sideE s)) (hM.at 2 rfl), trivial⟩ ?_
      refine rF (some 42) (.int .i64 (sideE s).lk.length) (Y26) ?_
      refine tF 5 [.alt 4 (some 43) (.bool (decide (((sideE s).lk.length : Int) < ((sideE s).lk.length : Int)))) (.bool false)] ⟨congrArg Value.bool (decide_eq_false (by omega)), trivial⟩ ?_
      refine dF ?_
      try simp only [puts, Tk.put, Act.put, List.setIfInBounds_toArray, List.set_cons_zero, List.set_cons_succ]
      go_upto_region 13 with fail
      refine wp_region_M (fun W => Mem w none [(N, 34, stc S (.slice p2 S.lk.length c2)), (X, 50, txc t), (P, 34, stc (sideE s) (.slice p1 (sideE s).lk.length c1))] W) (fun W => Mem w none [(N, 34, stc S (.slice p2 S.lk.length c2)), (X, 50, txc t), (P, 34, stc (sideE s) (.slice p1 (sideE s).lk.length c1))] W ∧ RLk 0 N W (.slice p2 S.lk.length c2) S.lk) hmx ⟨hM.drew, hO.drew⟩ ?_
      clear hM hO
      rintro Y27 ⟨hM, hO⟩
      have hS := hM.sub (.cons_cons _ (.cons_cons _ (.cons_cons _ .slnil)))
      refine tD 7 [.load 0 (some 80) 34 (pt N 0) (stv (S) ((.slice p2 S.lk.length c2))), .val 1 (some 81) (pt X 8), .load 2 (some 82) 46 (pt X 8) (ivv t.iv), .load 5 (some 85) 34 (pt N 0) (stv (S) ((.slice p2 S.lk.length c2))), .val 7 (some 87) (pt X 8), .load 8 (some 88) 46 (pt X 8) (ivv t.iv)] ⟨fun W h => ld_st (h.at 0 rfl), fun W h => ld_iv (h.at 1 rfl), fun W h => ld_st (h.at 0 rfl), fun W h => ld_iv (h.at 1 rfl), trivial⟩ hS ?_
      refine oD 3 6 (cD (some 83) 21 #[ivv t.iv] ((key_any _ _).mono ?_))
      rintro e W3 ⟨rfl, hb⟩
      refine And.intro (hS.below hb) ?_
      replace hS := hS.below hb
      replace hM := hM.below hb
      replace hO := hO.below hb
      clear hb
      refine oD 4 5 (cD (some 84) 20 #[stv (S) ((.slice p2 S.lk.length c2)), .string (keyB t.iv)] ((status_any S (.slice p2 S.lk.length c2) (keyB t.iv) _ hO.1 hO.2).mono ?_))
      rintro e W4 ⟨rfl, hb⟩
      refine And.intro (hS.below hb) ?_
      replace hS := hS.below hb
      replace hM := hM.below hb
      replace hO := hO.below hb
      clear hb
      refine oD 6 4 (cD (some 86) 10 #[stv (S) ((.slice p2 S.lk.length c2))] ((plain12_any S (.slice p2 S.lk.length c2) _ hO.1 hO.2 (by have := HR.out; have := HN.out.2; omega)).mono ?_))
      rintro e W6 ⟨u, rfl, hU, hb⟩
      refine And.intro (hS.below hb) ?_
      replace hS := hS.below hb
      replace hM := hM.below hb
      replace hU := OwnM.rlk hU
      clear hO
      clear hb
      refine oD 9 3 (cD (some 89) 23 #[ivv t.iv] ((refKey_any _ _).mono ?_))
      rintro e W9 ⟨rfl, hb⟩
      refine And.intro (hS.below hb) ?_
      replace hS := hS.below hb
      replace hM := hM.below hb
      replace hU := hU.below hb
      clear hb
      refine oD 10 2 (cD (some 90) 22 #[stv S u, .string (keyB t.iv)] ((refStatus_any S u (keyB t.iv) _ hU.1 hU.2).mono ?_))
      rintro e W10 ⟨rfl, hb⟩
      refine And.intro (hS.below hb) ?_
      replace hS := hS.below hb
      replace hM := hM.below hb
      clear hb
      refine tD 0 [.alt 11 (some 91) (.bool (statE S (keyB t.iv) == statE S (keyB t.iv))) (.bool true), .val 12 (some 4) (.bool true)] ⟨congrArg Value.bool (beq_self_eq_true _), trivial⟩ hS ?_
      refine dD ?_
      try simp only [puts, Tk.put, Act.put, List.setIfInBounds_toArray, List.set_cons_zero, List.set_cons_succ]
      clear hS
      go_wp2_with fail
      go_ret
      exact ⟨rfl, hM.b⟩
end Go.Proofs.YthhmdgmmeedhdaaGreat
namespace Go.Proofs.YthhmdgmmeedhdaaGreat
open Go.ChangeShapes Go.WideShapes Go.ChangeAt Go.RowKit Go.Deep
open Go.ChangeMaps (open_string)
set_option maxRecDepth 100000 in
theorem escrowLocks_lifted (os : Os) (started : os.Started) (H : Type) (enc : TypeId × Value → H) :
    ReturnsInHanded {} Tryz.checked os 6 .any (Rows.escrowLocksSpec.pre6 enc Tryz.prog Tryz.f6 Rows.escrowLocksRow.domain false) (Rows.escrowLocksSpec.post enc Tryz.prog Tryz.f6 false true false false) := by
  refine returnsInHanded_of_change_sized (C := Tryz.checked) Tryz.own started (by kernel_rfl) Tryz.func6
    (ChangeSpec.witness6 (enc := enc) (C := Tryz.checked) false ⟨#[], #[.agg #[.int .i64 0, .int .i64 0, .int .u64 0, .int .u64 0, .int .u64 0, .int .u64 0, .int .u64 0, .int .u64 0, .int .u64 0, .int .u64 0, .int .u64 0, .int .u64 0, .int .u64 0, .int .u64 0, .int .u64 0, .int .u64 0, .int .u64 0, .int .u64 0, .int .u64 0, .int .u64 0, .int .u64 0, .int .u64 0, .int .u64 0, .int .u64 0, .int .u64 0, .int .u64 0, .int .u64 0, .int .u64 0, .int .u64 0, .int .u64 0, .int .u64 0, .int .u64 0, .int .u64 0, .int .u64 0, .int .u64 0, .int .u64 0, .int .u64 0, .int .u64 0, .int .u64 0, .int .u64 0, .int .u64 0, .int .u64 0, .int .u64 0, .int .u64 0, .int .u64 0, .int .u64 0, .int .u64 0, .int .u64 0, .int .u64 0, .int .u64 0, .int .u64 0, .int .u64 0, .int .u64 0, .int .u64 0, .int .u64 0, .int .u64 0, .int .u64 0, .int .u64 0, .int .u64 0, .int .u64 0, .int .u64 0, .int .u64 0, .int .u64 0, .int .u64 0, .int .u64 0, .int .u64 0, .int .u64 0, .int .u64 0, .int .u64 0, .int .u64 0, .int .u64 0, .int .u64 0, .int .u64 0, .int .u64 0, .int .u64 0, .int .u64 0, .int .u64 0, .int .u64 0, .int .u64 0, .int .u64 0, .int .u64 0, .int .u64 0, .int .u64 0, .int .u64 0, .int .u64 0, .int .u64 0, .int .u64 0, .int .u64 0, .int .u64 0, .int .u64 0, .int .u64 0, .int .u64 0, .int .u64 0, .int .u64 0, .int .u64 0, .int .u64 0, .int .u64 0, .int .u64 0, .int .u64 0, .int .u64 0, .int .u64 0, .int .u64 0, .int .u64 0, .int .u64 0, .int .u64 0, .int .u64 0, .int .u64 0, .int .u64 0, .int .u64 0, .int .u64 0, .int .u64 0, .int .u64 0, .int .u64 0, .int .u64 0, .int .u64 0, .int .u64 0, .int .u64 0, .int .u64 0, .int .u64 0, .int .u64 0, .int .u64 0, .int .u64 0, .int .u64 0, .int .u64 0, .int .u64 0, .int .u64 0, .int .u64 0, .int .u64 0, .int .u64 0, .int .u64 0, .int .i64 0, .int .i64 0, .int .i64 0, .int .i64 0, .int .i64 0, .int .i64 0, .int .i64 0, .int .i64 0, .int .u64 0, .int .u64 0, .int .u64 0, .int .u64 0, .int .u64 0, .int .u64 0, .int .u64 0, .int .u64 0, .int .u64 0, .int .u64 0, .int .u64 0, .int .u64 0, .slice none 0 0], .agg #[.int .i64 0, .int .i64 0, .int .i64 0, .int .i64 0, .int .u64 0, .int .u64 0, .int .u64 0, .int .u64 0, .int .i64 0, .string ⟨#[]⟩, .int .i64 0, .int .i64 0, .int .i64 0, .int .i64 0, .string ⟨#[]⟩, .int .u64 0, .int .u64 0, .int .u64 0, .int .u64 0, .int .i64 0, .int .u64 0, .int .u64 0, .int .u64 0, .int .u64 0, .string ⟨#[]⟩]], []⟩ 8 (by kernel_rfl) (by kernel_rfl) (by kernel_rfl) (by kernel_rfl)) ?_
  intro W base args ds gs before hval0 hW hcnd hsz0 _
  have hval : ∀ (j : Nat) t v, Tryz.f6.params[j]? = some t → args[j]? = some v → Value.okWide Tryz.prog W .any base t v := hval0
  have hW' := hW
  obtain ⟨p, q, hA0, hV, rfl, hfz, hnd⟩ := hW
  have hA : DataW.TrodAll enc Tryz.prog W 0 (fun _ => true) true Tryz.f6.params.toList args.toList ds p := hA0
  have hsz : (DataW.weightsEach Tryz.prog (Tryz.f6.params.toList ++ Rows.escrowLocksSpec.plain.varTypes Tryz.prog) (ds ++ gs)).all (· ≤ reachBytes) = true := hsz0
  rw [Tryz.params6] at hA hval hsz
  obtain ⟨v0, v1, d0, d1, p0, p1, rfl, rfl, rfl, h0, h1⟩ := trodAll_two hA
  obtain ⟨rfl, rfl⟩ := trodVars_none hV
  have k0 := h0
  have k1 := h1
  have lt0 : ∀ x ∈ p0, x.block < W.heap.size := by obtain ⟨m, hm⟩ := k0; exact DataW.trod_lt m _ _ _ hm
  have lt1 : ∀ x ∈ p1, x.block < W.heap.size := by obtain ⟨m, hm⟩ := k1; exact DataW.trod_lt m _ _ _ hm
  obtain ⟨s0, lv0, rfl, hp0, hva0, hhe0, hbu0, hsl0, hln0⟩ := open_state (hval 0 34 v0 rfl rfl) h0 (fun n hn => sized_in hsz (j := 0) (t := 34) rfl rfl n hn)
  obtain ⟨i1, rfl, hx1⟩ := open_tx (hval 1 50 v1 rfl rfl) h1
  clear hA0 hval0
  refine (escrowLocks_any s0 lv0 hp0 hva0 hhe0 hbu0 i1 hx1 W hsl0 (Nat.le_refl _) (by omega)).mono fun e W' ⟨he, bel⟩ => ?_
  subst he
  exact ⟨_, rfl, _, _, _, [], _, [], hW', trodAll_mk1 (shut_bool Tryz.underlying4 _), (trodAll_mk2 (Below.trod Tryz.laidOut (by kernel_rfl) (of_decide_eq_true (by kernel_rfl)) k0 bel lt0) (Below.trod Tryz.laidOut (by kernel_rfl) (of_decide_eq_true (by kernel_rfl)) k1 bel lt1)), rfl, bel.frame _, fun h => by cases h⟩
theorem escrowLocks_over : Rows.escrowLocksRow.holds Tryz.pinned (OpenSpec.ofChange Rows.escrowLocksSpec) :=
  OpenClaim.holds_of_wide 6 Tryz.f6 rfl rfl rfl rfl rfl rfl rfl ⟨rfl, rfl, rfl, rfl, rfl⟩ rfl rfl rfl rfl rfl (by kernel_rfl) Tryz.func6 (by kernel_rfl)
    (of_decide_eq_true (by kernel_rfl)) (by unfold Func.isWrapper; first | (rw [if_pos (by decide +kernel)]; kernel_rfl) | (rw [if_neg (by decide +kernel)]; exact ⟨rfl, rfl⟩))
    (fun os started H enc _ => escrowLocks_lifted os started H enc)
theorem escrowLocks_proved : Rows.EscrowLocksSaid := escrowLocks_over
end Go.Proofs.YthhmdgmmeedhdaaGreat
