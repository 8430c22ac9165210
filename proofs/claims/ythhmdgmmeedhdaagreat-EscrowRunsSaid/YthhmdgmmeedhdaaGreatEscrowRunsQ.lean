/-
  EscrowRuns answers true at every input, and leaves its arguments as they are.
-/
import Derived.Deep.Slices
import Derived.SizedLaws
import Derived.Carry
import Derived.ChangeMaps5
import Derived.Test.YthhmdgmmeedhdaaGreatR16
namespace Go.Proofs.YthhmdgmmeedhdaaGreat
open Go.RowKit Go.Shelf
attribute [local irreducible] wpFrom wpAnyH StepH
theorem str_last (s : Es) (v : Value) : (stc s v).all (fun c => !isStr c) = ((!isStr v) && true) := by kernel_rfl
theorem str_no (s : Es) {v : Value} (h : isStr v = false) : (stc s v).all (fun c => !isStr c) = true := by rw [str_last, h]; rfl
theorem RSl.str {lo hi : Nat} {W : World} {v : Value} {l : List Lk} (h : RSl lkc lo hi W v l) : isStr v = false := by obtain ⟨a, c, rfl⟩ := h.slice; rfl
def UR (W : World) (u : Value) (l : List Lk) : Prop := RSl lkc 0 W.heap.size W u l
section
variable {W W' : World} {u : Value} {l : List Lk}
theorem UR.drew (h : UR W u l) : UR W.drew u l := h
theorem UR.below (h : UR W u l) (hb : Below W.heap.size W W') : UR W' u l := RSl.up h hb
theorem UR.alloc (h : UR W u l) (c : Obj) : UR (W.alloc c) u l := RSl.up h ((Below.refl _ W).alloc (Nat.le_refl _) _)
theorem UR.row (h : UR W u l) {G : Nat} {T : TypeId} {s : Es} {v : Value} (hG : Blk W G T (stc s v)) (hv : isStr v = false) (cs : Array Value) : UR (W.setRow G cs) u l := RSl.off h hG (str_no s hv) cs
end
def mnI' (m a : Int) : Int := if m < a then m else a
theorem rise_is {tm g : Int} (h : 0 ≤ tm ∧ tm ≤ 1099511627776) (hg : 0 ≤ g ∧ g < 50) : mnI' 1099511627776 (tm + g) = tm + nearI g (1099511627776 - tm) := by
 unfold mnI' nearI
 split <;> omega
theorem riseP_ok {s : Es} (h : OkE s) (n : Int) : OkE (riseP s n) := by
 have h0 := h.t0
 have h1 := h.t1
 exact ⟨by show 0 ≤ s.tm + nearI n (1099511627776 - s.tm); unfold nearI; omega, by show s.tm + nearI n (1099511627776 - s.tm) ≤ 1099511627776; unfold nearI; omega, h.d, h.p, h.v, h.h, h.b⟩
theorem ld_gap {W : World} {b o : Nat} {z : Int} (hc : ∀ j u, ([Value.int .i64 z])[j]? = some u → W.cell? ⟨b, o + j, none⟩ = some u) : (Instr.loadAt 3 (.pointer (some ⟨b, o, none⟩))).run Tryz.prog W = .ok (.int .i64 z) W :=
 ld_cell _ _ Tryz.underlying3 rfl (hc 0 _ rfl)
theorem refAp {s S : Es} {t : Tr} {E : Int} {B : Bool} (h : applyE orcB s t = (S, E, B)) {w W' : World} {e : Ending} (hr : RApplyR (applyE orcB s t) w e W') : ∃ v', e = .returned (.tuple #[stv S v', .int .i64 E, .bool B]) ∧ v'.oneCell' = true ∧ UR W' v' S.lk ∧ Below w.heap.size w W' := by
 rw [h] at hr
 exact hr
set_option maxRecDepth 100000 in
set_option maxHeartbeats 4000000 in
theorem escrowRuns_any (c : Bool) (z : Int) (l : List Tr) (lv : Value) (gl : List Int) (gv : Value) (w : World) {lo hi lo2 hi2 : Nat} (hl : RSl (fun t => txc t) lo hi w lv l) (hhi : hi ≤ w.heap.size) (hok : ∀ t ∈ l, OkT t) (hg : RSl (fun y : Int => [Value.int .i64 y]) lo2 hi2 w gv gl) (hhi2 : hi2 ≤ w.heap.size) :
  Calls Tryz.prog 3 #[.bool c, .int .i64 z, lv, gv] w fun e W' => e = .returned (.bool true) ∧ Below w.heap.size w W' := by
 have hmx : Tryz.prog.follows .mixedOrders = true := by kernel_rfl
 have HET := Lib.hid (fun k x (hx : l[k]? = some x) => hl.elem txc_25 hx Tryz.underlying22 (fun W => by kernel_rfl))
 have HEG := Lib.hid (fun k x (hx : gl[k]? = some x) => hg.elem (n := 1) (fun _ => rfl) hx Tryz.underlying23 (fun W => by kernel_rfl))
 have hml := hl.len
 have hmg := hg.len
 obtain ⟨pt0, ct, rfl⟩ := hl.slice
 obtain ⟨pg0, cg, rfl⟩ := hg.slice
 unfold maxLen at hml hmg
 have HLT := Lib.hid hl
 have HHT := Lib.hid hhi
 have HLG := Lib.hid hg
 have HHG := Lib.hid hhi2
 have HOK := Lib.hid hok
 have HML := Lib.hid hml
 have HMG := Lib.hid hmg
 clear hl hhi hok hml hg hhi2 hmg
 have hM := Mem.start w
 go_enter Tryz.func3, Tryz.ntmps3
 go_upto_region 0 with fail
 refine wp_region_fromM (fun W => Mem w none [] W) hM ?_
 clear hM
 rintro Y1 hM
 refine tF 1 [.v 0 8 (.bool false)] trivial ?_
 refine eF ?_
 go_upto_region 1 with fail
 refine wp_region_fromM (fun W => Mem w none [] W) hM ?_
 clear hM
 rintro Y2 hM
 refine cF (some 20) _ _ ((alive12_any _).mono ?_)
 rintro e W1 ⟨rfl, hb⟩
 replace hM := hM.below hb
 clear hb
 refine tF 2 [.v 1 21 (.bool false)] trivial ?_
 refine eF ?_
 go_upto_region 3 with fail
 refine wp_region_fromM (fun W => Mem w none [] W) hM ?_
 clear hM
 rintro Y3 hM
 refine tF 1 [.v 0 9 (.int .i64 0)] trivial ?_
 refine eF ?_
 go_upto_if 22 with fail
 go_cut [9, 22] (fun p q wc => ∃ a : Int, p = .int .i64 a ∧ q = .bool c ∧ Mem w none [] wc)
 case first =>
  cases c with
  | false =>
   go_wp2_with fail
   go_meet
   exact ⟨_, rfl, rfl, hM⟩
  | true =>
   go_wp2_with fail
   go_meet
   exact ⟨_, rfl, rfl, hM⟩
 case rest =>
  obtain ⟨a, rfl, rfl, hM⟩ := hcut
  go_upto_region 6 with fail
  refine wp_region_fromM (fun W => Mem w none [] W) hM ?_
  clear hM
  rintro Y4 hM
  refine tF 2 [.v 0 23 (.int .i64 a), .v 1 24 (.int .i64 z)] trivial ?_
  refine cF (some 25) _ _ ((genesis_any a z _).mono ?_)
  rintro e W1 ⟨rfl, hb⟩
  rw [genP_eq]
  replace hM := hM.below hb
  clear hb
  refine rF (some 10) (pt W1.heap.size 0) (W1.alloc (.cells (stc zS nilV).toArray 34)) ?_
  replace hM := hM.alloc 34 (stc zS nilV)
  generalize World.alloc _ _ = Y5 at *
  generalize hNe : W1.heap.size = R at *
  clear hNe
  refine sF 34 (pt R 0) (stv (genE a z) nilV) (sto_st hM.a0 (stc_len _ _) (genE a z) rfl) ?_
  replace hM := hM.set 0 (cs' := stc (genE a z) nilV) rfl rfl
  generalize World.setRow _ _ _ = Y6 at *
  refine eF ?_
  go_upto_region 7 with fail
  refine wp_region_fromM _ hM ?_
  clear hM
  rintro Y7 hM
  refine tF 1 [.l 0 26 34 (pt R 0) (stv ((genE a z)) (nilV))] ⟨ld_st hM.a0, trivial⟩ ?_
  refine cF (some 27) 10 #[stv ((genE a z)) (nilV)] ((plain12_any (genE a z) nilV _ (lo := 0) (hi := 0) (RSl.nil _ _ _) (Nat.zero_le _) (show (0 + 1) * 40 ≤ 140737488355328 by decide)).mono ?_)
  rintro e W1 ⟨u0, rfl, hU, hb⟩
  have hu1 := (OwnM.one hU).1
  replace hU : UR W1 u0 (genE a z).lk := (OwnM.rsl hU).mono (Nat.zero_le _) (Nat.le_refl _)
  replace hM := hM.below hb
  clear hb
  replace hU := hU.alloc (.cells (stc zS nilV).toArray 39)
  refine rF (some 11) (pt W1.heap.size 0) (W1.alloc (.cells (stc zS nilV).toArray 39)) ?_
  replace hM := hM.alloc 39 (stc zS nilV)
  generalize World.alloc _ _ = Y8 at *
  generalize hNe : W1.heap.size = X at *
  clear hNe
  have hU1 := hU.row hM.a0 rfl (stc (genE a z) u0).toArray
  refine sF 39 (pt X 0) (stv (genE a z) u0) (rsto_st hM.a0 (stc_len _ _) (genE a z) hu1) ?_
  replace hM := hM.set 0 (cs' := stc (genE a z) u0) rfl rfl
  generalize World.setRow _ _ _ = Y9 at *
  replace hU := hU1
  clear hU1 hu1
  refine eF ?_
  go_upto_region 8 with fail
  refine wp_region_fromM (fun W => Mem w none [(X, 39, stc (genE a z) u0), (R, 34, stc (genE a z) nilV)] W ∧ UR W u0 (genE a z).lk) ⟨hM, hU⟩ ?_
  clear hM hU
  rintro Y10 ⟨hM, hU⟩
  refine tF 1 [.v 0 12 (.int .i64 0)] trivial ?_
  refine eF ?_
  have hRX : R < X := (List.pairwise_cons.1 hM.2.1).1 (R, 34, stc (genE a z) nilV) (by simp)
  have hXl := hM.a0.lt
  go_wp2_with fail
  go_loopw [12] (fun i wr => ∃ (k : Nat) (S : Es) (v : Value) (h : Nat) (u : Value), k ≤ l.length ∧ k ≤ 40 ∧ i = .int .i64 (k : Nat) ∧ (OkE S ∧ S.lk.length ≤ k) ∧ Mem w none [(X, 39, stc S u), (R, 34, stc S v)] wr ∧ RLk (X + 1) h wr v S.lk ∧ UR wr u S.lk) (fun i _ => 40 - (intOf i).toNat)
  case atStart => exact ⟨0, genE a z, nilV, X + 1, u0, Nat.zero_le _, Nat.zero_le _, rfl, ⟨gen_ok a z, Nat.le_refl _⟩, hM, ⟨RSl.nil _ _ _, hXl⟩, hU⟩
  clear hM hU hXl
  case round =>
   obtain ⟨k, S, v, h, u, hkl, hk40, rfl, hS, hM, hO, hU⟩ := hrel
   have HS := Lib.hid hS
   clear hS
   by_cases hq : k < l.length
   case pos =>
    by_cases hq2 : k < 40
    case pos =>
     obtain ⟨x, hx⟩ : ∃ x, l[k]? = some x := ⟨_, List.getElem?_eq_getElem hq⟩
     have htx := HOK.out x (List.mem_of_getElem? hx)
     obtain ⟨bt, ot, _, _, hit, hct⟩ := HET.out k x hx
     have HIT := Lib.hid hit
     have HCT := Lib.hid hct
     have HQ := Lib.hid hq
     have HQ2 := Lib.hid hq2
     clear hx hit hct
     go_upto_region 9 with fail
     refine wp_region_fromM (fun W => Mem w none [(X, 39, stc S u), (R, 34, stc S v)] W ∧ RLk (X + 1) h W v S.lk ∧ UR W u S.lk) ⟨hM, hO, hU⟩ ?_
     clear hM hO hU
     rintro Y11 ⟨hM, hO, hU⟩
     refine tF 2 [.v 0 28 (.int .i64 (k : Int)), .v 1 29 ((.slice pt0 l.length ct))] trivial ?_
     refine rF (some 30) (.int .i64 l.length) (Y11) ?_
     refine tF 8 [.a 3 31 (.bool (decide ((k : Int) < (l.length : Int)))) (.bool true), .v 4 32 (.bool true), .v 5 33 (.int .i64 (k : Int)), .a 6 34 (.bool (decide ((k : Int) < 40))) (.bool true), .v 7 35 (.bool true)] ⟨cB (decide_eq_true (by omega)), cB (decide_eq_true (by omega)), trivial⟩ ?_
     refine eF ?_
     go_upto_if 41 with fail
     go_cut [13, 41] (fun p q wc => ∃ (S1 : Es) (v1 : Value) (h1 : Nat), (∃ c, q = .bool c) ∧ (OkE S1 ∧ S1.lk.length ≤ k) ∧ Mem w none [(X, 39, stc S1 u), (R, 34, stc S1 v1)] wc ∧ RLk (X + 1) h1 wc v1 S1.lk ∧ UR wc u S1.lk)
     case first =>
      by_cases hqg : k < gl.length
      case pos =>
       go_upto_region 12 with fail
       have HQG := Lib.hid hqg
       clear hqg
       obtain ⟨g0, hg0⟩ : ∃ g0, gl[k]? = some g0 := ⟨_, List.getElem?_eq_getElem HQG.out⟩
       obtain ⟨bg, og, _, _, hig, hcg⟩ := HEG.out k g0 hg0
       obtain ⟨m, hm, hm1, hm2⟩ : ∃ m, Int.tmod g0 50 = m ∧ -50 < m ∧ m < 50 := ⟨_, rfl, by have := Int.lt_tmod_of_pos g0 (show (0 : Int) < 50 by omega); omega, Int.tmod_lt_of_pos _ (by omega)⟩
       obtain ⟨gg, ht, ht1, ht2⟩ : ∃ gg, Int.tmod (m + 50) 50 = gg ∧ 0 ≤ gg ∧ gg < 50 := ⟨_, rfl, Int.tmod_nonneg _ (by omega), Int.tmod_lt_of_pos _ (by omega)⟩
       have HIG := Lib.hid hig
       have HCG := Lib.hid hcg
       have HM1 := Lib.hid hm
       have HT1 := Lib.hid ht
       have HTB := Lib.hid (And.intro ht1 ht2)
       clear hg0 hig hcg hm ht ht1 ht2
       refine wp_region_fromM (fun W => Mem w none [(X, 39, stc S u), (R, 34, stc S v)] W ∧ RLk (X + 1) h W v S.lk ∧ UR W u S.lk) ⟨hM, hO, hU⟩ ?_
       clear hM hO hU
       rintro Y12 ⟨hM, hO, hU⟩
       refine tF 8 [.v 0 42 ((.slice pg0 gl.length cg)), .v 1 43 (.int .i64 (k : Int)), .x 2 44 23 ((.slice pg0 gl.length cg)) (.int .i64 (k : Int)) (pt bg og), .l 3 45 3 (pt bg og) (.int .i64 g0), .a 4 46 (.int .i64 (Int.tmod g0 50)) (.int .i64 m), .a 5 47 (.int .i64 (IntKind.i64.wrap (m + 50))) (.int .i64 (m + 50)), .a 6 48 (.int .i64 (Int.tmod (m + 50) 50)) (.int .i64 gg), .v 7 13 (.int .i64 gg)] ⟨HIG.out _, ld_gap (HCG.out _ (HLG.out.below hM.b HHG.out)), cI HM1.out, cI (IntWalk.i64_in _ (by omega)), cI HT1.out, trivial⟩ ?_
       refine eF ?_
       go_upto_region 13 with fail
       refine wp_region_fromM (fun W => Mem w none [(X, 39, stc S u), (R, 34, stc S v)] W ∧ RLk (X + 1) h W v S.lk ∧ UR W u S.lk) ⟨hM, hO, hU⟩ ?_
       clear hM hO hU
       rintro Y13 ⟨hM, hO, hU⟩
       refine tF 2 [.l 0 49 34 (pt R 0) (stv (S) (v)), .v 1 50 (.int .i64 gg)] ⟨ld_st hM.a1, trivial⟩ ?_
       refine cF (some 51) 11 #[stv (S) (v), .int .i64 gg] ((esc_rise_any S v gg _ ⟨HS.out.1.t0, HS.out.1.t1⟩ hO.1 hO.2 (by have := HS.out.2; omega)).mono ?_)
       rintro e W1 ⟨v1, rfl, hP, hb⟩
       replace hP : RLk (X + 1) W1.heap.size W1 v1 S.lk := ⟨(OwnL.rsl hP).mono hM.a0.lt (Nat.le_refl _), Nat.le_refl _⟩
       replace hM := hM.below hb
       replace hU := hU.below hb
       clear hb
       generalize hNe : W1.heap.size = h1 at *
       clear hNe
       have hP1 := hP.row (B := R) (.inl (by omega)) (stc (riseP S gg) v1).toArray
       have hU1 := hU.row hM.a1 (RSl.str hO.1) (stc (riseP S gg) v1).toArray
       refine sF 34 (pt R 0) (stv (riseP S gg) v1) (sto_st hM.a1 (stc_len _ _) (riseP S gg) hP.one) ?_
       replace hM := hM.set 1 (cs' := stc (riseP S gg) v1) rfl rfl
       generalize World.setRow _ _ _ = Y14 at *
       replace hP := hP1
       replace hU := hU1
       clear hP1 hU1 hO
       refine eF ?_
       go_upto_region 14 with fail
       refine wp_region_fromM (fun W => Mem w none [(X, 39, stc S u), (R, 34, stc (riseP S gg) v1)] W ∧ RLk (X + 1) h1 W v1 S.lk ∧ UR W u S.lk) ⟨hM, hP, hU⟩ ?_
       clear hM hP hU
       rintro Y15 ⟨hM, hP, hU⟩
       refine tF 4 [.v 0 52 (pt X 1), .l 1 53 3 (pt X 1) (.int .i64 S.tm), .v 2 54 (.int .i64 gg), .a 3 55 (.int .i64 (IntKind.i64.wrap (S.tm + gg))) (.int .i64 (S.tm + gg))] ⟨ld_int hM.a0 1 rfl, cI (IntWalk.i64_in _ (by have := HS.out.1.t0; have := HS.out.1.t1; have := HTB.out; omega)), trivial⟩ ?_
       refine rF (some 56) (.int .i64 (mnI' 1099511627776 (S.tm + gg))) (Y15) ?_
       refine tF 6 [.v 5 57 (pt X 1)] trivial ?_
       have hP1 := hP.row (B := X) (.inl (Nat.lt_succ_self X)) (stc ({ S with tm := mnI' 1099511627776 (S.tm + gg) }) u).toArray
       have hU1 := hU.row hM.a0 (RSl.str hU) (stc ({ S with tm := mnI' 1099511627776 (S.tm + gg) }) u).toArray
       refine sF 3 (pt X 1) (.int .i64 (mnI' 1099511627776 (S.tm + gg))) (sto_tm (s := S) hM.a0 _) ?_
       replace hM := hM.set 0 (cs' := stc ({ S with tm := mnI' 1099511627776 (S.tm + gg) }) u) rfl rfl
       generalize World.setRow _ _ _ = Y16 at *
       replace hP := hP1
       replace hU := hU1
       clear hP1 hU1
       refine eF ?_
       have hq1 : ({ S with tm := mnI' 1099511627776 (S.tm + gg) } : Es) = riseP S gg := by rw [rise_is ⟨HS.out.1.t0, HS.out.1.t1⟩ HTB.out]; rfl
       rw [hq1] at hM
       clear hq1
       have HM5 := Lib.hid hM
       have HP5 := Lib.hid hP
       have HU5 := Lib.hid hU
       have HR5 := Lib.hid (And.intro (riseP_ok HS.out.1 gg) (show (riseP S gg).lk.length ≤ k from HS.out.2))
       clear hM hP hU
       go_wp2_with fail
       go_meet
       exact ⟨riseP S gg, v1, h1, ⟨_, rfl⟩, HR5.out, HM5.out, HP5.out, HU5.out⟩
      go_wp2_with fail
      go_meet
      exact ⟨S, v, h, ⟨_, rfl⟩, HS.out, hM, hO, hU⟩
     case rest =>
      clear HS
      obtain ⟨S1, v1, h1, ⟨q1, rfl⟩, hS1, hM, hO, hU⟩ := hcut
      have HS := Lib.hid hS1
      clear hS1
      have HSTR := Lib.hid (RSl.str hO.1)
      have HSTU := Lib.hid (RSl.str hU)
      obtain ⟨S2, E2, B2, hap, hA, hS2, _, hlk⟩ := app_any HS.out.1 x
      have HAP := Lib.hid hap
      have HA := Lib.hid hA
      have HS2 : Hid (OkE S2 ∧ S2.lk.length ≤ k + 1) := Lib.hid ⟨hS2, Nat.le_trans (lk_stays hlk).2.1 (by have := HS.out.2; omega)⟩
      clear hap hA hS2 hlk
      go_upto_region 15 with fail
      go_cut [14, 15, 16] (fun p e b wc => ∃ (N : Nat) (v2 : Value) (h2 : Nat), p = .pointer (some ⟨N, 0, none⟩) ∧ e = .int .i64 E2 ∧ b = .bool B2 ∧ Mem w none [(N, 34, stc S2 v2), (X, 39, stc S1 u), (R, 34, stc S1 v1)] wc ∧ RLk (X + 1) h2 wc v2 S2.lk ∧ UR wc u S1.lk)
      case first =>
       refine wp_region_M (fun W => Mem w none [(X, 39, stc S1 u), (R, 34, stc S1 v1)] W) (fun W => Mem w none [(X, 39, stc S1 u), (R, 34, stc S1 v1)] W ∧ RLk (X + 1) h1 W v1 S1.lk ∧ UR W u S1.lk) hmx ⟨hM.drew, hO.drew, hU.drew⟩ ?_
       clear hM hO hU
       rintro Y17 ⟨hM, hO, hU⟩
       have hS := hM.sub (.cons_cons _ (.cons_cons _ .slnil))
       refine tD 9 [.l 0 59 34 (pt R 0) (stv (S1) (v1)), .v 1 60 ((.slice pt0 l.length ct)), .v 2 61 (.int .i64 (k : Int)), .x 3 62 22 ((.slice pt0 l.length ct)) (.int .i64 (k : Int)) (pt bt ot), .l 4 63 50 (pt bt ot) (txv x)] ⟨fun W h => ld_st h.a1, fun W h => HIT.out _, fun W h => ld_txS (HCT.out _ (HLT.out.below h.b HHT.out)), trivial⟩ hS ?_
       refine oT 5 10 8 ?_ ?_
       ·
        refine cD (some 64) 12 #[stv (S1) (v1), txv x] ((((esc_apply_any S1 v1 HS.out.1 x htx _ hO.1 hO.2 (by have := HS.out.2; omega)).mono fun _ _ h => HA.out _ _ _ h)).mono ?_)
        rintro e Y18 ⟨v2, rfl, hP, hb⟩
        refine And.intro (hS.below hb) ?_
        replace hS := hS.below hb
        replace hP : OwnL _ Y18 v2 S2.lk := hP
        replace hP : RLk (X + 1) Y18.heap.size Y18 v2 S2.lk := ⟨(OwnL.rsl hP).mono hM.a0.lt (Nat.le_refl _), Nat.le_refl _⟩
        replace hM := hM.below hb
        replace hU := hU.below hb
        clear hb hO
        obtain ⟨h2, hh2⟩ : ∃ h2, h2 = Y18.heap.size := ⟨_, rfl⟩
        rw [← hh2] at hP
        clear hh2
        refine tD 4 [.v 6 58 (.tuple #[stv S2 v2, .int .i64 E2, .bool B2]), .v 7 65 (stv S2 v2), .v 8 66 (.int .i64 E2), .v 9 67 (.bool B2)] trivial hS ?_
        have hN2 : h2 ≤ Y18.heap.size := hP.2
        refine oD 10 3 (rD (some 14) (pt Y18.heap.size 0) (Y18.alloc (.cells (stc zS nilV).toArray 34)) (hS.other _) ?_)
        replace hS := hS.other (.cells (stc zS nilV).toArray 34)
        replace hM := hM.alloc 34 (stc zS nilV)
        replace hP := hP.alloc (.cells (stc zS nilV).toArray 34)
        replace hU := hU.alloc (.cells (stc zS nilV).toArray 34)
        generalize World.alloc _ _ = Y19 at *
        generalize hNe : Y18.heap.size = N at *
        clear hNe
        have hP1 := hP.row (B := N) (.inr hN2) (stc S2 v2).toArray
        have hU1 := hU.row hM.a0 rfl (stc S2 v2).toArray
        have hM1 := hM.set 0 (cs' := stc S2 v2) rfl rfl
        refine oD 11 2 (sD 34 (pt N 0) (stv S2 v2) (sto_st hM.a0 (stc_len _ _) S2 hP.one) (hM1.sub (.cons _ (.cons_cons _ (.cons_cons _ .slnil)))) ?_)
        replace hS := hM1.sub (.cons _ (.cons_cons _ (.cons_cons _ .slnil)))
        replace hM := hM1
        replace hP := hP1
        replace hU := hU1
        clear hM1 hP1 hU1
        generalize World.setRow _ _ _ = Y20 at *
        refine tD 0 [.v 12 15 (.int .i64 E2), .v 13 16 (.bool B2)] trivial hS ?_
        refine eD ?_
        clear hS
        go_wp2_with fail
        go_meet
        exact ⟨_, v2, h2, rfl, rfl, rfl, hM, hP, hU⟩
       ·
        have hXN := hM.a0.lt
        have hON := hO.2
        refine rD (some 14) (pt Y17.heap.size 0) (Y17.alloc (.cells (stc zS nilV).toArray 34)) (hS.other _) ?_
        replace hS := hS.other (.cells (stc zS nilV).toArray 34)
        replace hM := hM.alloc 34 (stc zS nilV)
        replace hO := hO.alloc (.cells (stc zS nilV).toArray 34)
        replace hU := hU.alloc (.cells (stc zS nilV).toArray 34)
        generalize World.alloc _ _ = Y21 at *
        generalize hNe : Y17.heap.size = N at *
        clear hNe
        refine oD 5 7 (cD (some 64) 12 #[stv (S1) (v1), txv x] ((((esc_apply_any S1 v1 HS.out.1 x htx _ hO.1 hO.2 (by have := HS.out.2; omega)).mono fun _ _ h => HA.out _ _ _ h)).mono ?_))
        rintro e Y22 ⟨v2, rfl, hP, hb⟩
        refine And.intro (hS.below hb) ?_
        replace hS := hS.below hb
        replace hP : OwnL _ Y22 v2 S2.lk := hP
        replace hP : RLk (N + 1) Y22.heap.size Y22 v2 S2.lk := ⟨(OwnL.rsl hP).mono hM.a0.lt (Nat.le_refl _), Nat.le_refl _⟩
        replace hM := hM.below hb
        replace hU := hU.below hb
        clear hb hO
        obtain ⟨h2, hh2⟩ : ∃ h2, h2 = Y22.heap.size := ⟨_, rfl⟩
        rw [← hh2] at hP
        clear hh2
        refine tD 3 [.v 6 58 (.tuple #[stv S2 v2, .int .i64 E2, .bool B2]), .v 7 65 (stv S2 v2), .v 8 66 (.int .i64 E2), .v 9 67 (.bool B2)] trivial hS ?_
        have hP1 := hP.row (B := N) (.inl (Nat.lt_succ_self N)) (stc S2 v2).toArray
        have hU1 := hU.row hM.a0 rfl (stc S2 v2).toArray
        have hM1 := hM.set 0 (cs' := stc S2 v2) rfl rfl
        refine oD 11 2 (sD 34 (pt N 0) (stv S2 v2) (sto_st hM.a0 (stc_len _ _) S2 hP.one) (hM1.sub (.cons _ (.cons_cons _ (.cons_cons _ .slnil)))) ?_)
        replace hS := hM1.sub (.cons _ (.cons_cons _ (.cons_cons _ .slnil)))
        replace hM := hM1
        replace hP := hP1
        replace hU := hU1
        clear hM1 hP1 hU1
        generalize World.setRow _ _ _ = Y23 at *
        replace hP : RLk (X + 1) h2 _ v2 S2.lk := ⟨hP.1.mono (Nat.succ_le_succ (Nat.le_of_lt hXN)) (Nat.le_refl _), hP.2⟩
        refine tD 0 [.v 12 15 (.int .i64 E2), .v 13 16 (.bool B2)] trivial hS ?_
        refine eD ?_
        clear hS
        go_wp2_with fail
        go_meet
        exact ⟨_, v2, h2, rfl, rfl, rfl, hM, hP, hU⟩
      case rest =>
       obtain ⟨N, v2, h2, rfl, rfl, rfl, hM, hO, hU⟩ := hcut
       go_upto_region 16 with fail
       go_cut [17, 18, 19] (fun p e b wc => ∃ (Z : Nat) (u2 : Value), p = .pointer (some ⟨Z, 0, none⟩) ∧ e = .int .i64 E2 ∧ b = .bool B2 ∧ Mem w none [(Z, 39, stc S2 u2), (N, 34, stc S2 v2), (X, 39, stc S1 u), (R, 34, stc S1 v1)] wc ∧ RLk (X + 1) h2 wc v2 S2.lk ∧ UR wc u2 S2.lk)
       case first =>
        refine wp_region_M (fun W => Mem w none [(N, 34, stc S2 v2), (X, 39, stc S1 u), (R, 34, stc S1 v1)] W) (fun W => Mem w none [(N, 34, stc S2 v2), (X, 39, stc S1 u), (R, 34, stc S1 v1)] W ∧ RLk (X + 1) h2 W v2 S2.lk ∧ UR W u S1.lk) hmx ⟨hM.drew, hO.drew, hU.drew⟩ ?_
        clear hM hO hU
        rintro Y24 ⟨hM, hO, hU⟩
        have hS := hM.sub (.cons_cons _ (.cons_cons _ (.cons_cons _ .slnil)))
        refine tD 9 [.l 0 69 39 (pt X 0) (stv (S1) (u)), .v 1 70 ((.slice pt0 l.length ct)), .v 2 71 (.int .i64 (k : Int)), .x 3 72 22 ((.slice pt0 l.length ct)) (.int .i64 (k : Int)) (pt bt ot), .l 4 73 50 (pt bt ot) (txv x)] ⟨fun W h => rld_st (s := S1) h.a1, fun W h => HIT.out _, fun W h => ld_txS (HCT.out _ (HLT.out.below h.b HHT.out)), trivial⟩ hS ?_
        refine oT 5 10 8 ?_ ?_
        ·
         refine cD (some 74) 13 #[stv (S1) (u), txv x] ((((refApply_esc S1 u HS.out.1 x htx _ hU (Nat.le_refl _) (by have := HS.out.2; omega)).mono fun _ _ h => refAp HAP.out h)).mono ?_)
         rintro e Y25 ⟨u2, rfl, hu2, hV, hb⟩
         refine And.intro (hS.below hb) ?_
         replace hS := hS.below hb
         replace hM := hM.below hb
         replace hO := hO.below hb
         clear hb hU
         refine tD 4 [.v 6 68 (.tuple #[stv S2 u2, .int .i64 E2, .bool B2]), .v 7 75 (stv S2 u2), .v 8 76 (.int .i64 E2), .v 9 77 (.bool B2)] trivial hS ?_
         have hO2Z := hO.2
         refine oD 10 3 (rD (some 17) (pt Y25.heap.size 0) (Y25.alloc (.cells (stc zS nilV).toArray 39)) (hS.other _) ?_)
         replace hS := hS.other (.cells (stc zS nilV).toArray 39)
         replace hM := hM.alloc 39 (stc zS nilV)
         replace hO := hO.alloc (.cells (stc zS nilV).toArray 39)
         replace hV := hV.alloc (.cells (stc zS nilV).toArray 39)
         generalize World.alloc _ _ = Y26 at *
         generalize hNe : Y25.heap.size = Z at *
         clear hNe
         have hO1 := hO.row (B := Z) (.inr (hO2Z)) (stc S2 u2).toArray
         have hV1 := hV.row hM.a0 rfl (stc S2 u2).toArray
         have hM1 := hM.set 0 (cs' := stc S2 u2) rfl rfl
         refine oD 11 2 (sD 39 (pt Z 0) (stv S2 u2) (rsto_st hM.a0 (stc_len _ _) S2 hu2) (hM1.sub (.cons _ (.cons_cons _ (.cons_cons _ (.cons_cons _ .slnil))))) ?_)
         replace hS := hM1.sub (.cons _ (.cons_cons _ (.cons_cons _ (.cons_cons _ .slnil))))
         replace hM := hM1
         replace hO := hO1
         replace hV := hV1
         clear hM1 hO1 hV1
         generalize World.setRow _ _ _ = Y27 at *
         refine tD 0 [.v 12 18 (.int .i64 E2), .v 13 19 (.bool B2)] trivial hS ?_
         refine eD ?_
         clear hS
         go_wp2_with fail
         go_meet
         exact ⟨_, u2, rfl, rfl, rfl, hM, hO, hV⟩
        ·
         have hO2Z := hO.2
         refine rD (some 17) (pt Y24.heap.size 0) (Y24.alloc (.cells (stc zS nilV).toArray 39)) (hS.other _) ?_
         replace hS := hS.other (.cells (stc zS nilV).toArray 39)
         replace hM := hM.alloc 39 (stc zS nilV)
         replace hO := hO.alloc (.cells (stc zS nilV).toArray 39)
         replace hU := hU.alloc (.cells (stc zS nilV).toArray 39)
         generalize World.alloc _ _ = Y28 at *
         generalize hNe : Y24.heap.size = Z at *
         clear hNe
         refine oD 5 7 (cD (some 74) 13 #[stv (S1) (u), txv x] ((((refApply_esc S1 u HS.out.1 x htx _ hU (Nat.le_refl _) (by have := HS.out.2; omega)).mono fun _ _ h => refAp HAP.out h)).mono ?_))
         rintro e Y29 ⟨u2, rfl, hu2, hV, hb⟩
         refine And.intro (hS.below hb) ?_
         replace hS := hS.below hb
         replace hM := hM.below hb
         replace hO := hO.below hb
         clear hb hU
         refine tD 3 [.v 6 68 (.tuple #[stv S2 u2, .int .i64 E2, .bool B2]), .v 7 75 (stv S2 u2), .v 8 76 (.int .i64 E2), .v 9 77 (.bool B2)] trivial hS ?_
         have hO1 := hO.row (B := Z) (.inr (hO2Z)) (stc S2 u2).toArray
         have hV1 := hV.row hM.a0 rfl (stc S2 u2).toArray
         have hM1 := hM.set 0 (cs' := stc S2 u2) rfl rfl
         refine oD 11 2 (sD 39 (pt Z 0) (stv S2 u2) (rsto_st hM.a0 (stc_len _ _) S2 hu2) (hM1.sub (.cons _ (.cons_cons _ (.cons_cons _ (.cons_cons _ .slnil))))) ?_)
         replace hS := hM1.sub (.cons _ (.cons_cons _ (.cons_cons _ (.cons_cons _ .slnil))))
         replace hM := hM1
         replace hO := hO1
         replace hV := hV1
         clear hM1 hO1 hV1
         generalize World.setRow _ _ _ = Y30 at *
         refine tD 0 [.v 12 18 (.int .i64 E2), .v 13 19 (.bool B2)] trivial hS ?_
         refine eD ?_
         clear hS
         go_wp2_with fail
         go_meet
         exact ⟨_, u2, rfl, rfl, rfl, hM, hO, hV⟩
       case rest =>
        obtain ⟨Z, u2, rfl, rfl, rfl, hM, hO, hU⟩ := hcut
        go_upto_region 17 with fail
        refine wp_region_M (fun W => Mem w none [(Z, 39, stc S2 u2), (N, 34, stc S2 v2), (X, 39, stc S1 u), (R, 34, stc S1 v1)] W) (fun W => Mem w none [(Z, 39, stc S2 u2), (N, 34, stc S2 v2), (X, 39, stc S1 u), (R, 34, stc S1 v1)] W ∧ RLk (X + 1) h2 W v2 S2.lk ∧ UR W u2 S2.lk) hmx ⟨hM.drew, hO.drew, hU.drew⟩ ?_
        clear hM hO hU
        rintro Y31 ⟨hM, hO, hU⟩
        have hS := hM.sub (.cons_cons _ (.cons_cons _ (.cons_cons _ (.cons_cons _ .slnil))))
        refine tD 14 [.l 0 78 34 (pt N 0) (stv (S2) (v2)), .l 2 80 39 (pt Z 0) (stv (S2) (u2))] ⟨fun W h => ld_st h.a1, fun W h => rld_st (s := S2) h.a0, trivial⟩ hS ?_
        refine oD 1 13 (cD (some 79) 10 #[stv (S2) (v2)] ((plain12_any S2 v2 _ hO.1 hO.2 (by have := HS2.out.2; omega)).mono ?_))
        rintro e W1 ⟨u3, rfl, hV, hb⟩
        refine And.intro (hS.below hb) ?_
        replace hS := hS.below hb
        replace hM := hM.below hb
        replace hO := hO.below hb
        replace hU := hU.below hb
        clear hb
        refine oD 3 12 (cD (some 81) 14 #[stv S2 u3, stv (S2) (u2)] ((same12_any S2 u3 u2 _ (OwnM.rsl hV) (Nat.le_refl _) hU (Nat.le_refl _)).mono ?_))
        rintro e W2 ⟨rfl, hb⟩
        refine And.intro (hS.below hb) ?_
        replace hS := hS.below hb
        replace hM := hM.below hb
        replace hO := hO.below hb
        replace hU := hU.below hb
        clear hb hV
        refine tD 8 [.v 4 82 (.bool false), .v 5 83 (.bool false), .v 6 84 (.int .i64 E2), .v 8 86 (.int .i64 E2)] trivial hS ?_
        refine oD 7 7 (cD (some 85) _ _ ((num12_any E2 _).mono ?_))
        rintro e W3 ⟨rfl, rfl⟩
        refine And.intro (hS) ?_
        refine tD 0 [.a 9 87 (.bool (E2 != E2)) (.bool false), .v 10 88 (.bool false), .v 11 89 (.bool false), .v 12 90 (.bool B2), .v 13 91 (.bool B2), .a 14 92 (.bool (B2 != B2)) (.bool false), .v 15 93 (.bool false)] ⟨cB (bne_self_eq_false _), cB (bne_self_eq_false _), trivial⟩ hS ?_
        refine eD ?_
        clear hS
        go_upto_region 19 with fail
        refine wp_region_M (fun W => Mem w none [(Z, 39, stc S2 u2), (N, 34, stc S2 v2)] W) (fun W => Mem w none [(Z, 39, stc S2 u2), (N, 34, stc S2 v2), (X, 39, stc S1 u), (R, 34, stc S1 v1)] W ∧ RLk (X + 1) h2 W v2 S2.lk ∧ UR W u2 S2.lk) hmx ⟨hM.drew, hO.drew, hU.drew⟩ ?_
        clear hM hO hU
        rintro Y32 ⟨hM, hO, hU⟩
        have hS := hM.sub (.cons_cons _ (.cons_cons _ (.cons _ (.cons _ .slnil))))
        refine tD 2 [.l 0 94 34 (pt N 0) (stv (S2) (v2)), .l 1 95 39 (pt Z 0) (stv (S2) (u2))] ⟨fun W h => ld_st h.a1, fun W h => rld_st (s := S2) h.a0, trivial⟩ hS ?_
        have hO1 := hO.row (B := R) (.inl (by omega)) (stc S2 v2).toArray
        have hU1 := hU.row hM.a3 HSTR.out (stc S2 v2).toArray
        have hM1 := hM.set 3 (cs' := stc S2 v2) rfl rfl
        refine oD 2 1 (sD 34 (pt R 0) (stv (S2) (v2)) (sto_st hM.a3 (stc_len _ _) S2 hO.one) (hM1.sub (.cons_cons _ (.cons_cons _ (.cons _ (.cons _ .slnil))))) ?_)
        replace hS := hM1.sub (.cons_cons _ (.cons_cons _ (.cons _ (.cons _ .slnil))))
        replace hM := hM1
        clear hM1
        generalize World.setRow _ _ _ = Y33 at *
        replace hO := hO1
        replace hU := hU1
        clear hO1 hU1
        have hO1 := hO.row (B := X) (.inl (Nat.lt_succ_self X)) (stc S2 u2).toArray
        have hU1 := hU.row hM.a2 HSTU.out (stc S2 u2).toArray
        have hM1 := hM.set 2 (cs' := stc S2 u2) rfl rfl
        refine oD 3 0 (sD 39 (pt X 0) (stv (S2) (u2)) (rsto_st hM.a2 (stc_len _ _) S2 (RSl.one hU)) (hM1.sub (.cons_cons _ (.cons_cons _ (.cons _ (.cons _ .slnil))))) ?_)
        replace hS := hM1.sub (.cons_cons _ (.cons_cons _ (.cons _ (.cons _ .slnil))))
        replace hM := hM1
        clear hM1
        generalize World.setRow _ _ _ = Y34 at *
        replace hO := hO1
        replace hU := hU1
        clear hO1 hU1
        refine eD ?_
        clear hS
        have hM5 := hM.tail.tail
        have HM5 := Lib.hid hM5
        have HO5 := Lib.hid hO
        have HU5 := Lib.hid hU
        clear hM hM5 hO hU
        have hkk := HQ.out
        have hkm := HML.out
        have hwr : IntKind.i64.wrap ((k : Int) + 1) = ((k + 1 : Nat) : Int) := (IntWalk.i64_in _ (by omega)).trans (by omega)
        go_wp2_with fail
        go_roundw
        case rel => exact ⟨k + 1, S2, v2, h2, u2, HQ.out, HQ2.out, by go_num, HS2.out, HM5.out, HO5.out, HU5.out⟩
        case measure => have := HQ2.out; simp [intOf]; omega
    go_upto_region 9 with fail
    refine wp_region_fromM (fun W => Mem w none [(X, 39, stc S u), (R, 34, stc S v)] W ∧ RLk (X + 1) h W v S.lk ∧ UR W u S.lk) ⟨hM, hO, hU⟩ ?_
    clear hM hO hU
    rintro Y35 ⟨hM, hO, hU⟩
    refine tF 2 [.v 0 28 (.int .i64 (k : Int)), .v 1 29 ((.slice pt0 l.length ct))] trivial ?_
    refine rF (some 30) (.int .i64 l.length) (Y35) ?_
    refine tF 8 [.a 3 31 (.bool (decide ((k : Int) < (l.length : Int)))) (.bool true), .v 4 32 (.bool true), .v 5 33 (.int .i64 (k : Int)), .a 6 34 (.bool (decide ((k : Int) < 40))) (.bool false), .v 7 35 (.bool false)] ⟨cB (decide_eq_true (by omega)), cB (decide_eq_false (by omega)), trivial⟩ ?_
    refine eF ?_
    go_upto_region 20 with fail
    refine wp_region_fromM (fun W => Mem w none [(X, 39, stc S u), (R, 34, stc S v)] W ∧ RLk (X + 1) h W v S.lk ∧ UR W u S.lk) ⟨hM, hO, hU⟩ ?_
    clear hM hO hU
    rintro Y36 ⟨hM, hO, hU⟩
    refine tF 1 [.v 0 8 (.bool true)] trivial ?_
    refine eF ?_
    go_wp2_with fail
    go_ret
    exact ⟨rfl, hM.b⟩
   have hlt := hq
   clear hq
   go_upto_region 9 with fail
   refine wp_region_fromM (fun W => Mem w none [(X, 39, stc S u), (R, 34, stc S v)] W ∧ RLk (X + 1) h W v S.lk ∧ UR W u S.lk) ⟨hM, hO, hU⟩ ?_
   clear hM hO hU
   rintro Y37 ⟨hM, hO, hU⟩
   refine tF 2 [.v 0 28 (.int .i64 (k : Int)), .v 1 29 ((.slice pt0 l.length ct))] trivial ?_
   refine rF (some 30) (.int .i64 l.length) (Y37) ?_
   refine tF 8 [.a 3 31 (.bool (decide ((k : Int) < (l.length : Int)))) (.bool false), .v 4 32 (.bool false), .skip 5 (some 33), .skip 6 (some 34), .v 7 35 (.bool false)] ⟨cB (decide_eq_false (by omega)), trivial⟩ ?_
   refine eF ?_
   go_upto_region 20 with fail
   refine wp_region_fromM (fun W => Mem w none [(X, 39, stc S u), (R, 34, stc S v)] W ∧ RLk (X + 1) h W v S.lk ∧ UR W u S.lk) ⟨hM, hO, hU⟩ ?_
   clear hM hO hU
   rintro Y38 ⟨hM, hO, hU⟩
   refine tF 1 [.v 0 8 (.bool true)] trivial ?_
   refine eF ?_
   go_wp2_with fail
   go_ret
   exact ⟨rfl, hM.b⟩
end Go.Proofs.YthhmdgmmeedhdaaGreat
namespace Go.Proofs.YthhmdgmmeedhdaaGreat
open Go.ChangeShapes Go.WideShapes Go.ChangeAt Go.RowKit Go.Deep
open Go.ChangeMaps (open_string)
set_option maxRecDepth 100000 in
theorem escrowRuns_lifted (os : Os) (started : os.Started) (H : Type) (enc : TypeId × Value → H) :
  ReturnsInHanded {} Tryz.checked os 3 .any (Rows.escrowRunsSpec.pre6 enc Tryz.prog Tryz.f3 Rows.escrowRunsRow.domain false) (Rows.escrowRunsSpec.post enc Tryz.prog Tryz.f3 false true false false) := by
 refine returnsInHanded_of_change_sized (C := Tryz.checked) Tryz.own started (by kernel_rfl) Tryz.func3
  (ChangeSpec.witness6 (enc := enc) (C := Tryz.checked) false ⟨#[], #[.bool false, .int .i64 0, .slice none 0 0, .slice none 0 0], []⟩ 8 (by kernel_rfl) (by kernel_rfl) (by kernel_rfl) (by kernel_rfl)) ?_
 intro W base args ds gs before hval0 hW hcnd hsz0 _
 have hval : ∀ (j : Nat) t v, Tryz.f3.params[j]? = some t → args[j]? = some v → Value.okWide Tryz.prog W .any base t v := hval0
 have hW' := hW
 obtain ⟨p, q, hA0, hV, rfl, hfz, hnd⟩ := hW
 have hA : DataW.TrodAll enc Tryz.prog W 0 (fun _ => true) true Tryz.f3.params.toList args.toList ds p := hA0
 have hsz : (DataW.weightsEach Tryz.prog (Tryz.f3.params.toList ++ Rows.escrowRunsSpec.plain.varTypes Tryz.prog) (ds ++ gs)).all (· ≤ reachBytes) = true := hsz0
 rw [Tryz.params3] at hA hval hsz
 obtain ⟨v0, v1, v2, v3, d0, d1, d2, d3, p0, p1, p2, p3, rfl, rfl, rfl, h0, h1, h2, h3⟩ := trodAll_four hA
 obtain ⟨rfl, rfl⟩ := trodVars_none hV
 obtain ⟨a2, len2, cap2, rfl⟩ := okWide_slice Tryz.underlying22 (hval 2 22 v2 rfl rfl)
 obtain ⟨a3, len3, cap3, rfl⟩ := okWide_slice Tryz.underlying23 (hval 3 23 v3 rfl rfl)
 have k0 := h0
 have k1 := h1
 have k2 := h2
 have k3 := h3
 have lt0 : ∀ x ∈ p0, x.block < W.heap.size := by obtain ⟨m, hm⟩ := k0; exact DataW.trod_lt m _ _ _ hm
 have lt1 : ∀ x ∈ p1, x.block < W.heap.size := by obtain ⟨m, hm⟩ := k1; exact DataW.trod_lt m _ _ _ hm
 have lt2 : ∀ x ∈ p2, x.block < W.heap.size := by obtain ⟨m, hm⟩ := k2; exact DataW.trod_lt m _ _ _ hm
 have lt3 : ∀ x ∈ p3, x.block < W.heap.size := by obtain ⟨m, hm⟩ := k3; exact DataW.trod_lt m _ _ _ hm
 obtain ⟨b0, rfl, _, _⟩ := Go.RowKit.open_bool Tryz.underlying4 (hval 0 4 v0 rfl rfl) h0
 obtain ⟨z1, rfl, _, _, wf1⟩ := open_int Tryz.underlying3 (hval 1 3 v1 rfl rfl) h1
 obtain ⟨zl1, zh1⟩ := wf_i64 wf1
 obtain ⟨l2, hsl2, hok2⟩ := open_txs h2 (fun n hn => sized_in hsz (j := 2) (t := 22) rfl rfl n hn)
 obtain ⟨l3, hsl3, _⟩ := open_ints h3 (fun n hn => sized_in hsz (j := 3) (t := 23) rfl rfl n hn)
 clear hA0 hval0
 refine (escrowRuns_any b0 z1 l2 _ l3 _ W hsl2 (Nat.le_refl _) hok2 hsl3 (Nat.le_refl _)).mono fun e W' ⟨he, bel⟩ => ?_
 subst he
 exact ⟨_, rfl, _, _, _, [], _, [], hW', trodAll_mk1 (shut_bool Tryz.underlying4 _), (trodAll_mk4 (Below.trod Tryz.laidOut (by kernel_rfl) (of_decide_eq_true (by kernel_rfl)) k0 bel lt0) (Below.trod Tryz.laidOut (by kernel_rfl) (of_decide_eq_true (by kernel_rfl)) k1 bel lt1) (Below.trod Tryz.laidOut (by kernel_rfl) (of_decide_eq_true (by kernel_rfl)) k2 bel lt2) (Below.trod Tryz.laidOut (by kernel_rfl) (of_decide_eq_true (by kernel_rfl)) k3 bel lt3)), rfl, bel.frame _, fun h => by cases h⟩
theorem escrowRuns_over : Rows.escrowRunsRow.holds Tryz.pinned (OpenSpec.ofChange Rows.escrowRunsSpec) :=
 OpenClaim.holds_of_wide 3 Tryz.f3 rfl rfl rfl rfl rfl rfl rfl ⟨rfl, rfl, rfl, rfl, rfl⟩ rfl rfl rfl rfl rfl (by kernel_rfl) Tryz.func3 (by kernel_rfl)
  (of_decide_eq_true (by kernel_rfl)) (by unfold Func.isWrapper; first | (rw [if_pos (by decide +kernel)]; kernel_rfl) | (rw [if_neg (by decide +kernel)]; exact ⟨rfl, rfl⟩))
  (fun os started H enc _ => escrowRuns_lifted os started H enc)
theorem escrowRuns_proved : Rows.EscrowRunsSaid := escrowRuns_over
end Go.Proofs.YthhmdgmmeedhdaaGreat
