/-
  ChainRuns answers true at every input, and leaves its arguments as they are.
-/
import Derived.Deep.Slices
import Derived.SizedLaws
import Derived.Carry
import Derived.ChangeMaps5
import Derived.Test.YtfoemkmoambagaaGreatK14
namespace Go.Proofs.YtfoemkmoambagaaGreat
open Go.RowKit Go.Shelf
attribute [local irreducible] wpFrom wpAnyH StepH
theorem blk_el {W : World} {b : Nat} {T : TypeId} {x : Ev} (h : Blk W b T (evc x)) : ∀ j u, (evc x)[j]? = some u → W.cell? ⟨b, 0 + j, none⟩ = some u := fun j u hj => by
  rw [Nat.zero_add]
  exact (h.cell j).trans hj
theorem sto_opB {W : World} {B : Nat} {T : TypeId} {y : Ev} (h : Blk W B T (evc y)) (x : Ev) : (Instr.storeAt 46 (.pointer (some ⟨B, 0, none⟩)) (.agg (evc x).toArray)).run Tryz.prog W = .ok () (W.setRow B (evc x).toArray) :=
  sto_part _ h 0 _ _ (evc x) rfl (by kernel_rfl) (by simp [evc_len]) (List.all_eq_true.2 (evc_one x)) rfl
theorem tx_laid (y x : Tr) : laid (txc y) 0 (txv x).cells.toList = txc x := rfl
theorem txc_all (x : Tr) : (txv x).cells.all (·.oneCell') = true := by
  show ((txc x).toArray.all (·.oneCell')) = true
  rw [← Array.all_toList]
  exact List.all_eq_true.2 (txc_one x)
def nextW (s : Es) (l : List Tr) (acc : Int) : Int := if 0 ≤ acc ∧ acc < 8 then passesN acc l (l.length + 1) (s.no acc.toNat) else 0
theorem chnNext_val {B : Nat} {c : Ch} {v pv q : Value} {bs : List Nat} (acc : Int) (w : World) (hv : ChV w B c v pv q bs) (htx : ∀ t ∈ c.po, errT t = 0) : Calls Tryz.prog 22 #[.pointer (some ⟨B, 0, none⟩), .int .i64 acc] w fun e W' => e = .returned (.int .i64 (nextW c.st c.po acc)) ∧ Below w.heap.size w W' := by
  unfold nextW
  by_cases h : 0 ≤ acc ∧ acc < 8
  · rw [if_pos h]
    obtain ⟨a, rfl⟩ : ∃ a : Nat, acc = a := ⟨acc.toNat, by omega⟩
    refine (chnNext_in (a := a) (by omega) w hv htx).mono fun e W' h1 => ?_
    obtain ⟨n, h2, h3, h4⟩ := h1
    rw [nextN_one h3 (passes_next _ _ _)] at h2
    exact ⟨h2, h4⟩
  · rw [if_neg h]
    exact chnNext_out acc (by omega) w hv
theorem next13_val (s : Es) (v : Value) (l : List Tr) (acc : Int) (htx : ∀ t ∈ l, errT t = 0) (hn8 : l.length ≤ 16384) (lv : Value) (w : World) {lo hi : Nat} (hl : RSl (fun t => txc t) lo hi w lv l) (hhi : hi ≤ w.heap.size) : Calls Tryz.prog 23 #[stv s v, lv, .int .i64 acc] w fun e W' => e = .returned (.int .i64 (nextW s l acc)) ∧ Below w.heap.size w W' := by
  unfold nextW
  by_cases h : 0 ≤ acc ∧ acc < 8
  · rw [if_pos h]
    obtain ⟨a, rfl⟩ : ∃ a : Nat, acc = a := ⟨acc.toNat, by omega⟩
    exact next13_in s v l (by omega) htx hn8 lv w hl hhi
  · rw [if_neg h]
    exact next13_out s v l acc (by omega) lv w hl hhi
def modW (z : Int) : Int := Int.tmod (Int.tmod z 4 + 4) 4
theorem modW_is (z : Int) : modW z = 0 ∨ modW z = 1 ∨ modW z = 2 ∨ modW z = 3 := by
  have h1 := Int.lt_tmod_of_pos z (show (0 : Int) < 4 by omega)
  have h2 := Int.tmod_lt_of_pos z (show (0 : Int) < 4 by omega)
  have h3 := Int.tmod_nonneg (a := Int.tmod z 4 + 4) 4 (by omega)
  have h4 := Int.tmod_lt_of_pos (Int.tmod z 4 + 4) (show (0 : Int) < 4 by omega)
  unfold modW
  omega
theorem mod_sum (z : Int) : IntKind.i64.wrap (Int.tmod z 4 + 4) = Int.tmod z 4 + 4 := IntWalk.i64_in _ (by
  have h1 := Int.lt_tmod_of_pos z (show (0 : Int) < 4 by omega)
  have h2 := Int.tmod_lt_of_pos z (show (0 : Int) < 4 by omega)
  omega)
set_option maxRecDepth 100000 in
def RunsR (w : World) (B P O k : Nat) (g : Int) (s0 s1 s2 s3 s4 s5 s6 s7 s13 s26 s27 s28 s29 s30 s31 s32 s33 s34 s35 s36 s37 : Value) (a' : Act) (w' : World) : Prop :=
  ∃ u8 u11 u12 u15 u16 u17 u18 u19 u20 u21 u22 u23 u24 u25 u38 u39 u40 u41 u42 u43 u44 u45 u46 u47 u48 u49 u50 u51 u52 u53 u54 u55 u57 u58 u59 u60 u61 u62 u63 u64 u65 u66 u67 u68 u69 u70 u71 u72 u73 u74 u75 u76 u77 u78 u79 u80 u81 u82 u83 u84 u85 u86 u87 u88 u89 u90 u91 u92 u93 u94 u95 u96 u97 u98 u99 u100 u101 u102 u103 u104 u105 u106 u107 u108 u109 u110 u111 u112 u113 u114 u115 u116 u117 u118 u119 u120 u121 u122 u123 u124 u125 u126 u127 u128 u129 u130 u131 u132 u133 u134 u135 u136 u137 u138 u139 u140 u141 u142 u143 u144 u145 u146 u147 u148 u149 u150 u151 u152 u153 u154 u155 u156 u157 u158 u159 u160 u161 u162 u163 u164 u165 u166 u167 u168 u169 u170 u171 u172 u173 u174 u175 u176 u177 u178 u179 u180 u181 u182 u183 u184 u185 u186 u187 u188 u189 u190 u191 u192 u193 u194 u195 u196 u197 u198 u199 u200 u201 u202 u203 u204 u205 u206 u207 u208 u209 u210 u211 u212 u213 u214 u215 u216 u217 u218 u219 u220 u221 u222 u223 u224 u225 u226 u227 u228 u229 u230 u231 u232 u233 u234 u235 u236 u237 u238 u239 u240 u241 u242 u243 u244 : Value, (∃ (C : Ch) (v pv q : Value) (bs : List Nat) (vs : Value), OkC C (k + 1) ∧ Sep w [] [.own lkc 91 3 (vs) (C.st.lk), .own (fun t => txc t) 44 25 (u11) (C.po), .own evc 54 27 (u12) (C.ev), .blk P 35 (stc C.st vs), .join (CHR B C v pv q bs)] w') ∧ a' = ⟨#[s0, s1, s2, s3, s4, s5, s6, s7, u8, .pointer (some ⟨B, 0, none⟩), .pointer (some ⟨P, 0, none⟩), u11, u12, s13, .pointer (some ⟨O, 0, none⟩), u15, u16, u17, u18, u19, u20, u21, u22, u23, u24, u25, s26, s27, s28, s29, s30, s31, s32, s33, s34, s35, s36, s37, u38, u39, u40, u41, u42, u43, u44, u45, u46, u47, u48, u49, u50, u51, u52, u53, u54, u55, .int .i64 g, u57, u58, u59, u60, u61, u62, u63, u64, u65, u66, u67, u68, u69, u70, u71, u72, u73, u74, u75, u76, u77, u78, u79, u80, u81, u82, u83, u84, u85, u86, u87, u88, u89, u90, u91, u92, u93, u94, u95, u96, u97, u98, u99, u100, u101, u102, u103, u104, u105, u106, u107, u108, u109, u110, u111, u112, u113, u114, u115, u116, u117, u118, u119, u120, u121, u122, u123, u124, u125, u126, u127, u128, u129, u130, u131, u132, u133, u134, u135, u136, u137, u138, u139, u140, u141, u142, u143, u144, u145, u146, u147, u148, u149, u150, u151, u152, u153, u154, u155, u156, u157, u158, u159, u160, u161, u162, u163, u164, u165, u166, u167, u168, u169, u170, u171, u172, u173, u174, u175, u176, u177, u178, u179, u180, u181, u182, u183, u184, u185, u186, u187, u188, u189, u190, u191, u192, u193, u194, u195, u196, u197, u198, u199, u200, u201, u202, u203, u204, u205, u206, u207, u208, u209, u210, u211, u212, u213, u214, u215, u216, u217, u218, u219, u220, u221, u222, u223, u224, u225, u226, u227, u228, u229, u230, u231, u232, u233, u234, u235, u236, u237, u238, u239, u240, u241, u242, u243, u244], []⟩
def findBlk (n : Nat) : Code → Option Code
  | .block m c => if m = n then some (.block m c) else findBlk n c
  | .seq a b => match findBlk n a with
    | some c => some c
    | none => findBlk n b
  | .loop c => findBlk n c
  | .cond _ a b => match findBlk n a with
    | some c => some c
    | none => findBlk n b
  | _ => none
noncomputable def runsBlk : Code := ((Tryz.f3.body.bind (findBlk 2)).getD .skip)
set_option maxRecDepth 100000 in
set_option maxHeartbeats 4000000 in
theorem runs_w0 {w W : World} {B P O k : Nat} {x : Ev} {C : Ch} {v pv q vs : Value} {bs : List Nat} {ap ae : Option Addr} {cp ce : Nat} (HC : Hid (OkC C k)) (HTX : Hid (OkT x.tx)) (hM : Sep w [] [.blk O 46 (evc x), .own lkc 91 3 (vs) (C.st.lk), .own (fun t => txc t) 44 25 (.slice ap C.po.length cp) (C.po), .own evc 54 27 (.slice ae C.ev.length ce) (C.ev), .blk P 35 (stc C.st vs), .join (CHR B C v pv q bs)] W)
    {s0 s1 s2 s3 s4 s5 s6 s7 s8 s13 s15 s16 s17 s18 s19 s20 s21 s22 s23 s24 s25 s26 s27 s28 s29 s30 s31 s32 s33 s34 s35 s36 s37 s38 s39 s40 s41 s42 s43 s44 s45 s46 s47 s48 s49 s50 s51 s52 s53 s54 s55 s57 s58 s59 s60 s61 s62 s63 s64 s65 s66 s67 s68 s69 s70 s71 s72 s73 s74 s75 s76 s77 s78 s79 s80 s81 s82 s83 s84 s85 s86 s87 s88 s89 s90 s91 s92 s93 s94 s95 s96 s97 s98 s99 s100 s101 s102 s103 s104 s105 s106 s107 s108 s109 s110 s111 s112 s113 s114 s115 s116 s117 s118 s119 s120 s121 s122 s123 s124 s125 s126 s127 s128 s129 s130 s131 s132 s133 s134 s135 s136 s137 s138 s139 s140 s141 s142 s143 s144 s145 s146 s147 s148 s149 s150 s151 s152 s153 s154 s155 s156 s157 s158 s159 s160 s161 s162 s163 s164 s165 s166 s167 s168 s169 s170 s171 s172 s173 s174 s175 s176 s177 s178 s179 s180 s181 s182 s183 s184 s185 s186 s187 s188 s189 s190 s191 s192 s193 s194 s195 s196 s197 s198 s199 s200 s201 s202 s203 s204 s205 s206 s207 s208 s209 s210 s211 s212 s213 s214 s215 s216 s217 s218 s219 s220 s221 s222 s223 s224 s225 s226 s227 s228 s229 s230 s231 s232 s233 s234 s235 s236 s237 s238 s239 s240 s241 s242 s243 s244 : Value} (J K' : Act → World → Prop) (Q' : Exit → Act → World → Prop) (hR : ∀ a' w', RunsR w B P O k 0 s0 s1 s2 s3 s4 s5 s6 s7 s13 s26 s27 s28 s29 s30 s31 s32 s33 s34 s35 s36 s37 a' w' → J a' w') (hK : ∀ a' w', Met J a' w' → K' a' w') :
    Code.wp Tryz.prog runsBlk (Exit.then K' Q') ⟨#[s0, s1, s2, s3, s4, s5, s6, s7, s8, .pointer (some ⟨B, 0, none⟩), .pointer (some ⟨P, 0, none⟩), .slice ap C.po.length cp, .slice ae C.ev.length ce, s13, .pointer (some ⟨O, 0, none⟩), s15, s16, s17, s18, s19, s20, s21, s22, s23, s24, s25, s26, s27, s28, s29, s30, s31, s32, s33, s34, s35, s36, s37, s38, s39, s40, s41, s42, s43, s44, s45, s46, s47, s48, s49, s50, s51, s52, s53, s54, s55, .int .i64 0, s57, s58, s59, s60, s61, s62, s63, s64, s65, s66, s67, s68, s69, s70, s71, s72, s73, s74, s75, s76, s77, s78, s79, s80, s81, s82, s83, s84, s85, s86, s87, s88, s89, s90, s91, s92, s93, s94, s95, s96, s97, s98, s99, s100, s101, s102, s103, s104, s105, s106, s107, s108, s109, s110, s111, s112, s113, s114, s115, s116, s117, s118, s119, s120, s121, s122, s123, s124, s125, s126, s127, s128, s129, s130, s131, s132, s133, s134, s135, s136, s137, s138, s139, s140, s141, s142, s143, s144, s145, s146, s147, s148, s149, s150, s151, s152, s153, s154, s155, s156, s157, s158, s159, s160, s161, s162, s163, s164, s165, s166, s167, s168, s169, s170, s171, s172, s173, s174, s175, s176, s177, s178, s179, s180, s181, s182, s183, s184, s185, s186, s187, s188, s189, s190, s191, s192, s193, s194, s195, s196, s197, s198, s199, s200, s201, s202, s203, s204, s205, s206, s207, s208, s209, s210, s211, s212, s213, s214, s215, s216, s217, s218, s219, s220, s221, s222, s223, s224, s225, s226, s227, s228, s229, s230, s231, s232, s233, s234, s235, s236, s237, s238, s239, s240, s241, s242, s243, s244], []⟩ W := by
  have hmx : Tryz.prog.follows .mixedOrders = true := by kernel_rfl
  let Q0 := bodyPost Tryz.prog Tryz.f3
  conv => arg 2; whnf
  go_upto_region 21 with fail
  refine wp_region_fromM (fun W => Sep w [] [.blk O 46 (evc x), .own lkc 91 3 (vs) (C.st.lk), .own (fun t => txc t) 44 25 (.slice ap C.po.length cp) (C.po), .own evc 54 27 (.slice ae C.ev.length ce) (C.ev), .blk P 35 (stc C.st vs), .join (CHR B C v pv q bs)] W) hM ?_
  clear hM
  rintro Y15 hM
  refine tF 2 [.val 0 (some 82) (.bool true), .val 1 (some 81) (.bool true)] trivial ?_
  refine dF ?_
  try simp only [puts, Tk.put, Act.put, List.setIfInBounds_toArray, List.set_cons_zero, List.set_cons_succ]
  go_upto_region 22 with fail
  go_cut [15] (fun s wc => s = .bool (submitB C x.tx) ∧ Sep w [] [.blk O 46 (evc x), .own lkc 91 3 (vs) (C.st.lk), .own (fun t => txc t) 44 25 (.slice ap C.po.length cp) (C.po), .own evc 54 27 (.slice ae C.ev.length ce) (C.ev), .blk P 35 (stc C.st vs), .join (CHR B C v pv q bs)] wc)
  case first =>
    by_cases hq3 : errT x.tx = 0
    · have HQ3 := Lib.hid hq3
      clear hq3
      by_cases hq4 : C.po.length < 128
      · have HQ4 := Lib.hid hq4
        clear hq4
        refine wp_region_fromM (fun W => Sep w [] [.blk O 46 (evc x), .own lkc 91 3 (vs) (C.st.lk), .own (fun t => txc t) 44 25 (.slice ap C.po.length cp) (C.po), .own evc 54 27 (.slice ae C.ev.length ce) (C.ev), .blk P 35 (stc C.st vs), .join (CHR B C v pv q bs)] W) hM ?_
        clear hM
        rintro Y16 hM
        refine tF 2 [.val 0 (some 83) (pt O 2), .load 1 (some 84) 44 (pt O 2) (txv x.tx)] ⟨ld_elT (blk_el (hM.at 0 rfl)), trivial⟩ ?_
        refine cF (some 85) 10 #[txv x.tx] ((txsCheck_any x.tx _).mono ?_)
        rintro e W1 ⟨rfl, hb⟩
        replace hM := hM.below hb
        clear hb
        refine tF 6 [.alt 3 (some 86) (.bool (errT x.tx == 0)) (.bool true), .val 4 (some 87) (.bool true), .val 5 (some 88) (.slice ap C.po.length cp)] ⟨congrArg Value.bool (beq_iff_eq.2 HQ3.out), trivial⟩ ?_
        refine rF (some 89) (.int .i64 C.po.length) (W1) ?_
        refine tF 13 [.alt 7 (some 90) (.bool (decide ((C.po.length : Int) < 128))) (.bool true), .val 8 (some 91) (.bool true), .val 9 (some 92) (.bool true), .val 10 (some 93) (.slice ap C.po.length cp), .val 11 (some 94) (pt O 2), .load 12 (some 95) 44 (pt O 2) (txv x.tx)] ⟨congrArg Value.bool (decide_eq_true (by have := HQ4.out; omega)), ld_elT (blk_el (hM.at 0 rfl)), trivial⟩ ?_
        refine cF (some 96) 11 #[.slice ap C.po.length cp, txv x.tx] ((has13_any C.po x.tx _ _ ((hM.oka 2 rfl).rsl txc_25) (Nat.le_refl _)).mono ?_)
        rintro e W2 ⟨rfl, hb⟩
        replace hM := hM.below hb
        clear hb
        refine tF 17 [.val 14 (some 97) (.bool (!(C.po.any fun y => eqT y x.tx))), .val 15 (some 98) (.bool (!(C.po.any fun y => eqT y x.tx))), .val 16 (some 15) (.bool (!(C.po.any fun y => eqT y x.tx)))] trivial ?_
        refine dF ?_
        try simp only [puts, Tk.put, Act.put, List.setIfInBounds_toArray, List.set_cons_zero, List.set_cons_succ]
        go_wp2_with fail
        go_meet
        exact ⟨by unfold submitB; rw [decide_eq_true HQ3.out, decide_eq_true HQ4.out]; rfl, hM⟩
      · have HQ4 := Lib.hid hq4
        clear hq4
        refine wp_region_fromM (fun W => Sep w [] [.blk O 46 (evc x), .own lkc 91 3 (vs) (C.st.lk), .own (fun t => txc t) 44 25 (.slice ap C.po.length cp) (C.po), .own evc 54 27 (.slice ae C.ev.length ce) (C.ev), .blk P 35 (stc C.st vs), .join (CHR B C v pv q bs)] W) hM ?_
        clear hM
        rintro Y17 hM
        refine tF 2 [.val 0 (some 83) (pt O 2), .load 1 (some 84) 44 (pt O 2) (txv x.tx)] ⟨ld_elT (blk_el (hM.at 0 rfl)), trivial⟩ ?_
        refine cF (some 85) 10 #[txv x.tx] ((txsCheck_any x.tx _).mono ?_)
        rintro e W1 ⟨rfl, hb⟩
        replace hM := hM.below hb
        clear hb
        refine tF 6 [.alt 3 (some 86) (.bool (errT x.tx == 0)) (.bool true), .val 4 (some 87) (.bool true), .val 5 (some 88) (.slice ap C.po.length cp)] ⟨congrArg Value.bool (beq_iff_eq.2 HQ3.out), trivial⟩ ?_
        refine rF (some 89) (.int .i64 C.po.length) (W1) ?_
        refine tF 13 [.alt 7 (some 90) (.bool (decide ((C.po.length : Int) < 128))) (.bool false), .val 8 (some 91) (.bool false), .val 9 (some 92) (.bool false), .skip 10 (some 93), .skip 11 (some 94), .skip 12 (some 95)] ⟨congrArg Value.bool (decide_eq_false (by have := HQ4.out; omega)), trivial⟩ ?_
        refine wpFrom_not (d := some 96) (by kernel_rfl) ?_
        refine tF 17 [.skip 14 (some 97), .val 15 (some 98) (.bool false), .val 16 (some 15) (.bool false)] trivial ?_
        refine dF ?_
        try simp only [puts, Tk.put, Act.put, List.setIfInBounds_toArray, List.set_cons_zero, List.set_cons_succ]
        go_wp2_with fail
        go_meet
        exact ⟨by unfold submitB; rw [decide_eq_true HQ3.out, decide_eq_false HQ4.out]; rfl, hM⟩
    · have HQ3 := Lib.hid hq3
      clear hq3
      refine wp_region_fromM (fun W => Sep w [] [.blk O 46 (evc x), .own lkc 91 3 (vs) (C.st.lk), .own (fun t => txc t) 44 25 (.slice ap C.po.length cp) (C.po), .own evc 54 27 (.slice ae C.ev.length ce) (C.ev), .blk P 35 (stc C.st vs), .join (CHR B C v pv q bs)] W) hM ?_
      clear hM
      rintro Y18 hM
      refine tF 2 [.val 0 (some 83) (pt O 2), .load 1 (some 84) 44 (pt O 2) (txv x.tx)] ⟨ld_elT (blk_el (hM.at 0 rfl)), trivial⟩ ?_
      refine cF (some 85) 10 #[txv x.tx] ((txsCheck_any x.tx _).mono ?_)
      rintro e W1 ⟨rfl, hb⟩
      replace hM := hM.below hb
      clear hb
      refine tF 6 [.alt 3 (some 86) (.bool (errT x.tx == 0)) (.bool false), .val 4 (some 87) (.bool false), .skip 5 (some 88)] ⟨congrArg Value.bool (beq_eq_false_iff_ne.2 HQ3.out), trivial⟩ ?_
      refine wpFrom_not (d := some 89) (by kernel_rfl) ?_
      refine tF 13 [.skip 7 (some 90), .val 8 (some 91) (.bool false), .val 9 (some 92) (.bool false), .skip 10 (some 93), .skip 11 (some 94), .skip 12 (some 95)] trivial ?_
      refine wpFrom_not (d := some 96) (by kernel_rfl) ?_
      refine tF 17 [.skip 14 (some 97), .val 15 (some 98) (.bool false), .val 16 (some 15) (.bool false)] trivial ?_
      refine dF ?_
      try simp only [puts, Tk.put, Act.put, List.setIfInBounds_toArray, List.set_cons_zero, List.set_cons_succ]
      go_wp2_with fail
      go_meet
      exact ⟨by unfold submitB; rw [decide_eq_false HQ3.out]; rfl, hM⟩
  case rest =>
    obtain ⟨rfl, hM⟩ := hcut
    go_upto_region 23 with fail
    refine wp_region_fromM (fun W => Sep w [] [.blk O 46 (evc x), .own lkc 91 3 (vs) (C.st.lk), .own (fun t => txc t) 44 25 (.slice ap C.po.length cp) (C.po), .own evc 54 27 (.slice ae C.ev.length ce) (C.ev), .blk P 35 (stc C.st vs), .join (CHR B C v pv q bs)] W) hM ?_
    clear hM
    rintro Y19 hM
    refine tF 3 [.val 0 (some 99) (pt B 0), .val 1 (some 100) (pt O 2), .load 2 (some 101) 44 (pt O 2) (txv x.tx)] ⟨ld_elT (blk_el (hM.at 0 rfl)), trivial⟩ ?_
    refine cF (some 102) 12 #[pt B 0, txv x.tx] ((chnSubmit_any x.tx _ (hM.oka 5 rfl) HC.out.po).mono ?_)
    rintro e Y20 ⟨rfl, v1, pv1, q1, bs1, hT⟩
    replace hM := hM.turn 5 rfl hT rfl
    clear hT
    refine tF 6 [.val 4 (some 103) (.bool (submitB C x.tx)), .alt 5 (some 104) (.bool (submitB C x.tx != submitB C x.tx)) (.bool false)] ⟨congrArg Value.bool (bne_self_b _), trivial⟩ ?_
    refine dF ?_
    try simp only [puts, Tk.put, Act.put, List.setIfInBounds_toArray, List.set_cons_zero, List.set_cons_succ]
    go_upto_region 25 with fail
    refine wp_region_fromM (fun W => Sep w [] [.blk O 46 (evc x), .own lkc 91 3 (vs) (C.st.lk), .own (fun t => txc t) 44 25 (.slice ap C.po.length cp) (C.po), .own evc 54 27 (.slice ae C.ev.length ce) (C.ev), .blk P 35 (stc C.st vs), .join (CHR B (submitC C x.tx) v1 pv1 q1 bs1)] W) hM ?_
    clear hM
    rintro Y21 hM
    refine tF 1 [.val 0 (some 105) (.bool (submitB C x.tx))] trivial ?_
    refine dF ?_
    try simp only [puts, Tk.put, Act.put, List.setIfInBounds_toArray, List.set_cons_zero, List.set_cons_succ]
    have HC1 := Lib.hid (submit_ok HC.out HTX.out)
    cases hs : submitB C x.tx with
    | false =>
      rw [submit_no hs] at hM
      clear hs
      have hM5 := Lib.hid (Sep.pick (l' := [.own lkc 91 3 (vs) (C.st.lk), .own (fun t => txc t) 44 25 (.slice ap C.po.length cp) (C.po), .own evc 54 27 (.slice ae C.ev.length ce) (C.ev), .blk P 35 (stc C.st vs), .join (CHR B C v1 pv1 q1 bs1)]) hM [1, 2, 3, 4, 5] (by decide) rfl)
      clear hM
      go_wp2_with fail
      go_meet
      exact ⟨C, v1, pv1, q1, bs1, vs, HC.out.up (Nat.le_succ _), hM5.out⟩
    | true =>
      have hc1 := HC1.out
      rw [submit_yes hs] at hM hc1
      have HC3 := Lib.hid hc1
      clear hs HC1 hc1
      go_upto_region 26 with fail
      refine wp_region_fromM (fun W => Sep w [] [.blk O 46 (evc x), .own lkc 91 3 (vs) (C.st.lk), .own (fun t => txc t) 44 25 (.slice ap C.po.length cp) (C.po), .own evc 54 27 (.slice ae C.ev.length ce) (C.ev), .blk P 35 (stc C.st vs), .join (CHR B ({ C with po := C.po ++ [x.tx] } : Ch) v1 pv1 q1 bs1)] W) hM ?_
      clear hM
      rintro Y22 hM
      refine tF 3 [.val 0 (some 106) (.slice ap C.po.length cp), .val 1 (some 107) (pt O 2), .load 2 (some 108) 44 (pt O 2) (txv x.tx)] ⟨ld_elT (blk_el (hM.at 0 rfl)), trivial⟩ ?_
      refine rF (some 109) (.slice (some ⟨Y22.heap.size, 0, none⟩) 1 1) (Y22.alloc (.cells (txc x.tx).toArray 44)) ?_
      replace hM := hM.alloc 44 (txc x.tx)
      generalize World.alloc _ _ = Y23 at *
      generalize hNe : Y22.heap.size = N at *
      clear hNe
      obtain ⟨vp', Z, hrun, ht⟩ := own_app1 infoTx rfl (by decide) Tryz.underlying37 txc_25 txc_one (hM.oka 3 rfl) x.tx (hM.at 0 rfl) (by decide) (by have := HC.out.po; omega) 37
      replace hM := hM.turn 3 rfl ht rfl
      clear ht
      refine wpFrom_append (d := some 110) (t := 37) (t' := 37) (ty := 37) (v := .slice ap C.po.length cp) (x := .slice (some ⟨N, 0, none⟩) 1 1) (by kernel_rfl) hrun ?_
      clear hrun
      refine tF 6 [.val 5 (some 11) (vp')] trivial ?_
      refine dF ?_
      try simp only [puts, Tk.put, Act.put, List.setIfInBounds_toArray, List.set_cons_zero, List.set_cons_succ]
      replace hM : Sep w [] [.blk N 44 (txc x.tx), .blk O 46 (evc x), .own lkc 91 3 (vs) (C.st.lk), .own (fun t => txc t) 44 25 (vp') (C.po ++ [x.tx]), .own evc 54 27 (.slice ae C.ev.length ce) (C.ev), .blk P 35 (stc C.st vs), .join (CHR B ({ C with po := C.po ++ [x.tx] } : Ch) v1 pv1 q1 bs1)] Z := hM
      have hM5 := Lib.hid (Sep.pick (l' := [.own lkc 91 3 (vs) (({ C with po := C.po ++ [x.tx] } : Ch).st.lk), .own (fun t => txc t) 44 25 (vp') (({ C with po := C.po ++ [x.tx] } : Ch).po), .own evc 54 27 (.slice ae C.ev.length ce) (({ C with po := C.po ++ [x.tx] } : Ch).ev), .blk P 35 (stc ({ C with po := C.po ++ [x.tx] } : Ch).st vs), .join (CHR B ({ C with po := C.po ++ [x.tx] } : Ch) v1 pv1 q1 bs1)]) hM [2, 3, 4, 5, 6] (by decide) rfl)
      clear hM
      go_wp2_with fail
      go_meet
      exact ⟨({ C with po := C.po ++ [x.tx] } : Ch), v1, pv1, q1, bs1, vs, HC3.out.up (Nat.le_succ _), hM5.out⟩
set_option maxRecDepth 100000 in
set_option maxHeartbeats 4000000 in
theorem runs_w1 {w W : World} {B P O k : Nat} {x : Ev} {C : Ch} {v pv q vs : Value} {bs : List Nat} {ap ae : Option Addr} {cp ce : Nat} (HC : Hid (OkC C k)) (HQ2 : Hid (k < 40)) (hM : Sep w [] [.blk O 46 (evc x), .own lkc 91 3 (vs) (C.st.lk), .own (fun t => txc t) 44 25 (.slice ap C.po.length cp) (C.po), .own evc 54 27 (.slice ae C.ev.length ce) (C.ev), .blk P 35 (stc C.st vs), .join (CHR B C v pv q bs)] W)
    {s0 s1 s2 s3 s4 s5 s6 s7 s8 s13 s15 s16 s17 s18 s19 s20 s21 s22 s23 s24 s25 s26 s27 s28 s29 s30 s31 s32 s33 s34 s35 s36 s37 s38 s39 s40 s41 s42 s43 s44 s45 s46 s47 s48 s49 s50 s51 s52 s53 s54 s55 s57 s58 s59 s60 s61 s62 s63 s64 s65 s66 s67 s68 s69 s70 s71 s72 s73 s74 s75 s76 s77 s78 s79 s80 s81 s82 s83 s84 s85 s86 s87 s88 s89 s90 s91 s92 s93 s94 s95 s96 s97 s98 s99 s100 s101 s102 s103 s104 s105 s106 s107 s108 s109 s110 s111 s112 s113 s114 s115 s116 s117 s118 s119 s120 s121 s122 s123 s124 s125 s126 s127 s128 s129 s130 s131 s132 s133 s134 s135 s136 s137 s138 s139 s140 s141 s142 s143 s144 s145 s146 s147 s148 s149 s150 s151 s152 s153 s154 s155 s156 s157 s158 s159 s160 s161 s162 s163 s164 s165 s166 s167 s168 s169 s170 s171 s172 s173 s174 s175 s176 s177 s178 s179 s180 s181 s182 s183 s184 s185 s186 s187 s188 s189 s190 s191 s192 s193 s194 s195 s196 s197 s198 s199 s200 s201 s202 s203 s204 s205 s206 s207 s208 s209 s210 s211 s212 s213 s214 s215 s216 s217 s218 s219 s220 s221 s222 s223 s224 s225 s226 s227 s228 s229 s230 s231 s232 s233 s234 s235 s236 s237 s238 s239 s240 s241 s242 s243 s244 : Value} (J K' : Act → World → Prop) (Q' : Exit → Act → World → Prop) (hP : ∀ d v c a w, Q' (.panic c) (Act.put a d v) w → Q' (.panic c) a w) (hR : ∀ a' w', RunsR w B P O k 1 s0 s1 s2 s3 s4 s5 s6 s7 s13 s26 s27 s28 s29 s30 s31 s32 s33 s34 s35 s36 s37 a' w' → J a' w') (hK : ∀ a' w', Met J a' w' → K' a' w') :
    Code.wp Tryz.prog runsBlk (Exit.then K' Q') ⟨#[s0, s1, s2, s3, s4, s5, s6, s7, s8, .pointer (some ⟨B, 0, none⟩), .pointer (some ⟨P, 0, none⟩), .slice ap C.po.length cp, .slice ae C.ev.length ce, s13, .pointer (some ⟨O, 0, none⟩), s15, s16, s17, s18, s19, s20, s21, s22, s23, s24, s25, s26, s27, s28, s29, s30, s31, s32, s33, s34, s35, s36, s37, s38, s39, s40, s41, s42, s43, s44, s45, s46, s47, s48, s49, s50, s51, s52, s53, s54, s55, .int .i64 1, s57, s58, s59, s60, s61, s62, s63, s64, s65, s66, s67, s68, s69, s70, s71, s72, s73, s74, s75, s76, s77, s78, s79, s80, s81, s82, s83, s84, s85, s86, s87, s88, s89, s90, s91, s92, s93, s94, s95, s96, s97, s98, s99, s100, s101, s102, s103, s104, s105, s106, s107, s108, s109, s110, s111, s112, s113, s114, s115, s116, s117, s118, s119, s120, s121, s122, s123, s124, s125, s126, s127, s128, s129, s130, s131, s132, s133, s134, s135, s136, s137, s138, s139, s140, s141, s142, s143, s144, s145, s146, s147, s148, s149, s150, s151, s152, s153, s154, s155, s156, s157, s158, s159, s160, s161, s162, s163, s164, s165, s166, s167, s168, s169, s170, s171, s172, s173, s174, s175, s176, s177, s178, s179, s180, s181, s182, s183, s184, s185, s186, s187, s188, s189, s190, s191, s192, s193, s194, s195, s196, s197, s198, s199, s200, s201, s202, s203, s204, s205, s206, s207, s208, s209, s210, s211, s212, s213, s214, s215, s216, s217, s218, s219, s220, s221, s222, s223, s224, s225, s226, s227, s228, s229, s230, s231, s232, s233, s234, s235, s236, s237, s238, s239, s240, s241, s242, s243, s244], []⟩ W := by
  have hmx : Tryz.prog.follows .mixedOrders = true := by kernel_rfl
  let Q0 := bodyPost Tryz.prog Tryz.f3
  conv => arg 2; whnf
  go_upto_region 21 with fail
  refine wp_region_fromM (fun W => Sep w [] [.blk O 46 (evc x), .own lkc 91 3 (vs) (C.st.lk), .own (fun t => txc t) 44 25 (.slice ap C.po.length cp) (C.po), .own evc 54 27 (.slice ae C.ev.length ce) (C.ev), .blk P 35 (stc C.st vs), .join (CHR B C v pv q bs)] W) hM ?_
  clear hM
  rintro Y24 hM
  refine tF 2 [.val 0 (some 82) (.bool false), .val 1 (some 81) (.bool false)] trivial ?_
  refine dF ?_
  try simp only [puts, Tk.put, Act.put, List.setIfInBounds_toArray, List.set_cons_zero, List.set_cons_succ]
  go_upto_region 27 with fail
  refine wp_region_fromM (fun W => Sep w [] [.blk O 46 (evc x), .own lkc 91 3 (vs) (C.st.lk), .own (fun t => txc t) 44 25 (.slice ap C.po.length cp) (C.po), .own evc 54 27 (.slice ae C.ev.length ce) (C.ev), .blk P 35 (stc C.st vs), .join (CHR B C v pv q bs)] W) hM ?_
  clear hM
  rintro Y25 hM
  refine tF 2 [.val 0 (some 112) (.bool true), .val 1 (some 111) (.bool true)] trivial ?_
  refine dF ?_
  try simp only [puts, Tk.put, Act.put, List.setIfInBounds_toArray, List.set_cons_zero, List.set_cons_succ]
  go_upto_region 28 with fail
  refine wp_region_fromM (fun W => Sep w [] [.blk O 46 (evc x), .own lkc 91 3 (vs) (C.st.lk), .own (fun t => txc t) 44 25 (.slice ap C.po.length cp) (C.po), .own evc 54 27 (.slice ae C.ev.length ce) (C.ev), .blk P 35 (stc C.st vs), .join (CHR B C v pv q bs)] W) hM ?_
  clear hM
  rintro Y26 hM
  refine tF 1 [.val 0 (some 16) (.bool false)] trivial ?_
  refine dF ?_
  try simp only [puts, Tk.put, Act.put, List.setIfInBounds_toArray, List.set_cons_zero, List.set_cons_succ]
  go_upto_region 29 with fail
  refine wp_region_fromM (fun W => Sep w [] [.blk O 46 (evc x), .own lkc 91 3 (vs) (C.st.lk), .own (fun t => txc t) 44 25 (.slice ap C.po.length cp) (C.po), .own evc 54 27 (.slice ae C.ev.length ce) (C.ev), .blk P 35 (stc C.st vs), .join (CHR B C v pv q bs)] W) hM ?_
  clear hM
  rintro Y27 hM
  refine tF 1 [.val 0 (some 113) (.slice ap C.po.length cp)] trivial ?_
  refine rF (some 114) (.int .i64 C.po.length) (Y27) ?_
  refine tF 3 [.val 2 (some 17) (.int .i64 C.po.length)] trivial ?_
  refine dF ?_
  try simp only [puts, Tk.put, Act.put, List.setIfInBounds_toArray, List.set_cons_zero, List.set_cons_succ]
  by_cases hq3 : 0 < C.po.length
  · have HQ3 := Lib.hid hq3
    clear hq3
    go_upto_region 30 with fail
    refine wp_region_fromM (fun W => Sep w [] [.blk O 46 (evc x), .own lkc 91 3 (vs) (C.st.lk), .own (fun t => txc t) 44 25 (.slice ap C.po.length cp) (C.po), .own evc 54 27 (.slice ae C.ev.length ce) (C.ev), .blk P 35 (stc C.st vs), .join (CHR B C v pv q bs)] W) hM ?_
    clear hM
    rintro Y28 hM
    refine tF 2 [.val 0 (some 115) (.int .i64 C.po.length), .alt 1 (some 116) (.bool (decide (0 < (C.po.length : Int)))) (.bool true)] ⟨congrArg Value.bool (decide_eq_true (by have := HQ3.out; omega)), trivial⟩ ?_
    refine dF ?_
    try simp only [puts, Tk.put, Act.put, List.setIfInBounds_toArray, List.set_cons_zero, List.set_cons_succ]
    have hk0 := atC_lt x.cd HQ3.out
    obtain ⟨t, ht⟩ : ∃ t, C.po[atC x.cd C.po.length]? = some t := ⟨_, List.getElem?_eq_getElem hk0⟩
    obtain ⟨ht1, ht2⟩ := HC.out.tx t (List.mem_of_getElem? ht)
    obtain ⟨S, E, b, hA, hAE, hS1, _, hlkE⟩ := app_any HC.out.st t
    have HIC := Lib.hid (incl_of ht ((apply_eq HC.out.st t).trans hA))
    have HOKI := Lib.hid (incl_ok HC.out x.cd)
    have hn' : (0 : Int) < (C.po.length : Int) := by have := HQ3.out; omega
    have h1 := Int.lt_tmod_of_pos x.cd hn'
    have h2 := Int.tmod_lt_of_pos x.cd hn'
    have hpo := HC.out.po
    have HAT : Hid (Int.tmod (Int.tmod x.cd C.po.length + C.po.length) C.po.length = ((atC x.cd C.po.length : Nat) : Int)) := Lib.hid (Int.toNat_of_nonneg (Int.tmod_nonneg (a := Int.tmod x.cd C.po.length + C.po.length) C.po.length (by omega))).symm
    have HSM : Hid (IntKind.i64.wrap (Int.tmod x.cd C.po.length + C.po.length) = Int.tmod x.cd C.po.length + C.po.length) := Lib.hid (IntWalk.i64_in _ (by omega))
    have HN0 := Lib.hid (show (C.po.length : Int) ≠ 0 by omega)
    generalize hk : atC x.cd C.po.length = k1 at *
    have HK := Lib.hid hk0
    have HT := Lib.hid ht
    have HT1 := Lib.hid ht1
    have HAE := Lib.hid hAE
    obtain ⟨vlo, hvlo, hrlo⟩ := ((hM.oka 2 rfl).rsl txc_25).low (n := 25) (k := k1) (by omega) Tryz.underlying37 elemTx (fun W => by kernel_rfl)
    obtain ⟨vhi, hvhi, hrhi⟩ := ((hM.oka 2 rfl).rsl txc_25).high (n := 25) txc_25 (k := k1 + 1) (by omega) Tryz.underlying37 elemTx (fun W => by kernel_rfl)
    obtain ⟨a1, c1, rfl⟩ := hrlo.slice
    obtain ⟨a2, c2, rfl⟩ := hrhi.slice
    have HVLO := Lib.hid hvlo
    have HVHI := Lib.hid hvhi
    have hwk : IntKind.i64.wrap ((k1 : Int) + 1) = ((k1 + 1 : Nat) : Int) := (IntWalk.i64_in _ (by omega)).trans (by omega)
    have HWK := Lib.hid hwk
    obtain ⟨bk, ok, hik, hck⟩ := (hM.oka 2 rfl).elem txc_25 ht Tryz.underlying37 (fun W => by kernel_rfl)
    have HIk := Lib.hid hik
    have HCk := Lib.hid hck
    clear hik hck
    clear hrlo hrhi hvlo hvhi hk hk0 ht ht1 hAE hA h1 h2 hpo hn' hwk
    go_upto_region 31 with fail
    refine wp_region_fromM (fun W => Sep w [] [.blk O 46 (evc x), .own lkc 91 3 (vs) (C.st.lk), .own (fun t => txc t) 44 25 (.slice ap C.po.length cp) (C.po), .own evc 54 27 (.slice ae C.ev.length ce) (C.ev), .blk P 35 (stc C.st vs), .join (CHR B C v pv q bs)] W) hM ?_
    clear hM
    rintro Y29 hM
    refine tF 3 [.val 0 (some 117) (pt O 1), .load 1 (some 118) 3 (pt O 1) (.int .i64 x.cd), .val 2 (some 119) (.int .i64 C.po.length)] ⟨ld_elA (blk_el (hM.at 0 rfl)), trivial⟩ ?_
    refine remF (.tmp 118) (.tmp 119) 3 3 (some 120) x.cd (C.po.length : Int) (Int.tmod x.cd C.po.length) HN0.out rfl ?_
    refine tF 7 [.val 4 (some 121) (.int .i64 C.po.length), .alt 5 (some 122) (.int .i64 (IntKind.i64.wrap (Int.tmod x.cd C.po.length + C.po.length))) (.int .i64 (Int.tmod x.cd C.po.length + C.po.length)), .val 6 (some 123) (.int .i64 C.po.length)] ⟨congrArg (Value.int .i64) HSM.out, trivial⟩ ?_
    refine remF (.tmp 122) (.tmp 123) 3 3 (some 124) (Int.tmod x.cd C.po.length + C.po.length) (C.po.length : Int) (k1 : Int) HN0.out HAT.out ?_
    refine tF 9 [.val 8 (some 18) (.int .i64 (k1 : Int))] trivial ?_
    refine dF ?_
    try simp only [puts, Tk.put, Act.put, List.setIfInBounds_toArray, List.set_cons_zero, List.set_cons_succ]
    go_upto_region 32 with fail
    go_cut [19, 20, 21] (fun p e2 b2 wc => ∃ (N : Nat) (v1 : Value), p = .pointer (some ⟨N, 0, none⟩) ∧ e2 = .int .i64 E ∧ b2 = .bool b ∧ Sep w [] [.blk N 35 (stc S v1), .own lkc 91 3 (v1) (S.lk), .blk O 46 (evc x), .own lkc 91 3 (vs) (C.st.lk), .own (fun t => txc t) 44 25 (.slice ap C.po.length cp) (C.po), .own evc 54 27 (.slice ae C.ev.length ce) (C.ev), .blk P 35 (stc C.st vs), .join (CHR B C v pv q bs)] wc)
    case first =>
      refine wp_region_M (fun W => Sep w [] [.blk O 46 (evc x), .own lkc 91 3 (vs) (C.st.lk), .own (fun t => txc t) 44 25 (.slice ap C.po.length cp) (C.po), .own evc 54 27 (.slice ae C.ev.length ce) (C.ev), .blk P 35 (stc C.st vs), .join (CHR B C v pv q bs)] W) (fun W => Sep w [] [.blk O 46 (evc x), .own lkc 91 3 (vs) (C.st.lk), .own (fun t => txc t) 44 25 (.slice ap C.po.length cp) (C.po), .own evc 54 27 (.slice ae C.ev.length ce) (C.ev), .blk P 35 (stc C.st vs), .join (CHR B C v pv q bs)] W) hmx hM.drew ?_
      clear hM
      rintro Y30 hM
      have hS := hM.sub (.cons_cons _ (.cons_cons _ (.cons_cons _ (.cons_cons _ (.cons_cons _ (.cons_cons _ .slnil))))))
      refine tD 9 [.load 0 (some 126) 35 (pt P 0) (stv (C.st) (vs)), .val 1 (some 127) (.slice ap C.po.length cp), .val 2 (some 128) (.int .i64 (k1 : Int)), .idx 3 (some 129) 37 (.slice ap C.po.length cp) (.int .i64 (k1 : Int)) (pt bk ok), .load 4 (some 130) 44 (pt bk ok) (txv t)] ⟨fun W h => ld_st (h.at 4 rfl), fun W h => HIk.out _, fun W h => ld_txS (HCk.out _ (h.oka 2 rfl)), trivial⟩ hS ?_ (hQ := fun d v c a w h => hP d v c a w h)
      refine oT 5 10 8 ?_ ?_
      · refine cD (some 131) 13 #[stv (C.st) (vs), txv t] ((((esc_apply_any C.st vs HC.out.st t HT1.out _ ((hM.oka 1 rfl).rsl lkc_len) (Nat.le_refl _) (by have := HC.out.lk; have := HQ2.out; omega)).mono fun _ _ h => HAE.out _ _ _ h)).mono ?_)
        rintro e Y31 ⟨v1, rfl, hO, hb⟩
        refine And.intro (hS.below hb) ?_
        replace hS := hS.below hb
        replace hM := hM.row (f := lkc) hO hb
        clear hO hb
        refine tD 4 [.val 6 (some 125) (.tuple #[stv S v1, .int .i64 E, .bool b]), .val 7 (some 132) (stv S v1), .val 8 (some 133) (.int .i64 E), .val 9 (some 134) (.bool b)] trivial hS ?_ (hQ := fun d v c a w h => hP d v c a w h)
        refine oD 10 3 (rD (some 19) (pt Y31.heap.size 0) (Y31.alloc (.cells (stc zS nilV).toArray 35)) (hS.other _) ?_)
        replace hS := hS.other (.cells (stc zS nilV).toArray 35)
        replace hM := hM.alloc 35 (stc zS nilV)
        generalize World.alloc _ _ = Y32 at *
        generalize hNe : Y31.heap.size = N at *
        clear hNe
        have hv1 := (hM.oka 1 rfl).one lkc_len
        have hM1 := hM.set 0 (cs' := stc S v1) rfl rfl
        refine oD 11 2 (sD 35 (pt N 0) (stv S v1) (sto_st (hM.at 0 rfl) (stc_len _ _) S hv1) (hM1.sub (.cons _ (.cons _ (.cons_cons _ (.cons_cons _ (.cons_cons _ (.cons_cons _ (.cons_cons _ (.cons_cons _ .slnil))))))))) ?_)
        replace hS := hM1.sub (.cons _ (.cons _ (.cons_cons _ (.cons_cons _ (.cons_cons _ (.cons_cons _ (.cons_cons _ (.cons_cons _ .slnil))))))))
        replace hM := hM1
        clear hM1
        generalize World.setRow _ _ _ = Y33 at *
        refine tD 0 [.val 12 (some 20) (.int .i64 E), .val 13 (some 21) (.bool b)] trivial hS ?_ (hQ := fun d v c a w h => hP d v c a w h)
        refine dD ?_
        try simp only [puts, Tk.put, Act.put, List.setIfInBounds_toArray, List.set_cons_zero, List.set_cons_succ]
        clear hS
        go_wp2_with fail
        go_meet
        exact ⟨N, v1, rfl, rfl, rfl, hM.pick [0, 1, 2, 3, 4, 5, 6, 7] (by decide) rfl⟩
      · refine rD (some 19) (pt Y30.heap.size 0) (Y30.alloc (.cells (stc zS nilV).toArray 35)) (hS.other _) ?_
        replace hS := hS.other (.cells (stc zS nilV).toArray 35)
        replace hM := hM.alloc 35 (stc zS nilV)
        generalize World.alloc _ _ = Y34 at *
        generalize hNe : Y30.heap.size = N at *
        clear hNe
        refine oD 5 7 (cD (some 131) 13 #[stv (C.st) (vs), txv t] ((((esc_apply_any C.st vs HC.out.st t HT1.out _ ((hM.oka 2 rfl).rsl lkc_len) (Nat.le_refl _) (by have := HC.out.lk; have := HQ2.out; omega)).mono fun _ _ h => HAE.out _ _ _ h)).mono ?_))
        rintro e Y35 ⟨v1, rfl, hO, hb⟩
        refine And.intro (hS.below hb) ?_
        replace hS := hS.below hb
        replace hM := hM.row (f := lkc) hO hb
        clear hO hb
        refine tD 3 [.val 6 (some 125) (.tuple #[stv S v1, .int .i64 E, .bool b]), .val 7 (some 132) (stv S v1), .val 8 (some 133) (.int .i64 E), .val 9 (some 134) (.bool b)] trivial hS ?_ (hQ := fun d v c a w h => hP d v c a w h)
        have hv1 := (hM.oka 0 rfl).one lkc_len
        have hM1 := hM.set 1 (cs' := stc S v1) rfl rfl
        refine oD 11 2 (sD 35 (pt N 0) (stv S v1) (sto_st (hM.at 1 rfl) (stc_len _ _) S hv1) (hM1.sub (.cons _ (.cons _ (.cons_cons _ (.cons_cons _ (.cons_cons _ (.cons_cons _ (.cons_cons _ (.cons_cons _ .slnil))))))))) ?_)
        replace hS := hM1.sub (.cons _ (.cons _ (.cons_cons _ (.cons_cons _ (.cons_cons _ (.cons_cons _ (.cons_cons _ (.cons_cons _ .slnil))))))))
        replace hM := hM1
        clear hM1
        generalize World.setRow _ _ _ = Y36 at *
        refine tD 0 [.val 12 (some 20) (.int .i64 E), .val 13 (some 21) (.bool b)] trivial hS ?_ (hQ := fun d v c a w h => hP d v c a w h)
        refine dD ?_
        try simp only [puts, Tk.put, Act.put, List.setIfInBounds_toArray, List.set_cons_zero, List.set_cons_succ]
        clear hS
        go_wp2_with fail
        go_meet
        exact ⟨N, v1, rfl, rfl, rfl, hM.pick [1, 0, 2, 3, 4, 5, 6, 7] (by decide) rfl⟩
    case rest =>
      obtain ⟨N, v1, rfl, rfl, rfl, hM⟩ := hcut
      go_upto_region 33 with fail
      refine wp_region_fromM (fun W => Sep w [] [.blk N 35 (stc S v1), .own lkc 91 3 (v1) (S.lk), .blk O 46 (evc x), .own lkc 91 3 (vs) (C.st.lk), .own (fun t => txc t) 44 25 (.slice ap C.po.length cp) (C.po), .own evc 54 27 (.slice ae C.ev.length ce) (C.ev), .blk P 35 (stc C.st vs), .join (CHR B C v pv q bs)] W) hM ?_
      clear hM
      rintro Y37 hM
      refine tF 2 [.val 0 (some 135) (.bool b), .val 1 (some 16) (.bool b)] trivial ?_
      refine dF ?_
      try simp only [puts, Tk.put, Act.put, List.setIfInBounds_toArray, List.set_cons_zero, List.set_cons_succ]
      go_upto_region 34 with fail
      refine wp_region_fromM (fun W => Sep w [] [.blk N 35 (stc S v1), .own lkc 91 3 (v1) (S.lk), .blk O 46 (evc x), .own lkc 91 3 (vs) (C.st.lk), .own (fun t => txc t) 44 25 (.slice ap C.po.length cp) (C.po), .own evc 54 27 (.slice ae C.ev.length ce) (C.ev), .blk P 35 (stc C.st vs), .join (CHR B C v pv q bs)] W) hM ?_
      clear hM
      rintro Y38 hM
      refine tF 1 [.val 0 (some 136) (.bool b)] trivial ?_
      refine dF ?_
      try simp only [puts, Tk.put, Act.put, List.setIfInBounds_toArray, List.set_cons_zero, List.set_cons_succ]
      cases b with
      | false =>
        go_upto_region 38 with fail
        refine wp_region_fromM (fun W => Sep w [] [.blk N 35 (stc S v1), .own lkc 91 3 (v1) (S.lk), .blk O 46 (evc x), .own lkc 91 3 (vs) (C.st.lk), .own (fun t => txc t) 44 25 (.slice ap C.po.length cp) (C.po), .own evc 54 27 (.slice ae C.ev.length ce) (C.ev), .blk P 35 (stc C.st vs), .join (CHR B C v pv q bs)] W) hM ?_
        clear hM
        rintro Y39 hM
        refine tF 3 [.val 0 (some 159) (pt B 0), .val 1 (some 160) (pt O 1), .load 2 (some 161) 3 (pt O 1) (.int .i64 x.cd)] ⟨ld_elA (blk_el (hM.at 2 rfl)), trivial⟩ ?_
        refine cF (some 162) 14 #[pt B 0, .int .i64 x.cd] ((((chnInclude_any x.cd _ (hM.oka 7 rfl) HC.out.st HC.out.tx HC.out.po (by have := HC.out.lk; have := HQ2.out; omega) (by have := HC.out.ev; have := HQ2.out; omega)).mono fun _ _ h => incl_is (show inclC C x.cd = (C, false) from HIC.out) h)).mono ?_)
        rintro e Y40 ⟨rfl, v2, pv2, q2, bs2, hT⟩
        replace hM := hM.turn 7 rfl hT rfl
        clear hT
        refine tF 6 [.val 4 (some 163) (.bool false), .val 5 (some 164) (.bool false)] trivial ?_
        refine dF ?_
        try simp only [puts, Tk.put, Act.put, List.setIfInBounds_toArray, List.set_cons_zero, List.set_cons_succ]
        have hM5 := Lib.hid (Sep.pick (l' := [.own lkc 91 3 (vs) (C.st.lk), .own (fun t => txc t) 44 25 (.slice ap C.po.length cp) (C.po), .own evc 54 27 (.slice ae C.ev.length ce) (C.ev), .blk P 35 (stc C.st vs), .join (CHR B C v2 pv2 q2 bs2)]) hM [3, 4, 5, 6, 7] (by decide) rfl)
        clear hM
        go_wp2_with fail
        go_meet
        exact ⟨C, v2, pv2, q2, bs2, vs, HC.out.up (Nat.le_succ _), hM5.out⟩
      | true =>
        go_upto_region 35 with fail
        refine wp_region_fromM (fun W => Sep w [] [.blk N 35 (stc S v1), .own lkc 91 3 (v1) (S.lk), .blk O 46 (evc x), .own lkc 91 3 (vs) (C.st.lk), .own (fun t => txc t) 44 25 (.slice ap C.po.length cp) (C.po), .own evc 54 27 (.slice ae C.ev.length ce) (C.ev), .blk P 35 (stc C.st vs), .join (CHR B C v pv q bs)] W) hM ?_
        clear hM
        rintro Y41 hM
        refine tF 1 [.load 0 (some 137) 35 (pt N 0) (stv (S) (v1))] ⟨ld_st (hM.at 0 rfl), trivial⟩ ?_
        have hv1 := (hM.oka 1 rfl).one lkc_len
        refine sF 35 (pt P 0) (stv (S) (v1)) (sto_st (hM.at 6 rfl) (stc_len _ _) S hv1) ?_
        replace hM := hM.set 6 (cs' := stc S v1) rfl rfl
        generalize World.setRow _ _ _ = Y42 at *
        refine dF ?_
        try simp only [puts, Tk.put, Act.put, List.setIfInBounds_toArray, List.set_cons_zero, List.set_cons_succ]
        go_upto_region 36 with fail
        refine wp_region_M (fun W => Sep w [] [.blk N 35 (stc S v1), .own lkc 91 3 (v1) (S.lk), .blk O 46 (evc x), .own lkc 91 3 (vs) (C.st.lk), .own (fun t => txc t) 44 25 (.slice ap C.po.length cp) (C.po), .blk P 35 (stc S v1), .join (CHR B C v pv q bs)] W) (fun W => Sep w [] [.blk N 35 (stc S v1), .own lkc 91 3 (v1) (S.lk), .blk O 46 (evc x), .own lkc 91 3 (vs) (C.st.lk), .own (fun t => txc t) 44 25 (.slice ap C.po.length cp) (C.po), .own evc 54 27 (.slice ae C.ev.length ce) (C.ev), .blk P 35 (stc S v1), .join (CHR B C v pv q bs)] W) hmx hM.drew ?_
        clear hM
        rintro Y43 hM
        have hS := hM.sub (.cons_cons _ (.cons_cons _ (.cons_cons _ (.cons_cons _ (.cons_cons _ (.cons _ (.cons_cons _ (.cons_cons _ .slnil))))))))
        refine tD 3 [.val 0 (some 138) (.slice ae C.ev.length ce), .val 1 (some 139) (pt P 1), .load 2 (some 140) 3 (pt P 1) (.int .i64 S.tm), .val 3 (some 141) (.int .i64 E), .val 4 (some 142) (.slice ap C.po.length cp), .val 5 (some 143) (.int .i64 (k1 : Int)), .idx 6 (some 144) 37 (.slice ap C.po.length cp) (.int .i64 (k1 : Int)) (pt bk ok), .load 7 (some 145) 44 (pt bk ok) (txv t), .val 8 (some 146) (.agg (evc (⟨S.tm, E, t⟩ : Ev)).toArray)] ⟨fun W h => ld_int (h.at 5 rfl) 1 rfl, fun W h => HIk.out _, fun W h => ld_txS (HCk.out _ (h.oka 4 rfl)), trivial⟩ hS ?_ (hQ := fun d v c a w h => hP d v c a w h)
        refine oD 9 2 (rD (some 147) (.slice (some ⟨Y43.heap.size, 0, none⟩) 1 1) (Y43.alloc (.cells (evc (⟨S.tm, E, t⟩ : Ev)).toArray 54)) (hS.other _) ?_)
        replace hS := hS.other (.cells (evc (⟨S.tm, E, t⟩ : Ev)).toArray 54)
        replace hM := hM.alloc 54 (evc (⟨S.tm, E, t⟩ : Ev))
        generalize World.alloc _ _ = Y44 at *
        generalize hNe : Y43.heap.size = NE at *
        clear hNe
        obtain ⟨ve', Ze, hrun, ht⟩ := own_app1 infoEv rfl (by decide) Tryz.underlying38 evc_len evc_one (hM.oka 6 rfl) (⟨S.tm, E, t⟩ : Ev) (hM.at 0 rfl) (by decide) (by have := HC.out.ev; have := HQ2.out; omega) 38
        have hM1 := hM.turn 6 rfl ht rfl
        clear ht
        refine oD 10 1 (stepH_append (d := some 148) (t := 38) (t' := 38) (ty := 38) (v := .slice ae C.ev.length ce) (x := .slice (some ⟨NE, 0, none⟩) 1 1) (by kernel_rfl) hrun (hM1.sub (.cons _ (.cons_cons _ (.cons_cons _ (.cons_cons _ (.cons_cons _ (.cons_cons _ (.cons _ (.cons_cons _ (.cons_cons _ .slnil)))))))))) ?_)
        replace hS := hM1.sub (.cons _ (.cons_cons _ (.cons_cons _ (.cons_cons _ (.cons_cons _ (.cons_cons _ (.cons _ (.cons_cons _ (.cons_cons _ .slnil)))))))))
        replace hM := hM1
        clear hM1 hrun
        refine tD 0 [.val 11 (some 12) (ve')] trivial hS ?_ (hQ := fun d v c a w h => hP d v c a w h)
        refine dD ?_
        try simp only [puts, Tk.put, Act.put, List.setIfInBounds_toArray, List.set_cons_zero, List.set_cons_succ]
        clear hS
        go_upto_region 37 with fail
        refine wp_region_M (fun W => Sep w [] [.blk NE 54 (evc (⟨S.tm, E, t⟩ : Ev)), .blk N 35 (stc S v1), .own lkc 91 3 (v1) (S.lk), .blk O 46 (evc x), .own lkc 91 3 (vs) (C.st.lk), .own (fun t => txc t) 44 25 (.slice ap C.po.length cp) (C.po), .own evc 54 27 (ve') (C.ev ++ [(⟨S.tm, E, t⟩ : Ev)]), .blk P 35 (stc S v1), .join (CHR B C v pv q bs)] W) (fun W => Sep w [] [.blk NE 54 (evc (⟨S.tm, E, t⟩ : Ev)), .blk N 35 (stc S v1), .own lkc 91 3 (v1) (S.lk), .blk O 46 (evc x), .own lkc 91 3 (vs) (C.st.lk), .own (fun t => txc t) 44 25 (.slice ap C.po.length cp) (C.po), .own evc 54 27 (ve') (C.ev ++ [(⟨S.tm, E, t⟩ : Ev)]), .blk P 35 (stc S v1), .join (CHR B C v pv q bs)] W) hmx hM.drew ?_
        clear hM
        rintro Y45 hM
        have hS := hM.sub (.cons_cons _ (.cons_cons _ (.cons_cons _ (.cons_cons _ (.cons_cons _ (.cons_cons _ (.cons_cons _ (.cons_cons _ (.cons_cons _ .slnil)))))))))
        refine tD 4 [.val 1 (some 150) (.slice ap C.po.length cp), .val 2 (some 151) (.int .i64 (k1 : Int)), .slc 3 (some 152) 37 (.slice ap C.po.length cp) none (some (.int .i64 (k1 : Int))) none (.slice a1 (C.po.take k1).length c1), .val 5 (some 154) (.slice ap C.po.length cp), .val 6 (some 155) (.int .i64 (k1 : Int)), .alt 7 (some 156) (.int .i64 (IntKind.i64.wrap ((k1 : Int) + 1))) (.int .i64 ((k1 + 1 : Nat) : Int)), .slc 8 (some 157) 37 (.slice ap C.po.length cp) (some (.int .i64 ((k1 + 1 : Nat) : Int))) none none (.slice a2 (C.po.drop (k1 + 1)).length c2)] ⟨fun W h => HVLO.out _, congrArg (Value.int .i64) HWK.out, fun W h => HVHI.out _, trivial⟩ hS ?_ (hQ := fun d v c a w h => hP d v c a w h)
        refine oD 0 3 (rD (some 149) (.slice (some ⟨Y45.heap.size, 0, none⟩) 0 0) (Y45.alloc (.cells #[] 44)) (hS.other _) ?_)
        replace hS := hS.other (.cells #[] 44)
        replace hM := hM.row (f := fun t => txc t) (x := []) (show (Y45.alloc (.cells #[] 44)).ownsRow Y45.heap.size 44 25 (.slice (some ⟨Y45.heap.size, 0, none⟩) 0 0) ([] : List Tr).length (flatR (fun t => txc t) []) from World.ownsRow_lit Y45 #[] 0 (Nat.le_refl _) (by unfold maxLen; omega) rfl) ((Below.refl _ _).alloc (Nat.le_refl _) _)
        generalize World.alloc _ _ = Y46 at *
        generalize hNe : Y45.heap.size = NT at *
        clear hNe
        obtain ⟨vl, hvl, hrl⟩ := ((hM.oka 6 rfl).rsl txc_25).low (n := 25) (k := k1) (by have := HK.out; omega) Tryz.underlying37 elemTx (fun W => by kernel_rfl)
        obtain rfl : vl = .slice a1 (C.po.take k1).length c1 := by have h1 := (hvl w).symm.trans (HVLO.out w); simpa using h1
        clear hvl
        obtain ⟨vt1, Zt1, hrun, ht⟩ := own_appR infoTx rfl (by decide) Tryz.underlying37 txc_25 txc_one (hM.oka 0 rfl) hrl (by decide) (by have := HC.out.po; rw [List.length_take]; simp only [List.length_nil]; omega) 37
        have hM1 := hM.turn 0 rfl ht rfl
        clear ht
        refine oD 4 2 (stepH_append (d := some 153) (t := 37) (t' := 37) (ty := 37) (v := .slice (some ⟨NT, 0, none⟩) 0 0) (x := .slice a1 (C.po.take k1).length c1) (by kernel_rfl) hrun (hM1.sub (.cons _ (.cons_cons _ (.cons_cons _ (.cons_cons _ (.cons_cons _ (.cons_cons _ (.cons_cons _ (.cons_cons _ (.cons_cons _ (.cons_cons _ .slnil))))))))))) ?_)
        replace hS := hM1.sub (.cons _ (.cons_cons _ (.cons_cons _ (.cons_cons _ (.cons_cons _ (.cons_cons _ (.cons_cons _ (.cons_cons _ (.cons_cons _ (.cons_cons _ .slnil))))))))))
        replace hM := hM1
        clear hM1 hrun
        clear hrl
        obtain ⟨vl, hvl, hrl⟩ := ((hM.oka 6 rfl).rsl txc_25).high (n := 25) txc_25 (k := k1 + 1) (by have := HK.out; omega) Tryz.underlying37 elemTx (fun W => by kernel_rfl)
        obtain rfl : vl = .slice a2 (C.po.drop (k1 + 1)).length c2 := by have h1 := (hvl w).symm.trans (HVHI.out w); simpa using h1
        clear hvl
        obtain ⟨vt2, Zt2, hrun, ht⟩ := own_appR infoTx rfl (by decide) Tryz.underlying37 txc_25 txc_one (hM.oka 0 rfl) hrl (by decide) (by have := HC.out.po; rw [List.nil_append, List.length_take, List.length_drop]; omega) 37
        have hM1 := hM.turn 0 rfl ht rfl
        clear ht
        refine oD 9 1 (stepH_append (d := some 158) (t := 37) (t' := 37) (ty := 37) (v := vt1) (x := .slice a2 (C.po.drop (k1 + 1)).length c2) (by kernel_rfl) hrun (hM1.sub (.cons _ (.cons_cons _ (.cons_cons _ (.cons_cons _ (.cons_cons _ (.cons_cons _ (.cons_cons _ (.cons_cons _ (.cons_cons _ (.cons_cons _ .slnil))))))))))) ?_)
        replace hS := hM1.sub (.cons _ (.cons_cons _ (.cons_cons _ (.cons_cons _ (.cons_cons _ (.cons_cons _ (.cons_cons _ (.cons_cons _ (.cons_cons _ (.cons_cons _ .slnil))))))))))
        replace hM := hM1
        clear hM1 hrun
        clear hrl
        refine tD 0 [.val 10 (some 11) (vt2)] trivial hS ?_ (hQ := fun d v c a w h => hP d v c a w h)
        refine dD ?_
        try simp only [puts, Tk.put, Act.put, List.setIfInBounds_toArray, List.set_cons_zero, List.set_cons_succ]
        clear hS
        rw [show ([] ++ C.po.take k1) ++ C.po.drop (k1 + 1) = C.po.eraseIdx k1 by rw [List.nil_append, List.eraseIdx_eq_take_drop_succ]] at hM
        go_upto_region 38 with fail
        refine wp_region_fromM (fun W => Sep w [] [.own (fun t => txc t) 44 25 (vt2) (C.po.eraseIdx k1), .blk NE 54 (evc (⟨S.tm, E, t⟩ : Ev)), .blk N 35 (stc S v1), .own lkc 91 3 (v1) (S.lk), .blk O 46 (evc x), .own lkc 91 3 (vs) (C.st.lk), .own (fun t => txc t) 44 25 (.slice ap C.po.length cp) (C.po), .own evc 54 27 (ve') (C.ev ++ [(⟨S.tm, E, t⟩ : Ev)]), .blk P 35 (stc S v1), .join (CHR B C v pv q bs)] W) hM ?_
        clear hM
        rintro Y47 hM
        refine tF 3 [.val 0 (some 159) (pt B 0), .val 1 (some 160) (pt O 1), .load 2 (some 161) 3 (pt O 1) (.int .i64 x.cd)] ⟨ld_elA (blk_el (hM.at 4 rfl)), trivial⟩ ?_
        refine cF (some 162) 14 #[pt B 0, .int .i64 x.cd] ((((chnInclude_any x.cd _ (hM.oka 9 rfl) HC.out.st HC.out.tx HC.out.po (by have := HC.out.lk; have := HQ2.out; omega) (by have := HC.out.ev; have := HQ2.out; omega)).mono fun _ _ h => incl_is (show inclC C x.cd = ((⟨S, C.po.eraseIdx k1, C.ev ++ [(⟨S.tm, E, t⟩ : Ev)]⟩ : Ch), true) from HIC.out) h)).mono ?_)
        rintro e Y48 ⟨rfl, v3, pv3, q3, bs3, hT⟩
        replace hM := hM.turn 9 rfl hT rfl
        clear hT
        refine tF 6 [.val 4 (some 163) (.bool true), .val 5 (some 164) (.bool false)] trivial ?_
        refine dF ?_
        try simp only [puts, Tk.put, Act.put, List.setIfInBounds_toArray, List.set_cons_zero, List.set_cons_succ]
        have hM5 := Lib.hid (Sep.pick (l' := [.own lkc 91 3 (v1) ((⟨S, C.po.eraseIdx k1, C.ev ++ [(⟨S.tm, E, t⟩ : Ev)]⟩ : Ch).st.lk), .own (fun t => txc t) 44 25 (vt2) ((⟨S, C.po.eraseIdx k1, C.ev ++ [(⟨S.tm, E, t⟩ : Ev)]⟩ : Ch).po), .own evc 54 27 (ve') ((⟨S, C.po.eraseIdx k1, C.ev ++ [(⟨S.tm, E, t⟩ : Ev)]⟩ : Ch).ev), .blk P 35 (stc (⟨S, C.po.eraseIdx k1, C.ev ++ [(⟨S.tm, E, t⟩ : Ev)]⟩ : Ch).st v1), .join (CHR B (⟨S, C.po.eraseIdx k1, C.ev ++ [(⟨S.tm, E, t⟩ : Ev)]⟩ : Ch) v3 pv3 q3 bs3)]) hM [3, 0, 7, 8, 9] (by decide) rfl)
        clear hM
        go_wp2_with fail
        go_meet
        exact ⟨(⟨S, C.po.eraseIdx k1, C.ev ++ [(⟨S.tm, E, t⟩ : Ev)]⟩ : Ch), v3, pv3, q3, bs3, v1, by have h := HOKI.out; rw [show inclC C x.cd = ((⟨S, C.po.eraseIdx k1, C.ev ++ [(⟨S.tm, E, t⟩ : Ev)]⟩ : Ch), true) from HIC.out] at h; exact h, hM5.out⟩
  · have HQ3 := Lib.hid hq3
    clear hq3
    go_upto_region 30 with fail
    refine wp_region_fromM (fun W => Sep w [] [.blk O 46 (evc x), .own lkc 91 3 (vs) (C.st.lk), .own (fun t => txc t) 44 25 (.slice ap C.po.length cp) (C.po), .own evc 54 27 (.slice ae C.ev.length ce) (C.ev), .blk P 35 (stc C.st vs), .join (CHR B C v pv q bs)] W) hM ?_
    clear hM
    rintro Y49 hM
    refine tF 2 [.val 0 (some 115) (.int .i64 C.po.length), .alt 1 (some 116) (.bool (decide (0 < (C.po.length : Int)))) (.bool false)] ⟨congrArg Value.bool (decide_eq_false (by have := HQ3.out; omega)), trivial⟩ ?_
    refine dF ?_
    try simp only [puts, Tk.put, Act.put, List.setIfInBounds_toArray, List.set_cons_zero, List.set_cons_succ]
    go_upto_region 38 with fail
    refine wp_region_fromM (fun W => Sep w [] [.blk O 46 (evc x), .own lkc 91 3 (vs) (C.st.lk), .own (fun t => txc t) 44 25 (.slice ap C.po.length cp) (C.po), .own evc 54 27 (.slice ae C.ev.length ce) (C.ev), .blk P 35 (stc C.st vs), .join (CHR B C v pv q bs)] W) hM ?_
    clear hM
    rintro Y50 hM
    refine tF 3 [.val 0 (some 159) (pt B 0), .val 1 (some 160) (pt O 1), .load 2 (some 161) 3 (pt O 1) (.int .i64 x.cd)] ⟨ld_elA (blk_el (hM.at 0 rfl)), trivial⟩ ?_
    refine cF (some 162) 14 #[pt B 0, .int .i64 x.cd] ((((chnInclude_any x.cd _ (hM.oka 5 rfl) HC.out.st HC.out.tx HC.out.po (by have := HC.out.lk; have := HQ2.out; omega) (by have := HC.out.ev; have := HQ2.out; omega)).mono fun _ _ h => incl_is (incl_none x.cd (List.eq_nil_of_length_eq_zero (by have := HQ3.out; omega))) h)).mono ?_)
    rintro e Y51 ⟨rfl, v4, pv4, q4, bs4, hT⟩
    replace hM := hM.turn 5 rfl hT rfl
    clear hT
    refine tF 6 [.val 4 (some 163) (.bool false), .val 5 (some 164) (.bool false)] trivial ?_
    refine dF ?_
    try simp only [puts, Tk.put, Act.put, List.setIfInBounds_toArray, List.set_cons_zero, List.set_cons_succ]
    have hM5 := Lib.hid (Sep.pick (l' := [.own lkc 91 3 (vs) (C.st.lk), .own (fun t => txc t) 44 25 (.slice ap C.po.length cp) (C.po), .own evc 54 27 (.slice ae C.ev.length ce) (C.ev), .blk P 35 (stc C.st vs), .join (CHR B C v4 pv4 q4 bs4)]) hM [1, 2, 3, 4, 5] (by decide) rfl)
    clear hM
    go_wp2_with fail
    go_meet
    exact ⟨C, v4, pv4, q4, bs4, vs, HC.out.up (Nat.le_succ _), hM5.out⟩
set_option maxRecDepth 100000 in
set_option maxHeartbeats 4000000 in
theorem runs_w2 {w W : World} {B P O k : Nat} {x : Ev} {C : Ch} {v pv q vs : Value} {bs : List Nat} {ap ae : Option Addr} {cp ce : Nat} (HC : Hid (OkC C k)) (HQ2 : Hid (k < 40)) (hM : Sep w [] [.blk O 46 (evc x), .own lkc 91 3 (vs) (C.st.lk), .own (fun t => txc t) 44 25 (.slice ap C.po.length cp) (C.po), .own evc 54 27 (.slice ae C.ev.length ce) (C.ev), .blk P 35 (stc C.st vs), .join (CHR B C v pv q bs)] W)
    {s0 s1 s2 s3 s4 s5 s6 s7 s8 s13 s15 s16 s17 s18 s19 s20 s21 s22 s23 s24 s25 s26 s27 s28 s29 s30 s31 s32 s33 s34 s35 s36 s37 s38 s39 s40 s41 s42 s43 s44 s45 s46 s47 s48 s49 s50 s51 s52 s53 s54 s55 s57 s58 s59 s60 s61 s62 s63 s64 s65 s66 s67 s68 s69 s70 s71 s72 s73 s74 s75 s76 s77 s78 s79 s80 s81 s82 s83 s84 s85 s86 s87 s88 s89 s90 s91 s92 s93 s94 s95 s96 s97 s98 s99 s100 s101 s102 s103 s104 s105 s106 s107 s108 s109 s110 s111 s112 s113 s114 s115 s116 s117 s118 s119 s120 s121 s122 s123 s124 s125 s126 s127 s128 s129 s130 s131 s132 s133 s134 s135 s136 s137 s138 s139 s140 s141 s142 s143 s144 s145 s146 s147 s148 s149 s150 s151 s152 s153 s154 s155 s156 s157 s158 s159 s160 s161 s162 s163 s164 s165 s166 s167 s168 s169 s170 s171 s172 s173 s174 s175 s176 s177 s178 s179 s180 s181 s182 s183 s184 s185 s186 s187 s188 s189 s190 s191 s192 s193 s194 s195 s196 s197 s198 s199 s200 s201 s202 s203 s204 s205 s206 s207 s208 s209 s210 s211 s212 s213 s214 s215 s216 s217 s218 s219 s220 s221 s222 s223 s224 s225 s226 s227 s228 s229 s230 s231 s232 s233 s234 s235 s236 s237 s238 s239 s240 s241 s242 s243 s244 : Value} (J K' : Act → World → Prop) (Q' : Exit → Act → World → Prop) (hR : ∀ a' w', RunsR w B P O k 2 s0 s1 s2 s3 s4 s5 s6 s7 s13 s26 s27 s28 s29 s30 s31 s32 s33 s34 s35 s36 s37 a' w' → J a' w') (hK : ∀ a' w', Met J a' w' → K' a' w') :
    Code.wp Tryz.prog runsBlk (Exit.then K' Q') ⟨#[s0, s1, s2, s3, s4, s5, s6, s7, s8, .pointer (some ⟨B, 0, none⟩), .pointer (some ⟨P, 0, none⟩), .slice ap C.po.length cp, .slice ae C.ev.length ce, s13, .pointer (some ⟨O, 0, none⟩), s15, s16, s17, s18, s19, s20, s21, s22, s23, s24, s25, s26, s27, s28, s29, s30, s31, s32, s33, s34, s35, s36, s37, s38, s39, s40, s41, s42, s43, s44, s45, s46, s47, s48, s49, s50, s51, s52, s53, s54, s55, .int .i64 2, s57, s58, s59, s60, s61, s62, s63, s64, s65, s66, s67, s68, s69, s70, s71, s72, s73, s74, s75, s76, s77, s78, s79, s80, s81, s82, s83, s84, s85, s86, s87, s88, s89, s90, s91, s92, s93, s94, s95, s96, s97, s98, s99, s100, s101, s102, s103, s104, s105, s106, s107, s108, s109, s110, s111, s112, s113, s114, s115, s116, s117, s118, s119, s120, s121, s122, s123, s124, s125, s126, s127, s128, s129, s130, s131, s132, s133, s134, s135, s136, s137, s138, s139, s140, s141, s142, s143, s144, s145, s146, s147, s148, s149, s150, s151, s152, s153, s154, s155, s156, s157, s158, s159, s160, s161, s162, s163, s164, s165, s166, s167, s168, s169, s170, s171, s172, s173, s174, s175, s176, s177, s178, s179, s180, s181, s182, s183, s184, s185, s186, s187, s188, s189, s190, s191, s192, s193, s194, s195, s196, s197, s198, s199, s200, s201, s202, s203, s204, s205, s206, s207, s208, s209, s210, s211, s212, s213, s214, s215, s216, s217, s218, s219, s220, s221, s222, s223, s224, s225, s226, s227, s228, s229, s230, s231, s232, s233, s234, s235, s236, s237, s238, s239, s240, s241, s242, s243, s244], []⟩ W := by
  have hmx : Tryz.prog.follows .mixedOrders = true := by kernel_rfl
  let Q0 := bodyPost Tryz.prog Tryz.f3
  conv => arg 2; whnf
  go_upto_region 21 with fail
  refine wp_region_fromM (fun W => Sep w [] [.blk O 46 (evc x), .own lkc 91 3 (vs) (C.st.lk), .own (fun t => txc t) 44 25 (.slice ap C.po.length cp) (C.po), .own evc 54 27 (.slice ae C.ev.length ce) (C.ev), .blk P 35 (stc C.st vs), .join (CHR B C v pv q bs)] W) hM ?_
  clear hM
  rintro Y52 hM
  refine tF 2 [.val 0 (some 82) (.bool false), .val 1 (some 81) (.bool false)] trivial ?_
  refine dF ?_
  try simp only [puts, Tk.put, Act.put, List.setIfInBounds_toArray, List.set_cons_zero, List.set_cons_succ]
  go_upto_region 27 with fail
  refine wp_region_fromM (fun W => Sep w [] [.blk O 46 (evc x), .own lkc 91 3 (vs) (C.st.lk), .own (fun t => txc t) 44 25 (.slice ap C.po.length cp) (C.po), .own evc 54 27 (.slice ae C.ev.length ce) (C.ev), .blk P 35 (stc C.st vs), .join (CHR B C v pv q bs)] W) hM ?_
  clear hM
  rintro Y53 hM
  refine tF 2 [.val 0 (some 112) (.bool false), .val 1 (some 111) (.bool false)] trivial ?_
  refine dF ?_
  try simp only [puts, Tk.put, Act.put, List.setIfInBounds_toArray, List.set_cons_zero, List.set_cons_succ]
  go_upto_region 40 with fail
  refine wp_region_fromM (fun W => Sep w [] [.blk O 46 (evc x), .own lkc 91 3 (vs) (C.st.lk), .own (fun t => txc t) 44 25 (.slice ap C.po.length cp) (C.po), .own evc 54 27 (.slice ae C.ev.length ce) (C.ev), .blk P 35 (stc C.st vs), .join (CHR B C v pv q bs)] W) hM ?_
  clear hM
  rintro Y54 hM
  refine tF 2 [.val 0 (some 166) (.bool true), .val 1 (some 165) (.bool true)] trivial ?_
  refine dF ?_
  try simp only [puts, Tk.put, Act.put, List.setIfInBounds_toArray, List.set_cons_zero, List.set_cons_succ]
  go_upto_region 41 with fail
  refine wp_region_fromM (fun W => Sep w [] [.blk O 46 (evc x), .own lkc 91 3 (vs) (C.st.lk), .own (fun t => txc t) 44 25 (.slice ap C.po.length cp) (C.po), .own evc 54 27 (.slice ae C.ev.length ce) (C.ev), .blk P 35 (stc C.st vs), .join (CHR B C v pv q bs)] W) hM ?_
  clear hM
  rintro Y55 hM
  refine tF 3 [.val 0 (some 167) (pt B 0), .val 1 (some 168) (pt O 1), .load 2 (some 169) 3 (pt O 1) (.int .i64 x.cd)] ⟨ld_elA (blk_el (hM.at 0 rfl)), trivial⟩ ?_
  refine cF (some 170) 15 #[pt B 0, .int .i64 x.cd] ((chnRise_any x.cd _ (hM.oka 5 rfl) ⟨HC.out.st.t0, HC.out.st.t1⟩ (by have := HC.out.lk; have := HQ2.out; omega)).mono ?_)
  rintro e Y56 ⟨rfl, v5, pv5, q5, bs5, hT⟩
  replace hM := hM.turn 5 rfl hT rfl
  clear hT
  refine dF ?_
  try simp only [puts, Tk.put, Act.put, List.setIfInBounds_toArray, List.set_cons_zero, List.set_cons_succ]
  go_upto_region 42 with fail
  refine wp_region_fromM (fun W => Sep w [] [.blk O 46 (evc x), .own lkc 91 3 (vs) (C.st.lk), .own (fun t => txc t) 44 25 (.slice ap C.po.length cp) (C.po), .own evc 54 27 (.slice ae C.ev.length ce) (C.ev), .blk P 35 (stc C.st vs), .join (CHR B (riseC C x.cd) v5 pv5 q5 bs5)] W) hM ?_
  clear hM
  rintro Y57 hM
  refine tF 3 [.load 0 (some 171) 35 (pt P 0) (stv (C.st) (vs)), .val 1 (some 172) (pt O 1), .load 2 (some 173) 3 (pt O 1) (.int .i64 x.cd)] ⟨ld_st (hM.at 4 rfl), ld_elA (blk_el (hM.at 0 rfl)), trivial⟩ ?_
  refine cF (some 174) 16 #[stv (C.st) (vs), .int .i64 x.cd] ((esc_rise_any C.st vs x.cd _ ⟨HC.out.st.t0, HC.out.st.t1⟩ ((hM.oka 1 rfl).rsl lkc_len) (Nat.le_refl _) (by have := HC.out.lk; have := HQ2.out; omega)).mono ?_)
  rintro e W1 ⟨v1, rfl, hO, hb⟩
  replace hM := hM.row (f := lkc) hO hb
  clear hO hb
  have hv1 := (hM.oka 0 rfl).one lkc_len
  refine sF 35 (pt P 0) (stv (riseP C.st x.cd) v1) (sto_st (hM.at 5 rfl) (stc_len _ _) (riseP C.st x.cd) hv1) ?_
  replace hM := hM.set 5 (cs' := stc (riseP C.st x.cd) v1) rfl rfl
  generalize World.setRow _ _ _ = Y58 at *
  refine dF ?_
  try simp only [puts, Tk.put, Act.put, List.setIfInBounds_toArray, List.set_cons_zero, List.set_cons_succ]
  have hM5 := Lib.hid (Sep.pick (l' := [.own lkc 91 3 (v1) ((riseC C x.cd).st.lk), .own (fun t => txc t) 44 25 (.slice ap C.po.length cp) ((riseC C x.cd).po), .own evc 54 27 (.slice ae C.ev.length ce) ((riseC C x.cd).ev), .blk P 35 (stc (riseC C x.cd).st v1), .join (CHR B (riseC C x.cd) v5 pv5 q5 bs5)]) hM [0, 3, 4, 5, 6] (by decide) rfl)
  clear hM
  go_wp2_with fail
  go_meet
  exact ⟨(riseC C x.cd), v5, pv5, q5, bs5, v1, (rise_okC HC.out x.cd).1.up (Nat.le_succ _), hM5.out⟩
set_option maxRecDepth 100000 in
set_option maxHeartbeats 4000000 in
theorem runs_w3 {w W : World} {B P O k : Nat} {x : Ev} {C : Ch} {v pv q vs : Value} {bs : List Nat} {ap ae : Option Addr} {cp ce : Nat} (HC : Hid (OkC C k)) (HQ2 : Hid (k < 40)) (hM : Sep w [] [.blk O 46 (evc x), .own lkc 91 3 (vs) (C.st.lk), .own (fun t => txc t) 44 25 (.slice ap C.po.length cp) (C.po), .own evc 54 27 (.slice ae C.ev.length ce) (C.ev), .blk P 35 (stc C.st vs), .join (CHR B C v pv q bs)] W)
    {s0 s1 s2 s3 s4 s5 s6 s7 s8 s13 s15 s16 s17 s18 s19 s20 s21 s22 s23 s24 s25 s26 s27 s28 s29 s30 s31 s32 s33 s34 s35 s36 s37 s38 s39 s40 s41 s42 s43 s44 s45 s46 s47 s48 s49 s50 s51 s52 s53 s54 s55 s57 s58 s59 s60 s61 s62 s63 s64 s65 s66 s67 s68 s69 s70 s71 s72 s73 s74 s75 s76 s77 s78 s79 s80 s81 s82 s83 s84 s85 s86 s87 s88 s89 s90 s91 s92 s93 s94 s95 s96 s97 s98 s99 s100 s101 s102 s103 s104 s105 s106 s107 s108 s109 s110 s111 s112 s113 s114 s115 s116 s117 s118 s119 s120 s121 s122 s123 s124 s125 s126 s127 s128 s129 s130 s131 s132 s133 s134 s135 s136 s137 s138 s139 s140 s141 s142 s143 s144 s145 s146 s147 s148 s149 s150 s151 s152 s153 s154 s155 s156 s157 s158 s159 s160 s161 s162 s163 s164 s165 s166 s167 s168 s169 s170 s171 s172 s173 s174 s175 s176 s177 s178 s179 s180 s181 s182 s183 s184 s185 s186 s187 s188 s189 s190 s191 s192 s193 s194 s195 s196 s197 s198 s199 s200 s201 s202 s203 s204 s205 s206 s207 s208 s209 s210 s211 s212 s213 s214 s215 s216 s217 s218 s219 s220 s221 s222 s223 s224 s225 s226 s227 s228 s229 s230 s231 s232 s233 s234 s235 s236 s237 s238 s239 s240 s241 s242 s243 s244 : Value} (J K' : Act → World → Prop) (Q' : Exit → Act → World → Prop) (hR : ∀ a' w', RunsR w B P O k 3 s0 s1 s2 s3 s4 s5 s6 s7 s13 s26 s27 s28 s29 s30 s31 s32 s33 s34 s35 s36 s37 a' w' → J a' w') (hK : ∀ a' w', Met J a' w' → K' a' w') :
    Code.wp Tryz.prog runsBlk (Exit.then K' Q') ⟨#[s0, s1, s2, s3, s4, s5, s6, s7, s8, .pointer (some ⟨B, 0, none⟩), .pointer (some ⟨P, 0, none⟩), .slice ap C.po.length cp, .slice ae C.ev.length ce, s13, .pointer (some ⟨O, 0, none⟩), s15, s16, s17, s18, s19, s20, s21, s22, s23, s24, s25, s26, s27, s28, s29, s30, s31, s32, s33, s34, s35, s36, s37, s38, s39, s40, s41, s42, s43, s44, s45, s46, s47, s48, s49, s50, s51, s52, s53, s54, s55, .int .i64 3, s57, s58, s59, s60, s61, s62, s63, s64, s65, s66, s67, s68, s69, s70, s71, s72, s73, s74, s75, s76, s77, s78, s79, s80, s81, s82, s83, s84, s85, s86, s87, s88, s89, s90, s91, s92, s93, s94, s95, s96, s97, s98, s99, s100, s101, s102, s103, s104, s105, s106, s107, s108, s109, s110, s111, s112, s113, s114, s115, s116, s117, s118, s119, s120, s121, s122, s123, s124, s125, s126, s127, s128, s129, s130, s131, s132, s133, s134, s135, s136, s137, s138, s139, s140, s141, s142, s143, s144, s145, s146, s147, s148, s149, s150, s151, s152, s153, s154, s155, s156, s157, s158, s159, s160, s161, s162, s163, s164, s165, s166, s167, s168, s169, s170, s171, s172, s173, s174, s175, s176, s177, s178, s179, s180, s181, s182, s183, s184, s185, s186, s187, s188, s189, s190, s191, s192, s193, s194, s195, s196, s197, s198, s199, s200, s201, s202, s203, s204, s205, s206, s207, s208, s209, s210, s211, s212, s213, s214, s215, s216, s217, s218, s219, s220, s221, s222, s223, s224, s225, s226, s227, s228, s229, s230, s231, s232, s233, s234, s235, s236, s237, s238, s239, s240, s241, s242, s243, s244], []⟩ W := by
  have hmx : Tryz.prog.follows .mixedOrders = true := by kernel_rfl
  let Q0 := bodyPost Tryz.prog Tryz.f3
  conv => arg 2; whnf
  go_upto_region 21 with fail
  refine wp_region_fromM (fun W => Sep w [] [.blk O 46 (evc x), .own lkc 91 3 (vs) (C.st.lk), .own (fun t => txc t) 44 25 (.slice ap C.po.length cp) (C.po), .own evc 54 27 (.slice ae C.ev.length ce) (C.ev), .blk P 35 (stc C.st vs), .join (CHR B C v pv q bs)] W) hM ?_
  clear hM
  rintro Y59 hM
  refine tF 2 [.val 0 (some 82) (.bool false), .val 1 (some 81) (.bool false)] trivial ?_
  refine dF ?_
  try simp only [puts, Tk.put, Act.put, List.setIfInBounds_toArray, List.set_cons_zero, List.set_cons_succ]
  go_upto_region 27 with fail
  refine wp_region_fromM (fun W => Sep w [] [.blk O 46 (evc x), .own lkc 91 3 (vs) (C.st.lk), .own (fun t => txc t) 44 25 (.slice ap C.po.length cp) (C.po), .own evc 54 27 (.slice ae C.ev.length ce) (C.ev), .blk P 35 (stc C.st vs), .join (CHR B C v pv q bs)] W) hM ?_
  clear hM
  rintro Y60 hM
  refine tF 2 [.val 0 (some 112) (.bool false), .val 1 (some 111) (.bool false)] trivial ?_
  refine dF ?_
  try simp only [puts, Tk.put, Act.put, List.setIfInBounds_toArray, List.set_cons_zero, List.set_cons_succ]
  go_upto_region 40 with fail
  refine wp_region_fromM (fun W => Sep w [] [.blk O 46 (evc x), .own lkc 91 3 (vs) (C.st.lk), .own (fun t => txc t) 44 25 (.slice ap C.po.length cp) (C.po), .own evc 54 27 (.slice ae C.ev.length ce) (C.ev), .blk P 35 (stc C.st vs), .join (CHR B C v pv q bs)] W) hM ?_
  clear hM
  rintro Y61 hM
  refine tF 2 [.val 0 (some 166) (.bool false), .val 1 (some 165) (.bool false)] trivial ?_
  refine dF ?_
  try simp only [puts, Tk.put, Act.put, List.setIfInBounds_toArray, List.set_cons_zero, List.set_cons_succ]
  go_upto_region 12 with fail
  refine wp_region_fromM (fun W => Sep w [] [.blk O 46 (evc x), .own lkc 91 3 (vs) (C.st.lk), .own (fun t => txc t) 44 25 (.slice ap C.po.length cp) (C.po), .own evc 54 27 (.slice ae C.ev.length ce) (C.ev), .blk P 35 (stc C.st vs), .join (CHR B C v pv q bs)] W) hM ?_
  clear hM
  rintro Y62 hM
  refine tF 1 [.val 0 (some 57) (pt B 0)] trivial ?_
  refine cF (some 58) 17 #[pt B 0] ((chnPool_any _ (ChV.of (hM.oka 5 rfl)) (by have := HC.out.po; omega)).mono ?_)
  rintro e Y63 ⟨vpz, rfl, hR⟩
  replace hM := hM.gain hR
  clear hR
  refine tF 3 [.val 2 (some 59) (pt B 0)] trivial ?_
  obtain ⟨apz, cpz, rfl⟩ := (hM.oka 0 rfl).slice txc_25
  refine cF (some 60) 18 #[pt B 0, .int .i64 0] ((chnEvents0_any _ (ChV.of (hM.oka 6 rfl)) (by have := HC.out.ev; have := HQ2.out; omega)).mono ?_)
  rintro e Y64 ⟨vqz, rfl, hR⟩
  replace hM := hM.gain hR
  clear hR
  obtain ⟨aqz, cqz, rfl⟩ := (hM.oka 0 rfl).slice evc_len
  refine tF 6 [.val 4 (some 22) (.slice apz C.po.length cpz), .val 5 (some 23) (.slice aqz C.ev.length cqz)] trivial ?_
  refine dF ?_
  try simp only [puts, Tk.put, Act.put, List.setIfInBounds_toArray, List.set_cons_zero, List.set_cons_succ]
  go_upto_region 13 with fail
  refine wp_region_fromM (fun W => Sep w [] [.own evc 54 27 (.slice aqz C.ev.length cqz) (C.ev), .own (fun t => txc t) 44 25 (.slice apz C.po.length cpz) (C.po), .blk O 46 (evc x), .own lkc 91 3 (vs) (C.st.lk), .own (fun t => txc t) 44 25 (.slice ap C.po.length cp) (C.po), .own evc 54 27 (.slice ae C.ev.length ce) (C.ev), .blk P 35 (stc C.st vs), .join (CHR B C v pv q bs)] W) hM ?_
  clear hM
  rintro Y65 hM
  refine tF 1 [.val 0 (some 24) (.int .i64 0)] trivial ?_
  refine dF ?_
  try simp only [puts, Tk.put, Act.put, List.setIfInBounds_toArray, List.set_cons_zero, List.set_cons_succ]
  go_wp2_with fail
  go_loopw [24] (fun i wr => ∃ (j : Nat) (L : List Tr), j ≤ C.po.length ∧ i = .int .i64 (j : Nat) ∧ L.length = C.po.length ∧ Sep w [] [.own evc 54 27 (.slice aqz C.ev.length cqz) (C.ev), .own (fun t => txc t) 44 25 (.slice apz C.po.length cpz) (L), .blk O 46 (evc x), .own lkc 91 3 (vs) (C.st.lk), .own (fun t => txc t) 44 25 (.slice ap C.po.length cp) (C.po), .own evc 54 27 (.slice ae C.ev.length ce) (C.ev), .blk P 35 (stc C.st vs), .join (CHR B C v pv q bs)] wr) (fun i _ => C.po.length - (intOf i).toNat)
  case atStart => exact ⟨0, _, Nat.zero_le _, rfl, rfl, hM⟩
  clear hM
  case round =>
    obtain ⟨j, L, hj, rfl, hLn, hM⟩ := hrel
    have HLN := Lib.hid hLn
    clear hLn
    by_cases hjl : j < C.po.length
    · obtain ⟨y, hy⟩ : ∃ y, L[j]? = some y := ⟨_, List.getElem?_eq_getElem (by rw [HLN.out]; exact hjl)⟩
      obtain ⟨bz, oz, hiz, _⟩ := (hM.oka 1 rfl).elem txc_25 hy Tryz.underlying37 (fun W => by kernel_rfl)
      have HIZ := Lib.hid hiz
      have HY := Lib.hid hy
      have HJ := Lib.hid hjl
      clear hiz hy hjl
      go_upto_region 14 with fail
      refine wp_region_fromM (fun W => Sep w [] [.own evc 54 27 (.slice aqz C.ev.length cqz) (C.ev), .own (fun t => txc t) 44 25 (.slice apz C.po.length cpz) (L), .blk O 46 (evc x), .own lkc 91 3 (vs) (C.st.lk), .own (fun t => txc t) 44 25 (.slice ap C.po.length cp) (C.po), .own evc 54 27 (.slice ae C.ev.length ce) (C.ev), .blk P 35 (stc C.st vs), .join (CHR B C v pv q bs)] W) hM ?_
      clear hM
      rintro Y66 hM
      refine tF 2 [.val 0 (some 61) (.int .i64 (j : Int)), .val 1 (some 62) (.slice apz C.po.length cpz)] trivial ?_
      refine rF (some 63) (.int .i64 C.po.length) (Y66) ?_
      refine tF 4 [.alt 3 (some 64) (.bool (decide ((j : Int) < (C.po.length : Int)))) (.bool true)] ⟨congrArg Value.bool (decide_eq_true (by have := HJ.out; omega)), trivial⟩ ?_
      refine dF ?_
      try simp only [puts, Tk.put, Act.put, List.setIfInBounds_toArray, List.set_cons_zero, List.set_cons_succ]
      go_upto_region 16 with fail
      refine wp_region_fromM (fun W => Sep w [] [.own evc 54 27 (.slice aqz C.ev.length cqz) (C.ev), .own (fun t => txc t) 44 25 (.slice apz C.po.length cpz) (L), .blk O 46 (evc x), .own lkc 91 3 (vs) (C.st.lk), .own (fun t => txc t) 44 25 (.slice ap C.po.length cp) (C.po), .own evc 54 27 (.slice ae C.ev.length ce) (C.ev), .blk P 35 (stc C.st vs), .join (CHR B C v pv q bs)] W) hM ?_
      clear hM
      rintro Y67 hM
      refine tF 4 [.val 0 (some 67) (.slice apz C.po.length cpz), .val 1 (some 68) (.int .i64 (j : Int)), .val 2 (some 69) (.agg (txc noT).toArray), .idx 3 (some 70) 37 (.slice apz C.po.length cpz) (.int .i64 (j : Int)) (pt bz oz)] ⟨HIZ.out _, trivial⟩ ?_
      obtain ⟨Z, hst, ht⟩ := own_store (hM.oka 1 rfl) txc_25 HY.out Tryz.underlying37 (fun W => by kernel_rfl) (HIZ.out Y67) noT 0 44 (.agg (txc noT).toArray) (by kernel_rfl) (by exact Nat.le_refl 25) (txc_all noT) (tx_laid y noT)
      refine sF 44 (pt bz oz) (.agg (txc noT).toArray) hst ?_
      replace hM := hM.turn 1 rfl ht rfl
      clear ht hst
      refine dF ?_
      try simp only [puts, Tk.put, Act.put, List.setIfInBounds_toArray, List.set_cons_zero, List.set_cons_succ]
      have hM5 := Lib.hid hM
      clear hM
      have hc1 := HC.out.po
      have hc2 := HC.out.ev
      have hj2 := HJ.out
      have hk2 := HQ2.out
      have hwr : IntKind.i64.wrap ((j : Int) + 1) = ((j + 1 : Nat) : Int) := (IntWalk.i64_in _ (by omega)).trans (by omega)
      go_wp2_with fail
      go_roundw
      case rel => exact ⟨j + 1, _, HJ.out, by go_num, by rw [List.length_set]; exact HLN.out, hM5.out⟩
      case measure => have := HJ.out; simp [intOf]; omega
    · obtain rfl : j = C.po.length := by omega
      go_upto_region 14 with fail
      refine wp_region_fromM (fun W => Sep w [] [.own evc 54 27 (.slice aqz C.ev.length cqz) (C.ev), .own (fun t => txc t) 44 25 (.slice apz C.po.length cpz) (L), .blk O 46 (evc x), .own lkc 91 3 (vs) (C.st.lk), .own (fun t => txc t) 44 25 (.slice ap C.po.length cp) (C.po), .own evc 54 27 (.slice ae C.ev.length ce) (C.ev), .blk P 35 (stc C.st vs), .join (CHR B C v pv q bs)] W) hM ?_
      clear hM
      rintro Y68 hM
      refine tF 2 [.val 0 (some 61) (.int .i64 C.po.length), .val 1 (some 62) (.slice apz C.po.length cpz)] trivial ?_
      refine rF (some 63) (.int .i64 C.po.length) (Y68) ?_
      refine tF 4 [.alt 3 (some 64) (.bool (decide ((C.po.length : Int) < (C.po.length : Int)))) (.bool false)] ⟨congrArg Value.bool (decide_eq_false (by omega)), trivial⟩ ?_
      refine dF ?_
      try simp only [puts, Tk.put, Act.put, List.setIfInBounds_toArray, List.set_cons_zero, List.set_cons_succ]
      generalize hLL : L = L0 at *
      clear hLL HLN
      go_upto_region 17 with fail
      refine wp_region_fromM (fun W => Sep w [] [.own evc 54 27 (.slice aqz C.ev.length cqz) (C.ev), .own (fun t => txc t) 44 25 (.slice apz C.po.length cpz) (L0), .blk O 46 (evc x), .own lkc 91 3 (vs) (C.st.lk), .own (fun t => txc t) 44 25 (.slice ap C.po.length cp) (C.po), .own evc 54 27 (.slice ae C.ev.length ce) (C.ev), .blk P 35 (stc C.st vs), .join (CHR B C v pv q bs)] W) hM ?_
      clear hM
      rintro Y69 hM
      refine tF 1 [.val 0 (some 25) (.int .i64 0)] trivial ?_
      refine dF ?_
      try simp only [puts, Tk.put, Act.put, List.setIfInBounds_toArray, List.set_cons_zero, List.set_cons_succ]
      go_wp2_with fail
      go_loopw [25] (fun i wr => ∃ (j : Nat) (L : List Ev), j ≤ C.ev.length ∧ i = .int .i64 (j : Nat) ∧ L.length = C.ev.length ∧ Sep w [] [.own evc 54 27 (.slice aqz C.ev.length cqz) (L), .own (fun t => txc t) 44 25 (.slice apz C.po.length cpz) (L0), .blk O 46 (evc x), .own lkc 91 3 (vs) (C.st.lk), .own (fun t => txc t) 44 25 (.slice ap C.po.length cp) (C.po), .own evc 54 27 (.slice ae C.ev.length ce) (C.ev), .blk P 35 (stc C.st vs), .join (CHR B C v pv q bs)] wr) (fun i _ => C.ev.length - (intOf i).toNat)
      case atStart => exact ⟨0, _, Nat.zero_le _, rfl, rfl, hM⟩
      clear hM
      case round =>
        obtain ⟨j, L, hj, rfl, hLn, hM⟩ := hrel
        have HLN := Lib.hid hLn
        clear hLn
        by_cases hjl : j < C.ev.length
        · obtain ⟨y, hy⟩ : ∃ y, L[j]? = some y := ⟨_, List.getElem?_eq_getElem (by rw [HLN.out]; exact hjl)⟩
          obtain ⟨bz, oz, hiz, _⟩ := (hM.oka 0 rfl).elem evc_len hy Tryz.underlying38 (fun W => by kernel_rfl)
          have HIZ := Lib.hid hiz
          have HY := Lib.hid hy
          have HJ := Lib.hid hjl
          clear hiz hy hjl
          go_upto_region 18 with fail
          refine wp_region_fromM (fun W => Sep w [] [.own evc 54 27 (.slice aqz C.ev.length cqz) (L), .own (fun t => txc t) 44 25 (.slice apz C.po.length cpz) (L0), .blk O 46 (evc x), .own lkc 91 3 (vs) (C.st.lk), .own (fun t => txc t) 44 25 (.slice ap C.po.length cp) (C.po), .own evc 54 27 (.slice ae C.ev.length ce) (C.ev), .blk P 35 (stc C.st vs), .join (CHR B C v pv q bs)] W) hM ?_
          clear hM
          rintro Y70 hM
          refine tF 2 [.val 0 (some 71) (.int .i64 (j : Int)), .val 1 (some 72) (.slice aqz C.ev.length cqz)] trivial ?_
          refine rF (some 73) (.int .i64 C.ev.length) (Y70) ?_
          refine tF 4 [.alt 3 (some 74) (.bool (decide ((j : Int) < (C.ev.length : Int)))) (.bool true)] ⟨congrArg Value.bool (decide_eq_true (by have := HJ.out; omega)), trivial⟩ ?_
          refine dF ?_
          try simp only [puts, Tk.put, Act.put, List.setIfInBounds_toArray, List.set_cons_zero, List.set_cons_succ]
          go_upto_region 20 with fail
          refine wp_region_fromM (fun W => Sep w [] [.own evc 54 27 (.slice aqz C.ev.length cqz) (L), .own (fun t => txc t) 44 25 (.slice apz C.po.length cpz) (L0), .blk O 46 (evc x), .own lkc 91 3 (vs) (C.st.lk), .own (fun t => txc t) 44 25 (.slice ap C.po.length cp) (C.po), .own evc 54 27 (.slice ae C.ev.length ce) (C.ev), .blk P 35 (stc C.st vs), .join (CHR B C v pv q bs)] W) hM ?_
          clear hM
          rintro Y71 hM
          refine tF 4 [.val 0 (some 77) (.slice aqz C.ev.length cqz), .val 1 (some 78) (.int .i64 (j : Int)), .val 2 (some 79) (.agg (evc ⟨0, 0, noT⟩).toArray), .idx 3 (some 80) 38 (.slice aqz C.ev.length cqz) (.int .i64 (j : Int)) (pt bz oz)] ⟨HIZ.out _, trivial⟩ ?_
          obtain ⟨Z, hst, ht⟩ := own_store (hM.oka 0 rfl) evc_len HY.out Tryz.underlying38 (fun W => by kernel_rfl) (HIZ.out Y71) ⟨0, 0, noT⟩ 0 54 (.agg (evc ⟨0, 0, noT⟩).toArray) (by kernel_rfl) (by exact Nat.le_refl 27) (evc_all ⟨0, 0, noT⟩) (ev_laid y ⟨0, 0, noT⟩)
          refine sF 54 (pt bz oz) (.agg (evc ⟨0, 0, noT⟩).toArray) hst ?_
          replace hM := hM.turn 0 rfl ht rfl
          clear ht hst
          refine dF ?_
          try simp only [puts, Tk.put, Act.put, List.setIfInBounds_toArray, List.set_cons_zero, List.set_cons_succ]
          have hM5 := Lib.hid hM
          clear hM
          have hc1 := HC.out.po
          have hc2 := HC.out.ev
          have hj2 := HJ.out
          have hk2 := HQ2.out
          have hwr : IntKind.i64.wrap ((j : Int) + 1) = ((j + 1 : Nat) : Int) := (IntWalk.i64_in _ (by omega)).trans (by omega)
          go_wp2_with fail
          go_roundw
          case rel => exact ⟨j + 1, _, HJ.out, by go_num, by rw [List.length_set]; exact HLN.out, hM5.out⟩
          case measure => have := HJ.out; simp [intOf]; omega
        · obtain rfl : j = C.ev.length := by omega
          go_upto_region 18 with fail
          refine wp_region_fromM (fun W => Sep w [] [.own evc 54 27 (.slice aqz C.ev.length cqz) (L), .own (fun t => txc t) 44 25 (.slice apz C.po.length cpz) (L0), .blk O 46 (evc x), .own lkc 91 3 (vs) (C.st.lk), .own (fun t => txc t) 44 25 (.slice ap C.po.length cp) (C.po), .own evc 54 27 (.slice ae C.ev.length ce) (C.ev), .blk P 35 (stc C.st vs), .join (CHR B C v pv q bs)] W) hM ?_
          clear hM
          rintro Y72 hM
          refine tF 2 [.val 0 (some 71) (.int .i64 C.ev.length), .val 1 (some 72) (.slice aqz C.ev.length cqz)] trivial ?_
          refine rF (some 73) (.int .i64 C.ev.length) (Y72) ?_
          refine tF 4 [.alt 3 (some 74) (.bool (decide ((C.ev.length : Int) < (C.ev.length : Int)))) (.bool false)] ⟨congrArg Value.bool (decide_eq_false (by omega)), trivial⟩ ?_
          refine dF ?_
          try simp only [puts, Tk.put, Act.put, List.setIfInBounds_toArray, List.set_cons_zero, List.set_cons_succ]
          have hM5 := Lib.hid (Sep.pick (l' := [.own lkc 91 3 (vs) (C.st.lk), .own (fun t => txc t) 44 25 (.slice ap C.po.length cp) (C.po), .own evc 54 27 (.slice ae C.ev.length ce) (C.ev), .blk P 35 (stc C.st vs), .join (CHR B C v pv q bs)]) hM [3, 4, 5, 6, 7] (by decide) rfl)
          clear hM
          go_wp2_with fail
          go_meet
          exact ⟨C, v, pv, q, bs, vs, HC.out.up (Nat.le_succ _), hM5.out⟩
set_option maxRecDepth 100000 in
set_option maxHeartbeats 4000000 in
theorem chainRuns_any (sd tz : Int) (l : List Ev) (acc : Int) (lv : Value) (w : World) {lo hi : Nat} (hl : RSl evc lo hi w lv l) (hhi : hi ≤ w.heap.size) (hok : ∀ x ∈ l, OkT x.tx) : Calls Tryz.prog 3 #[.int .i64 sd, .int .i64 tz, lv, .int .i64 acc] w fun e W' => e = .returned (.bool true) ∧ Below w.heap.size w W' := by
  have hmx : Tryz.prog.follows .mixedOrders = true := by kernel_rfl
  have HET := Lib.hid (fun k x (hx : l[k]? = some x) => hl.elem evc_len hx Tryz.underlying22 (fun W => by kernel_rfl))
  have hml := hl.len
  obtain ⟨pl, cl, rfl⟩ := hl.slice
  unfold maxLen at hml
  have HLT := Lib.hid hl
  have HHT := Lib.hid hhi
  have HOK := Lib.hid hok
  have HML := Lib.hid hml
  clear hl hhi hok hml
  have hM := Sep.start w
  go_enter Tryz.func3, Tryz.ntmps3
  go_upto_region 1 with fail
  refine wp_region_fromM (fun W => Sep w [] [] W) hM ?_
  clear hM
  rintro Y1 hM
  refine cF (some 30) 7 #[] ((alive13_any _).mono ?_)
  rintro e W1 ⟨rfl, hb⟩
  replace hM := hM.below hb
  clear hb
  refine tF 2 [.val 1 (some 31) (.bool false)] trivial ?_
  refine dF ?_
  try simp only [puts, Tk.put, Act.put, List.setIfInBounds_toArray, List.set_cons_zero, List.set_cons_succ]
  go_upto_region 3 with fail
  refine wp_region_fromM (fun W => Sep w [] [] W) hM ?_
  clear hM
  rintro Y2 hM
  refine tF 2 [.val 0 (some 32) (.int .i64 sd), .val 1 (some 33) (.int .i64 tz)] trivial ?_
  refine cF (some 34) 8 #[.int .i64 sd, .int .i64 tz] ((chnNew_any sd tz _).mono ?_)
  rintro e Y3 ⟨B, v0, pv0, q0, bs0, rfl, hN⟩
  replace hM := hM.gain hN.one
  clear hN
  refine tF 4 [.val 3 (some 9) (pt B 0)] trivial ?_
  refine dF ?_
  try simp only [puts, Tk.put, Act.put, List.setIfInBounds_toArray, List.set_cons_zero, List.set_cons_succ]
  go_upto_region 4 with fail
  refine wp_region_fromM (fun W => Sep w [] [.join (CHR B (newC sd tz) v0 pv0 q0 bs0)] W) hM ?_
  clear hM
  rintro Y4 hM
  refine tF 2 [.val 0 (some 35) (.int .i64 sd), .val 1 (some 36) (.int .i64 tz)] trivial ?_
  refine cF (some 37) 9 #[.int .i64 sd, .int .i64 tz] ((genesis_any sd tz _).mono ?_)
  rintro e W2 ⟨rfl, hb⟩
  replace hM := hM.below hb
  clear hb
  refine rF (some 10) (pt W2.heap.size 0) (W2.alloc (.cells (stc zS nilV).toArray 35)) ?_
  replace hM := hM.alloc 35 (stc zS nilV)
  generalize World.alloc _ _ = Y5 at *
  generalize hNe : W2.heap.size = P at *
  clear hNe
  refine sF 35 (pt P 0) (stv (genP sd tz) nilV) (sto_st (hM.at 0 rfl) (stc_len _ _) (genP sd tz) rfl) ?_
  replace hM := hM.set 0 (cs' := stc (genP sd tz) nilV) rfl rfl
  generalize World.setRow _ _ _ = Y6 at *
  refine dF ?_
  try simp only [puts, Tk.put, Act.put, List.setIfInBounds_toArray, List.set_cons_zero, List.set_cons_succ]
  go_upto_region 5 with fail
  refine wp_region_fromM (fun W => Sep w [] [.blk P 35 (stc (genP sd tz) nilV), .join (CHR B (newC sd tz) v0 pv0 q0 bs0)] W) hM ?_
  clear hM
  rintro Y7 hM
  refine tF 1 [.val 0 (some 11) (.slice none 0 0)] trivial ?_
  refine dF ?_
  try simp only [puts, Tk.put, Act.put, List.setIfInBounds_toArray, List.set_cons_zero, List.set_cons_succ]
  go_upto_region 6 with fail
  refine wp_region_fromM (fun W => Sep w [] [.blk P 35 (stc (genP sd tz) nilV), .join (CHR B (newC sd tz) v0 pv0 q0 bs0)] W) hM ?_
  clear hM
  rintro Y8 hM
  refine tF 1 [.val 0 (some 12) (.slice none 0 0)] trivial ?_
  refine dF ?_
  try simp only [puts, Tk.put, Act.put, List.setIfInBounds_toArray, List.set_cons_zero, List.set_cons_succ]
  go_upto_region 7 with fail
  refine wp_region_fromM (fun W => Sep w [] [.blk P 35 (stc (genP sd tz) nilV), .join (CHR B (newC sd tz) v0 pv0 q0 bs0)] W) hM ?_
  clear hM
  rintro Y9 hM
  refine tF 1 [.val 0 (some 13) (.int .i64 0)] trivial ?_
  refine dF ?_
  try simp only [puts, Tk.put, Act.put, List.setIfInBounds_toArray, List.set_cons_zero, List.set_cons_succ]
  replace hM := ((hM.nil evc 54 27).nil (fun t => txc t) 44 25).nil lkc 91 3
  go_wp2_with fail
  go_loopw [11, 12, 13] (fun vp ve i wr => ∃ (k : Nat) (C : Ch) (v pv q : Value) (bs : List Nat) (vs : Value), k ≤ l.length ∧ k ≤ 40 ∧ i = .int .i64 (k : Nat) ∧ OkC C k ∧ Sep w [] [.own lkc 91 3 (vs) (C.st.lk), .own (fun t => txc t) 44 25 (vp) (C.po), .own evc 54 27 (ve) (C.ev), .blk P 35 (stc C.st vs), .join (CHR B C v pv q bs)] wr) (fun _ _ i _ => 40 - (intOf i).toNat)
  case atStart => exact ⟨0, newC sd tz, v0, pv0, q0, bs0, nilV, Nat.zero_le _, Nat.zero_le _, rfl, new_okC sd tz, hM⟩
  clear hM
  case round =>
    obtain ⟨k, C, v, pv, q, bs, vs, hkl, hk40, rfl, hC, hM⟩ := hrel
    obtain ⟨ap, cp, rfl⟩ := (hM.oka 1 rfl).slice txc_25
    obtain ⟨ae, ce, rfl⟩ := (hM.oka 2 rfl).slice evc_len
    have HC := Lib.hid hC
    clear hC
    by_cases hq : k < l.length
    case pos =>
      by_cases hq2 : k < 40
      case pos =>
        obtain ⟨x, hx⟩ : ∃ x, l[k]? = some x := ⟨_, List.getElem?_eq_getElem hq⟩
        have htx := HOK.out x (List.mem_of_getElem? hx)
        obtain ⟨bt, ot, _, _, hit, hct⟩ := HET.out k x hx
        have HIT := Lib.hid hit
        have HCT := Lib.hid hct
        have HTX := Lib.hid htx
        have HQ := Lib.hid hq
        have HQ2 := Lib.hid hq2
        clear hx hit hct htx
        go_upto_region 8 with fail
        refine wp_region_fromM (fun W => Sep w [] [.own lkc 91 3 (vs) (C.st.lk), .own (fun t => txc t) 44 25 (.slice ap C.po.length cp) (C.po), .own evc 54 27 (.slice ae C.ev.length ce) (C.ev), .blk P 35 (stc C.st vs), .join (CHR B C v pv q bs)] W) hM ?_
        clear hM
        rintro Y10 hM
        refine tF 2 [.val 0 (some 38) (.int .i64 (k : Int)), .val 1 (some 39) (.slice pl l.length cl)] trivial ?_
        refine rF (some 40) (.int .i64 l.length) (Y10) ?_
        refine tF 8 [.alt 3 (some 41) (.bool (decide ((k : Int) < (l.length : Int)))) (.bool true), .val 4 (some 42) (.bool true), .val 5 (some 43) (.int .i64 (k : Int)), .alt 6 (some 44) (.bool (decide ((k : Int) < 40))) (.bool true), .val 7 (some 45) (.bool true)] ⟨congrArg Value.bool (decide_eq_true (by omega)), congrArg Value.bool (decide_eq_true (by omega)), trivial⟩ ?_
        refine dF ?_
        try simp only [puts, Tk.put, Act.put, List.setIfInBounds_toArray, List.set_cons_zero, List.set_cons_succ]
        go_upto_region 10 with fail
        refine wp_region_fromM (fun W => Sep w [] [.own lkc 91 3 (vs) (C.st.lk), .own (fun t => txc t) 44 25 (.slice ap C.po.length cp) (C.po), .own evc 54 27 (.slice ae C.ev.length ce) (C.ev), .blk P 35 (stc C.st vs), .join (CHR B C v pv q bs)] W) hM ?_
        clear hM
        rintro Y11 hM
        refine tF 4 [.val 0 (some 48) (.slice pl l.length cl), .val 1 (some 49) (.int .i64 (k : Int)), .idx 2 (some 50) 22 (.slice pl l.length cl) (.int .i64 (k : Int)) (pt bt ot), .load 3 (some 51) 46 (pt bt ot) (.agg (evc x).toArray)] ⟨HIT.out _, ld_elE _ _ Tryz.underlying46 rfl (by kernel_rfl) (HCT.out _ (HLT.out.below hM.b HHT.out)), trivial⟩ ?_
        refine rF (some 14) (pt Y11.heap.size 0) (Y11.alloc (.cells (evc ⟨0, 0, noT⟩).toArray 46)) ?_
        replace hM := hM.alloc 46 (evc ⟨0, 0, noT⟩)
        generalize World.alloc _ _ = Y12 at *
        generalize hNe : Y11.heap.size = O at *
        clear hNe
        refine sF 46 (pt O 0) (.agg (evc x).toArray) (sto_opB (hM.at 0 rfl) x) ?_
        replace hM := hM.set 0 (cs' := evc x) rfl rfl
        generalize World.setRow _ _ _ = Y13 at *
        refine dF ?_
        try simp only [puts, Tk.put, Act.put, List.setIfInBounds_toArray, List.set_cons_zero, List.set_cons_succ]
        go_upto_region 11 with fail
        refine wp_region_fromM (fun W => Sep w [] [.blk O 46 (evc x), .own lkc 91 3 (vs) (C.st.lk), .own (fun t => txc t) 44 25 (.slice ap C.po.length cp) (C.po), .own evc 54 27 (.slice ae C.ev.length ce) (C.ev), .blk P 35 (stc C.st vs), .join (CHR B C v pv q bs)] W) hM ?_
        clear hM
        rintro Y14 hM
        refine tF 5 [.val 0 (some 52) (pt O 0), .load 1 (some 53) 3 (pt O 0) (.int .i64 x.tm), .val 2 (some 54) (.int .i64 (Int.tmod x.tm 4)), .alt 3 (some 55) (.int .i64 (IntKind.i64.wrap (Int.tmod x.tm 4 + 4))) (.int .i64 (Int.tmod x.tm 4 + 4)), .val 4 (some 56) (.int .i64 (modW x.tm))] ⟨ld_elK (blk_el (hM.at 0 rfl)), congrArg (Value.int .i64) (mod_sum _), trivial⟩ ?_
        refine dF ?_
        try simp only [puts, Tk.put, Act.put, List.setIfInBounds_toArray, List.set_cons_zero, List.set_cons_succ]
        have hmod := modW_is x.tm
        generalize modW x.tm = g at *
        go_upto_block 2 with fail
        go_cut [11, 12] (fun vp ve wc => ∃ (C : Ch) (v pv q : Value) (bs : List Nat) (vs : Value), OkC C (k + 1) ∧ Sep w [] [.own lkc 91 3 (vs) (C.st.lk), .own (fun t => txc t) 44 25 (vp) (C.po), .own evc 54 27 (ve) (C.ev), .blk P 35 (stc C.st vs), .join (CHR B C v pv q bs)] wc)
        case first =>
          rename_i J K' hR hK
          rcases hmod with rfl | rfl | rfl | rfl
          · exact runs_w0 HC HTX hM J K' _ hR hK
          · exact runs_w1 HC HQ2 hM J K' _ (by rintro (_ | _) _ _ _ _ h <;> exact h) hR hK
          · exact runs_w2 HC HQ2 hM J K' _ hR hK
          · exact runs_w3 HC HQ2 hM J K' _ hR hK
        case rest =>
          obtain ⟨C, v, pv, q, bs, vs, hC, hM⟩ := hcut
          obtain ⟨ap, cp, rfl⟩ := (hM.oka 1 rfl).slice txc_25
          obtain ⟨ae, ce, rfl⟩ := (hM.oka 2 rfl).slice evc_len
          have HC := Lib.hid hC
          clear hC
          go_upto_region 43 with fail
          refine wp_region_fromM (fun W => Sep w [] [.own lkc 91 3 (vs) (C.st.lk), .own (fun t => txc t) 44 25 (.slice ap C.po.length cp) (C.po), .own evc 54 27 (.slice ae C.ev.length ce) (C.ev), .blk P 35 (stc C.st vs), .join (CHR B C v pv q bs)] W) hM ?_
          clear hM
          rintro Y73 hM
          refine tF 1 [.val 0 (some 175) (pt B 0)] trivial ?_
          refine cF (some 176) 17 #[pt B 0] ((chnPool_any _ (ChV.of (hM.oka 4 rfl)) (by have := HC.out.po; omega)).mono ?_)
          rintro e Y74 ⟨vpy, rfl, hR⟩
          replace hM := hM.gain hR
          clear hR
          refine tF 3 [.val 2 (some 177) (pt B 0)] trivial ?_
          obtain ⟨apy, cpy, rfl⟩ := (hM.oka 0 rfl).slice txc_25
          refine cF (some 178) 18 #[pt B 0, .int .i64 0] ((chnEvents0_any _ (ChV.of (hM.oka 5 rfl)) (by have := HC.out.ev; have := HQ2.out; omega)).mono ?_)
          rintro e Y75 ⟨vqy, rfl, hR⟩
          replace hM := hM.gain hR
          clear hR
          obtain ⟨aqy, cqy, rfl⟩ := (hM.oka 0 rfl).slice evc_len
          refine tF 6 [.val 4 (some 26) (.slice apy C.po.length cpy), .val 5 (some 27) (.slice aqy C.ev.length cqy)] trivial ?_
          refine dF ?_
          try simp only [puts, Tk.put, Act.put, List.setIfInBounds_toArray, List.set_cons_zero, List.set_cons_succ]
          go_upto_region 44 with fail
          go_cut [214] (fun s wc => s = .bool false ∧ Sep w [] [.own evc 54 27 (.slice aqy C.ev.length cqy) (C.ev), .own (fun t => txc t) 44 25 (.slice apy C.po.length cpy) (C.po), .own lkc 91 3 (vs) (C.st.lk), .own (fun t => txc t) 44 25 (.slice ap C.po.length cp) (C.po), .own evc 54 27 (.slice ae C.ev.length ce) (C.ev), .blk P 35 (stc C.st vs), .join (CHR B C v pv q bs)] wc)
          case first =>
            refine wp_region_M (fun W => Sep w [] [.own evc 54 27 (.slice aqy C.ev.length cqy) (C.ev), .own (fun t => txc t) 44 25 (.slice apy C.po.length cpy) (C.po), .own lkc 91 3 (vs) (C.st.lk), .own (fun t => txc t) 44 25 (.slice ap C.po.length cp) (C.po), .own evc 54 27 (.slice ae C.ev.length ce) (C.ev), .blk P 35 (stc C.st vs), .join (CHR B C v pv q bs)] W) (fun W => Sep w [] [.own evc 54 27 (.slice aqy C.ev.length cqy) (C.ev), .own (fun t => txc t) 44 25 (.slice apy C.po.length cpy) (C.po), .own lkc 91 3 (vs) (C.st.lk), .own (fun t => txc t) 44 25 (.slice ap C.po.length cp) (C.po), .own evc 54 27 (.slice ae C.ev.length ce) (C.ev), .blk P 35 (stc C.st vs), .join (CHR B C v pv q bs)] W) hmx hM.drew ?_
            clear hM
            rintro Y76 hM
            have hS := hM.sub (.cons_cons _ (.cons_cons _ (.cons_cons _ (.cons_cons _ (.cons_cons _ (.cons_cons _ (.cons_cons _ .slnil)))))))
            refine tD 34 [.val 0 (some 179) (pt B 0), .load 2 (some 181) 35 (pt P 0) (stv (C.st) (vs))] ⟨fun W h => ld_st (h.at 5 rfl), trivial⟩ hS ?_
            refine oD 1 33 (cD (some 180) 20 #[pt B 0] ((chnState_any _ (ChV.of (hM.oka 6 rfl)) (by have := HC.out.lk; have := HQ2.out; omega)).mono ?_))
            rintro e Y77 ⟨vt, rfl, hR⟩
            refine And.intro (hS.below hR.b) ?_
            replace hS := hS.below hR.b
            replace hM := hM.gain hR
            clear hR
            refine oD 3 32 (cD (some 182) 19 #[stv C.st vt, stv (C.st) (vs)] ((same13_any C.st vt vs _ ((hM.oka 0 rfl).rsl lkc_len) (Nat.le_refl _) ((hM.oka 3 rfl).rsl lkc_len) (Nat.le_refl _)).mono ?_))
            rintro e Y78 ⟨rfl, hb⟩
            refine And.intro (hS.below hb) ?_
            replace hS := hS.below hb
            replace hM := hM.below hb
            clear hb
            refine tD 27 [.val 4 (some 183) (.bool false), .val 5 (some 184) (.bool false), .val 6 (some 185) (pt B 0), .val 8 (some 187) (pt P 1), .load 9 (some 188) 3 (pt P 1) (.int .i64 C.st.tm)] ⟨fun W h => ld_int (h.at 5 rfl) 1 rfl, trivial⟩ hS ?_
            refine oD 7 26 (cD (some 186) 21 #[pt B 0] ((chnTime_any _ (ChV.of (hM.oka 7 rfl))).mono ?_))
            rintro e Y79 ⟨rfl, hb⟩
            refine And.intro (hS.below hb) ?_
            replace hS := hS.below hb
            replace hM := hM.below hb
            clear hb
            refine tD 4 [.alt 10 (some 189) (.bool (C.st.tm != C.st.tm)) (.bool false), .val 11 (some 190) (.bool false), .val 12 (some 191) (.bool false), .val 13 (some 192) (.slice apy C.po.length cpy), .val 14 (some 193) (.int .i64 C.po.length), .val 15 (some 194) (.slice ap C.po.length cp), .val 16 (some 195) (.int .i64 C.po.length), .alt 17 (some 196) (.bool ((C.po.length : Int) != (C.po.length : Int))) (.bool false), .val 18 (some 197) (.bool false), .val 19 (some 198) (.bool false), .val 20 (some 199) (.slice aqy C.ev.length cqy), .val 21 (some 200) (.int .i64 C.ev.length), .val 22 (some 201) (.slice ae C.ev.length ce), .val 23 (some 202) (.int .i64 C.ev.length), .alt 24 (some 203) (.bool ((C.ev.length : Int) != (C.ev.length : Int))) (.bool false), .val 25 (some 204) (.bool false), .val 26 (some 205) (.bool false), .val 27 (some 206) (pt B 0), .val 28 (some 207) (.int .i64 acc), .load 30 (some 209) 35 (pt P 0) (stv (C.st) (vs)), .val 31 (some 210) (.slice ap C.po.length cp), .val 32 (some 211) (.int .i64 acc)] ⟨congrArg Value.bool (bne_self_eq_false _), congrArg Value.bool (bne_self_eq_false _), congrArg Value.bool (bne_self_eq_false _), fun W h => ld_st (h.at 5 rfl), trivial⟩ hS ?_
            refine oD 29 3 (cD (some 208) 22 #[pt B 0, .int .i64 acc] ((chnNext_val acc _ (ChV.of (hM.oka 7 rfl)) (fun t ht => (HC.out.tx t ht).2)).mono ?_))
            rintro e Y80 ⟨rfl, hb⟩
            refine And.intro (hS.below hb) ?_
            replace hS := hS.below hb
            replace hM := hM.below hb
            clear hb
            refine oD 33 2 (cD (some 212) 23 #[stv (C.st) (vs), .slice ap C.po.length cp, .int .i64 acc] ((next13_val C.st vs C.po acc (fun t ht => (HC.out.tx t ht).2) (by have := HC.out.po; omega) _ _ ((hM.oka 4 rfl).rsl txc_25) (Nat.le_refl _)).mono ?_))
            rintro e Y81 ⟨rfl, hb⟩
            refine And.intro (hS.below hb) ?_
            replace hS := hS.below hb
            replace hM := hM.below hb
            clear hb
            refine tD 0 [.alt 34 (some 213) (.bool ((nextW C.st C.po acc) != (nextW C.st C.po acc))) (.bool false), .val 35 (some 214) (.bool false)] ⟨congrArg Value.bool (bne_self_eq_false _), trivial⟩ hS ?_
            refine dD ?_
            try simp only [puts, Tk.put, Act.put, List.setIfInBounds_toArray, List.set_cons_zero, List.set_cons_succ]
            clear hS
            go_wp2_with fail
            go_meet
            exact ⟨rfl, hM.pick [1, 2, 3, 4, 5, 6, 7] (by decide) rfl⟩
          case rest =>
            obtain ⟨rfl, hM⟩ := hcut
            go_upto_region 46 with fail
            refine wp_region_fromM (fun W => Sep w [] [.own evc 54 27 (.slice aqy C.ev.length cqy) (C.ev), .own (fun t => txc t) 44 25 (.slice apy C.po.length cpy) (C.po), .own lkc 91 3 (vs) (C.st.lk), .own (fun t => txc t) 44 25 (.slice ap C.po.length cp) (C.po), .own evc 54 27 (.slice ae C.ev.length ce) (C.ev), .blk P 35 (stc C.st vs), .join (CHR B C v pv q bs)] W) hM ?_
            clear hM
            rintro Y82 hM
            refine tF 1 [.val 0 (some 28) (.int .i64 0)] trivial ?_
            refine dF ?_
            try simp only [puts, Tk.put, Act.put, List.setIfInBounds_toArray, List.set_cons_zero, List.set_cons_succ]
            go_wp2_with fail
            go_loopw [28] (fun i wr => ∃ j : Nat, j ≤ C.po.length ∧ i = .int .i64 (j : Nat) ∧ Sep w [] [.own evc 54 27 (.slice aqy C.ev.length cqy) (C.ev), .own (fun t => txc t) 44 25 (.slice apy C.po.length cpy) (C.po), .own lkc 91 3 (vs) (C.st.lk), .own (fun t => txc t) 44 25 (.slice ap C.po.length cp) (C.po), .own evc 54 27 (.slice ae C.ev.length ce) (C.ev), .blk P 35 (stc C.st vs), .join (CHR B C v pv q bs)] wr) (fun i _ => C.po.length - (intOf i).toNat)
            case atStart => exact ⟨0, Nat.zero_le _, rfl, hM⟩
            clear hM
            case round =>
              obtain ⟨j, hj, rfl, hM⟩ := hrel
              by_cases hjl : j < C.po.length
              · obtain ⟨y, hy⟩ : ∃ y, C.po[j]? = some y := ⟨_, List.getElem?_eq_getElem hjl⟩
                have HJ := Lib.hid hjl
                clear hjl
                obtain ⟨bn, on, hin, hcn⟩ := (hM.oka 1 rfl).elem txc_25 hy Tryz.underlying37 (fun W => by kernel_rfl)
                have HIn := Lib.hid hin
                have HCn := Lib.hid hcn
                clear hin hcn
                obtain ⟨bo, oo, hio, hco⟩ := (hM.oka 3 rfl).elem txc_25 hy Tryz.underlying37 (fun W => by kernel_rfl)
                have HIo := Lib.hid hio
                have HCo := Lib.hid hco
                clear hio hco
                clear hy
                go_upto_region 47 with fail
                refine wp_region_fromM (fun W => Sep w [] [.own evc 54 27 (.slice aqy C.ev.length cqy) (C.ev), .own (fun t => txc t) 44 25 (.slice apy C.po.length cpy) (C.po), .own lkc 91 3 (vs) (C.st.lk), .own (fun t => txc t) 44 25 (.slice ap C.po.length cp) (C.po), .own evc 54 27 (.slice ae C.ev.length ce) (C.ev), .blk P 35 (stc C.st vs), .join (CHR B C v pv q bs)] W) hM ?_
                clear hM
                rintro Y83 hM
                refine tF 2 [.val 0 (some 215) (.int .i64 (j : Int)), .val 1 (some 216) (.slice apy C.po.length cpy)] trivial ?_
                refine rF (some 217) (.int .i64 C.po.length) (Y83) ?_
                refine tF 4 [.alt 3 (some 218) (.bool (decide ((j : Int) < (C.po.length : Int)))) (.bool true)] ⟨congrArg Value.bool (decide_eq_true (by have := HJ.out; omega)), trivial⟩ ?_
                refine dF ?_
                try simp only [puts, Tk.put, Act.put, List.setIfInBounds_toArray, List.set_cons_zero, List.set_cons_succ]
                go_upto_region 49 with fail
                refine wp_region_M (fun W => Sep w [] [.own evc 54 27 (.slice aqy C.ev.length cqy) (C.ev), .own (fun t => txc t) 44 25 (.slice apy C.po.length cpy) (C.po), .own lkc 91 3 (vs) (C.st.lk), .own (fun t => txc t) 44 25 (.slice ap C.po.length cp) (C.po), .own evc 54 27 (.slice ae C.ev.length ce) (C.ev), .blk P 35 (stc C.st vs), .join (CHR B C v pv q bs)] W) (fun W => Sep w [] [.own evc 54 27 (.slice aqy C.ev.length cqy) (C.ev), .own (fun t => txc t) 44 25 (.slice apy C.po.length cpy) (C.po), .own lkc 91 3 (vs) (C.st.lk), .own (fun t => txc t) 44 25 (.slice ap C.po.length cp) (C.po), .own evc 54 27 (.slice ae C.ev.length ce) (C.ev), .blk P 35 (stc C.st vs), .join (CHR B C v pv q bs)] W) hmx hM.drew ?_
                clear hM
                rintro Y84 hM
                have hS := hM.sub (.cons_cons _ (.cons_cons _ (.cons_cons _ (.cons_cons _ (.cons_cons _ (.cons_cons _ (.cons_cons _ .slnil)))))))
                refine tD 1 [.val 0 (some 221) (.slice apy C.po.length cpy), .val 1 (some 222) (.int .i64 (j : Int)), .idx 2 (some 223) 37 (.slice apy C.po.length cpy) (.int .i64 (j : Int)) (pt bn on), .load 3 (some 224) 44 (pt bn on) (txv y), .val 4 (some 225) (.slice ap C.po.length cp), .val 5 (some 226) (.int .i64 (j : Int)), .idx 6 (some 227) 37 (.slice ap C.po.length cp) (.int .i64 (j : Int)) (pt bo oo), .load 7 (some 228) 44 (pt bo oo) (txv y)] ⟨fun W h => HIn.out _, fun W h => ld_txS (HCn.out _ (h.oka 1 rfl)), fun W h => HIo.out _, fun W h => ld_txS (HCo.out _ (h.oka 3 rfl)), trivial⟩ hS ?_
                refine oD 8 0 (unD (.tmp 224) (.tmp 228) 44 (some 229) (txc y).toArray (txc y).toArray true ((run_eqT y y _).trans (by rw [eqT_refl])) hS ?_)
                refine dD ?_
                try simp only [puts, Tk.put, Act.put, List.setIfInBounds_toArray, List.set_cons_zero, List.set_cons_succ]
                clear hS
                have hc1 := HC.out.po
                have hc2 := HC.out.ev
                have hj2 := HJ.out
                have hk2 := HQ2.out
                have hwr : IntKind.i64.wrap ((j : Int) + 1) = ((j + 1 : Nat) : Int) := (IntWalk.i64_in _ (by omega)).trans (by omega)
                go_wp2_with fail
                go_roundw
                case rel => exact ⟨j + 1, HJ.out, by go_num, hM⟩
                case measure => have := HJ.out; simp [intOf]; omega
              · obtain rfl : j = C.po.length := by omega
                go_upto_region 47 with fail
                refine wp_region_fromM (fun W => Sep w [] [.own evc 54 27 (.slice aqy C.ev.length cqy) (C.ev), .own (fun t => txc t) 44 25 (.slice apy C.po.length cpy) (C.po), .own lkc 91 3 (vs) (C.st.lk), .own (fun t => txc t) 44 25 (.slice ap C.po.length cp) (C.po), .own evc 54 27 (.slice ae C.ev.length ce) (C.ev), .blk P 35 (stc C.st vs), .join (CHR B C v pv q bs)] W) hM ?_
                clear hM
                rintro Y85 hM
                refine tF 2 [.val 0 (some 215) (.int .i64 C.po.length), .val 1 (some 216) (.slice apy C.po.length cpy)] trivial ?_
                refine rF (some 217) (.int .i64 C.po.length) (Y85) ?_
                refine tF 4 [.alt 3 (some 218) (.bool (decide ((C.po.length : Int) < (C.po.length : Int)))) (.bool false)] ⟨congrArg Value.bool (decide_eq_false (by omega)), trivial⟩ ?_
                refine dF ?_
                try simp only [puts, Tk.put, Act.put, List.setIfInBounds_toArray, List.set_cons_zero, List.set_cons_succ]
                go_upto_region 51 with fail
                refine wp_region_fromM (fun W => Sep w [] [.own evc 54 27 (.slice aqy C.ev.length cqy) (C.ev), .own (fun t => txc t) 44 25 (.slice apy C.po.length cpy) (C.po), .own lkc 91 3 (vs) (C.st.lk), .own (fun t => txc t) 44 25 (.slice ap C.po.length cp) (C.po), .own evc 54 27 (.slice ae C.ev.length ce) (C.ev), .blk P 35 (stc C.st vs), .join (CHR B C v pv q bs)] W) hM ?_
                clear hM
                rintro Y86 hM
                refine tF 1 [.val 0 (some 29) (.int .i64 0)] trivial ?_
                refine dF ?_
                try simp only [puts, Tk.put, Act.put, List.setIfInBounds_toArray, List.set_cons_zero, List.set_cons_succ]
                go_wp2_with fail
                go_loopw [29] (fun i wr => ∃ j : Nat, j ≤ C.ev.length ∧ i = .int .i64 (j : Nat) ∧ Sep w [] [.own evc 54 27 (.slice aqy C.ev.length cqy) (C.ev), .own (fun t => txc t) 44 25 (.slice apy C.po.length cpy) (C.po), .own lkc 91 3 (vs) (C.st.lk), .own (fun t => txc t) 44 25 (.slice ap C.po.length cp) (C.po), .own evc 54 27 (.slice ae C.ev.length ce) (C.ev), .blk P 35 (stc C.st vs), .join (CHR B C v pv q bs)] wr) (fun i _ => C.ev.length - (intOf i).toNat)
                case atStart => exact ⟨0, Nat.zero_le _, rfl, hM⟩
                clear hM
                case round =>
                  obtain ⟨j, hj, rfl, hM⟩ := hrel
                  by_cases hjl : j < C.ev.length
                  · obtain ⟨y, hy⟩ : ∃ y, C.ev[j]? = some y := ⟨_, List.getElem?_eq_getElem hjl⟩
                    have HJ := Lib.hid hjl
                    clear hjl
                    obtain ⟨bn, on, hin, hcn⟩ := (hM.oka 0 rfl).elem evc_len hy Tryz.underlying38 (fun W => by kernel_rfl)
                    have HIn := Lib.hid hin
                    have HCn := Lib.hid hcn
                    clear hin hcn
                    obtain ⟨bo, oo, hio, hco⟩ := (hM.oka 4 rfl).elem evc_len hy Tryz.underlying38 (fun W => by kernel_rfl)
                    have HIo := Lib.hid hio
                    have HCo := Lib.hid hco
                    clear hio hco
                    clear hy
                    go_upto_region 52 with fail
                    refine wp_region_fromM (fun W => Sep w [] [.own evc 54 27 (.slice aqy C.ev.length cqy) (C.ev), .own (fun t => txc t) 44 25 (.slice apy C.po.length cpy) (C.po), .own lkc 91 3 (vs) (C.st.lk), .own (fun t => txc t) 44 25 (.slice ap C.po.length cp) (C.po), .own evc 54 27 (.slice ae C.ev.length ce) (C.ev), .blk P 35 (stc C.st vs), .join (CHR B C v pv q bs)] W) hM ?_
                    clear hM
                    rintro Y87 hM
                    refine tF 2 [.val 0 (some 230) (.int .i64 (j : Int)), .val 1 (some 231) (.slice aqy C.ev.length cqy)] trivial ?_
                    refine rF (some 232) (.int .i64 C.ev.length) (Y87) ?_
                    refine tF 4 [.alt 3 (some 233) (.bool (decide ((j : Int) < (C.ev.length : Int)))) (.bool true)] ⟨congrArg Value.bool (decide_eq_true (by have := HJ.out; omega)), trivial⟩ ?_
                    refine dF ?_
                    try simp only [puts, Tk.put, Act.put, List.setIfInBounds_toArray, List.set_cons_zero, List.set_cons_succ]
                    go_upto_region 54 with fail
                    refine wp_region_M (fun W => Sep w [] [.own evc 54 27 (.slice aqy C.ev.length cqy) (C.ev), .own (fun t => txc t) 44 25 (.slice apy C.po.length cpy) (C.po), .own lkc 91 3 (vs) (C.st.lk), .own (fun t => txc t) 44 25 (.slice ap C.po.length cp) (C.po), .own evc 54 27 (.slice ae C.ev.length ce) (C.ev), .blk P 35 (stc C.st vs), .join (CHR B C v pv q bs)] W) (fun W => Sep w [] [.own evc 54 27 (.slice aqy C.ev.length cqy) (C.ev), .own (fun t => txc t) 44 25 (.slice apy C.po.length cpy) (C.po), .own lkc 91 3 (vs) (C.st.lk), .own (fun t => txc t) 44 25 (.slice ap C.po.length cp) (C.po), .own evc 54 27 (.slice ae C.ev.length ce) (C.ev), .blk P 35 (stc C.st vs), .join (CHR B C v pv q bs)] W) hmx hM.drew ?_
                    clear hM
                    rintro Y88 hM
                    have hS := hM.sub (.cons_cons _ (.cons_cons _ (.cons_cons _ (.cons_cons _ (.cons_cons _ (.cons_cons _ (.cons_cons _ .slnil)))))))
                    refine tD 1 [.val 0 (some 236) (.slice aqy C.ev.length cqy), .val 1 (some 237) (.int .i64 (j : Int)), .idx 2 (some 238) 38 (.slice aqy C.ev.length cqy) (.int .i64 (j : Int)) (pt bn on), .load 3 (some 239) 54 (pt bn on) (.agg (evc y).toArray), .val 4 (some 240) (.slice ae C.ev.length ce), .val 5 (some 241) (.int .i64 (j : Int)), .idx 6 (some 242) 38 (.slice ae C.ev.length ce) (.int .i64 (j : Int)) (pt bo oo), .load 7 (some 243) 54 (pt bo oo) (.agg (evc y).toArray)] ⟨fun W h => HIn.out _, fun W h => ld_elE _ _ Tryz.underlying54 rfl (by kernel_rfl) (HCn.out _ (h.oka 0 rfl)), fun W h => HIo.out _, fun W h => ld_elE _ _ Tryz.underlying54 rfl (by kernel_rfl) (HCo.out _ (h.oka 4 rfl)), trivial⟩ hS ?_
                    refine oD 8 0 (unD (.tmp 239) (.tmp 243) 54 (some 244) (evc y).toArray (evc y).toArray true ((run_eqE y y _).trans (by rw [eqE_refl])) hS ?_)
                    refine dD ?_
                    try simp only [puts, Tk.put, Act.put, List.setIfInBounds_toArray, List.set_cons_zero, List.set_cons_succ]
                    clear hS
                    have hc1 := HC.out.po
                    have hc2 := HC.out.ev
                    have hj2 := HJ.out
                    have hk2 := HQ2.out
                    have hwr : IntKind.i64.wrap ((j : Int) + 1) = ((j + 1 : Nat) : Int) := (IntWalk.i64_in _ (by omega)).trans (by omega)
                    go_wp2_with fail
                    go_roundw
                    case rel => exact ⟨j + 1, HJ.out, by go_num, hM⟩
                    case measure => have := HJ.out; simp [intOf]; omega
                  · obtain rfl : j = C.ev.length := by omega
                    go_upto_region 52 with fail
                    refine wp_region_fromM (fun W => Sep w [] [.own evc 54 27 (.slice aqy C.ev.length cqy) (C.ev), .own (fun t => txc t) 44 25 (.slice apy C.po.length cpy) (C.po), .own lkc 91 3 (vs) (C.st.lk), .own (fun t => txc t) 44 25 (.slice ap C.po.length cp) (C.po), .own evc 54 27 (.slice ae C.ev.length ce) (C.ev), .blk P 35 (stc C.st vs), .join (CHR B C v pv q bs)] W) hM ?_
                    clear hM
                    rintro Y89 hM
                    refine tF 2 [.val 0 (some 230) (.int .i64 C.ev.length), .val 1 (some 231) (.slice aqy C.ev.length cqy)] trivial ?_
                    refine rF (some 232) (.int .i64 C.ev.length) (Y89) ?_
                    refine tF 4 [.alt 3 (some 233) (.bool (decide ((C.ev.length : Int) < (C.ev.length : Int)))) (.bool false)] ⟨congrArg Value.bool (decide_eq_false (by omega)), trivial⟩ ?_
                    refine dF ?_
                    try simp only [puts, Tk.put, Act.put, List.setIfInBounds_toArray, List.set_cons_zero, List.set_cons_succ]
                    have hM5 := Lib.hid (Sep.pick (l' := [.own lkc 91 3 (vs) (C.st.lk), .own (fun t => txc t) 44 25 (.slice ap C.po.length cp) (C.po), .own evc 54 27 (.slice ae C.ev.length ce) (C.ev), .blk P 35 (stc C.st vs), .join (CHR B C v pv q bs)]) hM [2, 3, 4, 5, 6] (by decide) rfl)
                    clear hM
                    have hq3 := HQ.out
                    have hq4 := HQ2.out
                    have hwr : IntKind.i64.wrap ((k : Int) + 1) = ((k + 1 : Nat) : Int) := (IntWalk.i64_in _ (by omega)).trans (by omega)
                    go_wp2_with fail
                    go_roundw
                    case rel => exact ⟨k + 1, C, v, pv, q, bs, vs, HQ.out, HQ2.out, by go_num, HC.out, hM5.out⟩
                    case measure => have := HQ2.out; simp [intOf]; omega
      go_upto_region 8 with fail
      refine wp_region_fromM (fun W => Sep w [] [.own lkc 91 3 (vs) (C.st.lk), .own (fun t => txc t) 44 25 (.slice ap C.po.length cp) (C.po), .own evc 54 27 (.slice ae C.ev.length ce) (C.ev), .blk P 35 (stc C.st vs), .join (CHR B C v pv q bs)] W) hM ?_
      clear hM
      rintro Y90 hM
      refine tF 2 [.val 0 (some 38) (.int .i64 (k : Int)), .val 1 (some 39) (.slice pl l.length cl)] trivial ?_
      refine rF (some 40) (.int .i64 l.length) (Y90) ?_
      refine tF 8 [.alt 3 (some 41) (.bool (decide ((k : Int) < (l.length : Int)))) (.bool true), .val 4 (some 42) (.bool true), .val 5 (some 43) (.int .i64 (k : Int)), .alt 6 (some 44) (.bool (decide ((k : Int) < 40))) (.bool false), .val 7 (some 45) (.bool false)] ⟨congrArg Value.bool (decide_eq_true (by omega)), congrArg Value.bool (decide_eq_false (by omega)), trivial⟩ ?_
      refine dF ?_
      try simp only [puts, Tk.put, Act.put, List.setIfInBounds_toArray, List.set_cons_zero, List.set_cons_succ]
      go_upto_region 56 with fail
      refine wp_region_fromM (fun W => Sep w [] [.own lkc 91 3 (vs) (C.st.lk), .own (fun t => txc t) 44 25 (.slice ap C.po.length cp) (C.po), .own evc 54 27 (.slice ae C.ev.length ce) (C.ev), .blk P 35 (stc C.st vs), .join (CHR B C v pv q bs)] W) hM ?_
      clear hM
      rintro Y91 hM
      refine tF 1 [.val 0 (some 8) (.bool true)] trivial ?_
      refine dF ?_
      try simp only [puts, Tk.put, Act.put, List.setIfInBounds_toArray, List.set_cons_zero, List.set_cons_succ]
      go_wp2_with fail
      go_ret
      exact ⟨rfl, hM.b⟩
    go_upto_region 8 with fail
    refine wp_region_fromM (fun W => Sep w [] [.own lkc 91 3 (vs) (C.st.lk), .own (fun t => txc t) 44 25 (.slice ap C.po.length cp) (C.po), .own evc 54 27 (.slice ae C.ev.length ce) (C.ev), .blk P 35 (stc C.st vs), .join (CHR B C v pv q bs)] W) hM ?_
    clear hM
    rintro Y92 hM
    refine tF 2 [.val 0 (some 38) (.int .i64 (k : Int)), .val 1 (some 39) (.slice pl l.length cl)] trivial ?_
    refine rF (some 40) (.int .i64 l.length) (Y92) ?_
    refine tF 8 [.alt 3 (some 41) (.bool (decide ((k : Int) < (l.length : Int)))) (.bool false), .val 4 (some 42) (.bool false), .skip 5 (some 43), .skip 6 (some 44), .val 7 (some 45) (.bool false)] ⟨congrArg Value.bool (decide_eq_false (by omega)), trivial⟩ ?_
    refine dF ?_
    try simp only [puts, Tk.put, Act.put, List.setIfInBounds_toArray, List.set_cons_zero, List.set_cons_succ]
    go_upto_region 56 with fail
    refine wp_region_fromM (fun W => Sep w [] [.own lkc 91 3 (vs) (C.st.lk), .own (fun t => txc t) 44 25 (.slice ap C.po.length cp) (C.po), .own evc 54 27 (.slice ae C.ev.length ce) (C.ev), .blk P 35 (stc C.st vs), .join (CHR B C v pv q bs)] W) hM ?_
    clear hM
    rintro Y93 hM
    refine tF 1 [.val 0 (some 8) (.bool true)] trivial ?_
    refine dF ?_
    try simp only [puts, Tk.put, Act.put, List.setIfInBounds_toArray, List.set_cons_zero, List.set_cons_succ]
    go_wp2_with fail
    go_ret
    exact ⟨rfl, hM.b⟩
end Go.Proofs.YtfoemkmoambagaaGreat
namespace Go.Proofs.YtfoemkmoambagaaGreat
open Go.ChangeShapes Go.WideShapes Go.ChangeAt Go.RowKit Go.Deep
open Go.ChangeMaps (open_string)
set_option maxRecDepth 100000 in
theorem chainRuns_lifted (os : Os) (started : os.Started) (H : Type) (enc : TypeId × Value → H) :
    ReturnsInHanded {} Tryz.checked os 3 .any (Rows.chainRunsSpec.pre6 enc Tryz.prog Tryz.f3 Rows.chainRunsRow.domain false) (Rows.chainRunsSpec.post enc Tryz.prog Tryz.f3 false true false false) := by
  refine returnsInHanded_of_change_sized (C := Tryz.checked) Tryz.own started (by kernel_rfl) Tryz.func3
    (ChangeSpec.witness6 (enc := enc) (C := Tryz.checked) false ⟨#[], #[.int .i64 0, .int .i64 0, .slice none 0 0, .int .i64 0], []⟩ 8 (by kernel_rfl) (by kernel_rfl) (by kernel_rfl) (by kernel_rfl)) ?_
  intro W base args ds gs before hval0 hW hcnd hsz0 _
  have hval : ∀ (j : Nat) t v, Tryz.f3.params[j]? = some t → args[j]? = some v → Value.okWide Tryz.prog W .any base t v := hval0
  have hW' := hW
  obtain ⟨p, q, hA0, hV, rfl, hfz, hnd⟩ := hW
  have hA : DataW.TrodAll enc Tryz.prog W 0 (fun _ => true) true Tryz.f3.params.toList args.toList ds p := hA0
  have hsz : (DataW.weightsEach Tryz.prog (Tryz.f3.params.toList ++ Rows.chainRunsSpec.plain.varTypes Tryz.prog) (ds ++ gs)).all (· ≤ reachBytes) = true := hsz0
  rw [Tryz.params3] at hA hval hsz
  obtain ⟨v0, v1, v2, v3, d0, d1, d2, d3, p0, p1, p2, p3, rfl, rfl, rfl, h0, h1, h2, h3⟩ := trodAll_four hA
  obtain ⟨rfl, rfl⟩ := trodVars_none hV
  obtain ⟨a2, len2, cap2, rfl⟩ := okWide_slice Tryz.underlying22 (hval 2 22 v2 rfl rfl)
  have k0 := h0
  have k1 := h1
  have k2 := h2
  have k3 := h3
  have lt0 : ∀ x ∈ p0, x.block < W.heap.size := by obtain ⟨m, hm⟩ := k0; exact DataW.trod_lt m _ _ _ hm
  have lt1 : ∀ x ∈ p1, x.block < W.heap.size := by obtain ⟨m, hm⟩ := k1; exact DataW.trod_lt m _ _ _ hm
  have lt2 : ∀ x ∈ p2, x.block < W.heap.size := by obtain ⟨m, hm⟩ := k2; exact DataW.trod_lt m _ _ _ hm
  have lt3 : ∀ x ∈ p3, x.block < W.heap.size := by obtain ⟨m, hm⟩ := k3; exact DataW.trod_lt m _ _ _ hm
  obtain ⟨z0, rfl, _, _, wf0⟩ := open_int Tryz.underlying3 (hval 0 3 v0 rfl rfl) h0
  obtain ⟨zl0, zh0⟩ := wf_i64 wf0
  obtain ⟨z1, rfl, _, _, wf1⟩ := open_int Tryz.underlying3 (hval 1 3 v1 rfl rfl) h1
  obtain ⟨zl1, zh1⟩ := wf_i64 wf1
  obtain ⟨l2, hsl2, hok2⟩ := open_ops h2 (fun n hn => sized_in hsz (j := 2) (t := 22) rfl rfl n hn)
  obtain ⟨z3, rfl, _, _, wf3⟩ := open_int Tryz.underlying3 (hval 3 3 v3 rfl rfl) h3
  obtain ⟨zl3, zh3⟩ := wf_i64 wf3
  clear hA0 hval0
  refine (chainRuns_any z0 z1 l2 z3 _ W hsl2 (Nat.le_refl _) hok2).mono fun e W' ⟨he, bel⟩ => ?_
  subst he
  exact ⟨_, rfl, _, _, _, [], _, [], hW', trodAll_mk1 (shut_bool Tryz.underlying4 _), (trodAll_mk4 (Below.trod Tryz.laidOut (by kernel_rfl) (of_decide_eq_true (by kernel_rfl)) k0 bel lt0) (Below.trod Tryz.laidOut (by kernel_rfl) (of_decide_eq_true (by kernel_rfl)) k1 bel lt1) (Below.trod Tryz.laidOut (by kernel_rfl) (of_decide_eq_true (by kernel_rfl)) k2 bel lt2) (Below.trod Tryz.laidOut (by kernel_rfl) (of_decide_eq_true (by kernel_rfl)) k3 bel lt3)), rfl, bel.frame _, fun h => by cases h⟩
theorem chainRuns_over : Rows.chainRunsRow.holds Tryz.pinned (OpenSpec.ofChange Rows.chainRunsSpec) :=
  OpenClaim.holds_of_wide 3 Tryz.f3 rfl rfl rfl rfl rfl rfl rfl ⟨rfl, rfl, rfl, rfl, rfl⟩ rfl rfl rfl rfl rfl (by kernel_rfl) Tryz.func3 (by kernel_rfl)
    (of_decide_eq_true (by kernel_rfl)) (by unfold Func.isWrapper; first | (rw [if_pos (by decide +kernel)]; kernel_rfl) | (rw [if_neg (by decide +kernel)]; exact ⟨rfl, rfl⟩))
    (fun os started H enc _ => chainRuns_lifted os started H enc)
theorem chainRuns_proved : Rows.ChainRunsSaid := chainRuns_over
end Go.Proofs.YtfoemkmoambagaaGreat
