/-
  A journal: Split; The reference's Sum; The laws of journals: the page's example; lists against each other; the law's own split
-/
import Derived.ScopeJumps
import Derived.WalkMore
import Derived.Test.YtcjodiemgnihoaaK06
namespace Go.Proofs.Ytcjodiemgnihoaa
open Go.RowKit Go.Shelf
attribute [local irreducible] wpFrom wpAnyH StepH
theorem wp_scope_label {P : Program} {a : Act} {w : World} {Q : Exit → Act → World → Prop} {c rest : Code} (l : Nat) (J : Act → World → Prop) (μ : Act → World → Nat) (hf : findLabel c l = some (.seq .skip rest))
    (pass : ∀ a w, J a w → rest.wp P (Exit.jump l (fun a' w' => J a' w' ∧ μ a' w' < μ a w) Q) a w)
    (first : (∀ a w, J a w → rest.wp P (Exit.jump l J Q) a w) → c.wp P (Exit.jump l J Q) a w) : (Code.scope c).wp P Q a w :=
  wp_scope_jumps l J μ hf (first fun a w h => wp_mono (pass a w h) fun e a w q => by cases e <;> first | exact q | exact ⟨q.1, q.2.1⟩) (fun a w h => wp_seq (wp_skip (pass a w h)))
theorem jump_in {P : Program} {K : Act → World → Prop} {Q Q' : Exit → Act → World → Prop} {c : Code} {a : Act} {w : World} (hK : ∀ a w, c.wp P Q a w → K a w) (h : c.wp P Q a w) : Exit.then K Q' .normal a w := hK a w h
def SplR (b : List UInt8) (w : World) (e : Ending) (W' : World) : Prop := ∃ v zs n, e = .returned (.tuple #[v, .int .i64 ((n : Nat) : Int)]) ∧ Spl b (textsZ zs) n ∧ Sep w [] [.own zsc 22 1 v zs, .octs zs] W'
def SpI (b : List UInt8) (rs : List (List UInt8)) (n : Nat) : Prop := Fits rs ∧ n = (framesL rs).length ∧ n ≤ b.length ∧ b.take n = framesL rs
theorem spi_nil (b : List UInt8) : SpI b [] 0 := ⟨fun _ h => (List.not_mem_nil h).elim, rfl, Nat.zero_le _, by rw [List.take_zero]; rfl⟩
theorem spi_more {b : List UInt8} {rs : List (List UInt8)} {n : Nat} (h : SpI b rs n) (hs : decide ((0 : Int) < ((firstN (b.drop n) : Nat) : Int)) = true) : SpI b (rs ++ [recO (b.drop n)]) (n + firstN (b.drop n)) := by
  have h0 : firstN (b.drop n) ≠ 0 := by have := of_decide_eq_true hs; omega
  unfold recO
  rw [if_neg h0]
  exact spl_more h.1 h.2.1 h.2.2.1 h.2.2.2 h0
theorem spi_end {b : List UInt8} {rs : List (List UInt8)} {n : Nat} (h : SpI b rs n) (hs : decide ((0 : Int) < ((firstN (b.drop n) : Nat) : Int)) = false) : Spl b rs n :=
  ⟨h.1, h.2.1, h.2.2.1, h.2.2.2, by have := of_decide_eq_false hs; omega⟩
theorem spi_len {b : List UInt8} {zs : List Zs} {n : Nat} (h : SpI b (textsZ zs) n) : 6 * zs.length ≤ b.length := by
  have h1 := frames_len_ge (textsZ zs)
  have h2 := h.2.1
  have h3 := h.2.2.1
  rw [textsZ_len] at h1
  omega
set_option maxRecDepth 100000 in
set_option maxHeartbeats 4000000 in
theorem split_any (b : List UInt8) {v : Value} (w : World) (hln : b.length ≤ 1048576) (hs : BSl 0 w.heap.size w v b) : Calls Try.prog 9 #[v] w (SplR b w) := by
  have hmx : Try.prog.follows .mixedOrders = true := by kernel_rfl
  obtain ⟨pb, cb, rfl, _⟩ := hs.slice
  have Hb := Lib.hid hs
  clear hs
  have HLN := Lib.hid hln
  clear hln
  have hM := Sep.start w
  go_enter Try.func9, Try.ntmps9
  go_upto_region 0 with fail
  refine wp_region_fromM (fun W => Sep w [] [] W) hM ?_
  clear hM
  rintro Y1 hM
  refine tF 2 [.val 0 (some 2) (.slice none 0 0), .val 1 (some 3) (.int .i64 0)] trivial ?_
  refine dF ?_
  try simp only [puts, Tk.put, Act.put, List.setIfInBounds_toArray, List.set_cons_zero, List.set_cons_succ]
  go_wp2_with fail
  refine wp_scope_label 0 (fun a' w' => ∃ (v : Value) (zs : List Zs) (n : Nat) (u6 u7 u8 u9 u10 u11 u12 u13 u14 u15 u16 u17 u18 u19 u20 u21 u22 u23 u24 u25 : Value), a' = { tmps := #[.slice pb b.length cb, undef, .slice none 0 0, .int .i64 0, v, .int .i64 (n : Int), u6, u7, u8, u9, u10, u11, u12, u13, u14, u15, u16, u17, u18, u19, u20, u21, u22, u23, u24, u25], defers := [] } ∧ SpI b (textsZ zs) n ∧ Sep w [] [.own zsc 22 1 v zs, .octs zs] w') (fun a' _ => b.length - (intOf (a'.tmps.getD 5 undef)).toNat) rfl (fun a W hJ => ?pass) (fun hp => ?first)
  case first =>
    go_wp2_with fail
    go_step3
    exact jump_in (by assumption) (hp _ _ ⟨.slice none 0 0, [], 0, _, _, _, _, _, _, _, _, _, _, _, _, _, _, _, _, _, _, _, _, rfl, spi_nil b, hM.octs0.nil zsc 22 1⟩)
  case pass =>
    clear hM
    obtain ⟨v, zs, n, u6, u7, u8, u9, u10, u11, u12, u13, u14, u15, u16, u17, u18, u19, u20, u21, u22, u23, u24, u25, rfl, hI, hM⟩ := hJ
    have HI := Lib.hid hI
    clear hI
    go_upto_region 3 with fail
    refine wp_region_fromM (fun W => Sep w [] [.own zsc 22 1 (v) (zs), .octs zs] W) hM ?_
    clear hM
    rintro Y2 hM
    refine tF 2 [.val 0 (some 9) (.slice pb b.length cb), .val 1 (some 10) (.int .i64 (n : Int))] trivial ?_
    obtain ⟨a2c, c2c, hrun2, hcb2, _⟩ := cutL Hb.out (i := n) rfl HI.out.2.2.1
    have HR2 := Lib.hid hrun2
    have HC2 := Lib.hid (hcb2 _ _ _ Hb.out)
    clear hrun2 hcb2
    refine tF 3 [.slc 2 (some 11) 22 (.slice pb b.length cb) (some (.int .i64 (n : Int))) none none (.slice a2c (b.drop n).length c2c)] ⟨HR2.out _, trivial⟩ ?_
    refine cF (some 12) 25 #[.slice a2c (b.drop n).length c2c] ((first_any (b.drop n) _ (by rw [List.length_drop]; have h := HLN.out; omega) ((HC2.out.below hM.b (Nat.le_refl _)).mono (Nat.le_refl _) hM.size)).mono ?_)
    rintro e Y5 ⟨v3o, rfl, hR⟩
    replace hM := hM.gain hR
    clear hR
    obtain ⟨a3o, c3o, rfl, _⟩ := (hM.oka 0 rfl).octs.slice
    refine tF 9 [.val 4 (some 8) (.tuple #[.slice a3o (recO (b.drop n)).length c3o, .int .i64 ((firstN (b.drop n) : Nat) : Int)]), .val 5 (some 13) (.slice a3o (recO (b.drop n)).length c3o), .val 6 (some 14) (.int .i64 ((firstN (b.drop n) : Nat) : Int)), .val 7 (some 6) (.slice a3o (recO (b.drop n)).length c3o), .val 8 (some 7) (.int .i64 ((firstN (b.drop n) : Nat) : Int))] trivial ?_
    refine dF ?_
    try simp only [puts, Tk.put, Act.put, List.setIfInBounds_toArray, List.set_cons_zero, List.set_cons_succ]
    go_upto_region 4 with fail
    refine wp_region_fromM (fun W => Sep w [] [.oct (.slice a3o (recO (b.drop n)).length c3o) (recO (b.drop n)), .own zsc 22 1 (v) (zs), .octs zs] W) hM ?_
    clear hM
    rintro Y6 hM
    refine tF 2 [.val 0 (some 15) (.int .i64 ((firstN (b.drop n) : Nat) : Int)), .val 1 (some 16) (.bool (decide (0 < ((firstN (b.drop n) : Nat) : Int))))] trivial ?_
    refine dF ?_
    try simp only [puts, Tk.put, Act.put, List.setIfInBounds_toArray, List.set_cons_zero, List.set_cons_succ]
    cases hb1 : decide (0 < ((firstN (b.drop n) : Nat) : Int)) with
    | false =>
      have Hhb1 := Lib.hid hb1
      clear hb1
      go_upto_region 7 with fail
      refine wp_region_fromM (fun W => Sep w [] [.oct (.slice a3o (recO (b.drop n)).length c3o) (recO (b.drop n)), .own zsc 22 1 (v) (zs), .octs zs] W) hM ?_
      clear hM
      rintro Y7 hM
      refine tF 4 [.val 0 (some 24) (v), .val 1 (some 25) (.int .i64 (n : Int)), .val 2 (some 2) (v), .val 3 (some 3) (.int .i64 (n : Int))] trivial ?_
      refine dF ?_
      try simp only [puts, Tk.put, Act.put, List.setIfInBounds_toArray, List.set_cons_zero, List.set_cons_succ]
      have hQ : Sep w [] [.own zsc 22 1 (v) (zs), .octs zs] Y7 := hM.pick [1, 2] (by decide) rfl
      have hI2 := spi_end HI.out Hhb1.out
      go_wp2_with fail
      try simp only [Exit.jump]
      go_ret2
      exact ⟨v, zs, n, rfl, hI2, hQ⟩
    | true =>
      have Hhb1 := Lib.hid hb1
      clear hb1
      go_upto_region 5 with fail
      refine wp_region_fromM (fun W => Sep w [] [.oct (.slice a3o (recO (b.drop n)).length c3o) (recO (b.drop n)), .own zsc 22 1 (v) (zs), .octs zs] W) hM ?_
      clear hM
      rintro Y8 hM
      refine tF 2 [.val 0 (some 17) (v), .val 1 (some 18) (.slice a3o (recO (b.drop n)).length c3o)] trivial ?_
      refine rF (some 19) (.slice (some ⟨Y8.heap.size, 0, none⟩) 1 1) (Y8.alloc (.cells ([.slice a3o (recO (b.drop n)).length c3o]).toArray 22)) ?_
      replace hM := hM.alloc 22 ([.slice a3o (recO (b.drop n)).length c3o])
      generalize World.alloc _ _ = Y9 at *
      generalize hNe : Y8.heap.size = N9 at *
      clear hNe
      obtain ⟨v10, Y10, hrun, ht⟩ := own_app1 infoZs rfl (by decide) Try.underlying27 zsc_len zsc_one (hM.oka 2 rfl) (⟨a3o, c3o, recO (b.drop n)⟩ : Zs) (hM.at 0 rfl) (by decide) (by have h := spi_len HI.out; have h2 := HLN.out; omega) 27
      replace hM := hM.turn 2 rfl ht rfl
      clear ht
      refine wpFrom_append (d := some 20) (t := 27) (t' := 27) (ty := 27) (v := v) (x := .slice (some ⟨N9, 0, none⟩) 1 1) (by kernel_rfl) hrun ?_
      clear hrun
      refine tF 5 [.val 4 (some 4) (v10)] trivial ?_
      refine dF ?_
      try simp only [puts, Tk.put, Act.put, List.setIfInBounds_toArray, List.set_cons_zero, List.set_cons_succ]
      go_upto_region 6 with fail
      refine wp_region_fromM (fun W => Sep w [] [.blk N9 22 ([.slice a3o (recO (b.drop n)).length c3o]), .oct (.slice a3o (recO (b.drop n)).length c3o) (recO (b.drop n)), .own zsc 22 1 (v10) (zs ++ [(⟨a3o, c3o, recO (b.drop n)⟩ : Zs)]), .octs zs] W) hM ?_
      clear hM
      rintro Y11 hM
      refine tF 4 [.val 0 (some 21) (.int .i64 (n : Int)), .val 1 (some 22) (.int .i64 ((firstN (b.drop n) : Nat) : Int)), .alt 2 (some 23) (.int .i64 (IntKind.i64.wrap ((n : Int) + ((firstN (b.drop n) : Nat) : Int)))) (.int .i64 ((n + firstN (b.drop n) : Nat) : Int)), .val 3 (some 5) (.int .i64 ((n + firstN (b.drop n) : Nat) : Int))] ⟨congrArg (Value.int .i64) (((IntWalk.i64_in _ (by have h1 := HI.out.2.2.1; have h2 := first_le (b.drop n); rw [List.length_drop] at h2; have h3 := HLN.out; omega)).trans (by omega))), trivial⟩ ?_
      refine dF ?_
      try simp only [puts, Tk.put, Act.put, List.setIfInBounds_toArray, List.set_cons_zero, List.set_cons_succ]
      have hQ : Sep w [] [.oct (.slice a3o (recO (b.drop n)).length c3o) (recO (b.drop n)), .octs zs, .own zsc 22 1 (v10) (zs ++ [(⟨a3o, c3o, recO (b.drop n)⟩ : Zs)])] Y11 := hM.pick [1, 3, 2] (by decide) rfl
      have hQ2 : Sep w [] [.own zsc 22 1 (v10) (zs ++ [(⟨a3o, c3o, recO (b.drop n)⟩ : Zs)]), .octs (zs ++ [(⟨a3o, c3o, recO (b.drop n)⟩ : Zs)])] Y11 := (hQ.octs1 (⟨a3o, c3o, recO (b.drop n)⟩ : Zs) rfl rfl).pick [1, 0] (by decide) rfl
      have hI2 := spi_more HI.out Hhb1.out
      have hfl := first_le (b.drop n)
      rw [List.length_drop] at hfl
      go_wp2_with fail
      go_step3
      refine ⟨rfl, ⟨_, zs ++ [(⟨a3o, c3o, recO (b.drop n)⟩ : Zs)], n + firstN (b.drop n), _, _, _, _, _, _, _, _, _, _, _, _, _, _, _, _, _, _, _, _, rfl, ?_, hQ2⟩, ?_⟩
      · rw [textsZ_app]
        exact hI2
      · have h1 := HI.out.2.2.1
        have h2 := of_decide_eq_true Hhb1.out
        simp [intOf]
        omega
end Go.Proofs.Ytcjodiemgnihoaa
namespace Go.Proofs.Ytcjodiemgnihoaa
open Go.RowKit Go.Shelf
theorem sq_lits : uv sq 8 = .agg #[.int .u32 1779033703, .int .u32 3144134277, .int .u32 1013904242, .int .u32 2773480762, .int .u32 1359893119, .int .u32 2600822924, .int .u32 528734635, .int .u32 1541459225] := by
  show Value.agg (us sq 8).toArray = _
  rw [← sq_us]
  rfl
set_option maxRecDepth 100000 in
set_option maxHeartbeats 2000000 in
theorem refSum_any (l : List UInt8) (sv : Value) (w : World) (hreach : l.length ≤ 140737488353000) (hsv : BSl 0 w.heap.size w sv l) :
    Calls Try.prog 14 #[sv] w (ByO (sumL cb sq l) w) := by
  have hsv0 := hsv
  obtain ⟨a, cap, rfl, hcap, hcs⟩ := hsv
  clear hcs
  go_enter Try.func14, Try.ntmps14
  go_wp2_with fail
  refine (table_any _).mono ?_
  rintro e w1 ⟨rfl, hb1⟩
  go_wp2_with fail
  rw [← sq_lits]
  refine (refOver_any l _ sq cb _ hreach ((hsv0.below hb1 (Nat.le_refl _)).mono (Nat.le_refl _) hb1.size)).mono ?_
  rintro e w2 ⟨v, rfl, hown, hb2⟩
  go_wp2_with fail
  go_ret
  exact ⟨_, rfl, own_base4 hown hb1.size, chain hb1 hb2⟩
end Go.Proofs.Ytcjodiemgnihoaa
namespace Go.Proofs.Ytcjodiemgnihoaa
open Go.RowKit Go.Shelf
attribute [local irreducible] wpFrom wpAnyH StepH
theorem refSumW_any (l : List UInt8) (sv : Value) (w : World) (hreach : l.length ≤ 140737488353000) (hsv : BSl 0 w.heap.size w sv l) : Calls Try.prog 14 #[sv] w (ByW (sumL cb sq l) w) :=
  (refSum_any l sv w hreach hsv).mono fun _ _ ⟨v, e, hO, hb⟩ => ⟨v, e, BSl.of_own hO, hb⟩
theorem refIntB_any (l : List UInt8) {q : Nat} (hq : be l = q) (sv : Value) (w : World) (hl : l.length ≤ 7) (hsv : BSl 0 w.heap.size w sv l) : Calls Try.prog 26 #[sv] w fun e W' => e = .returned (.int .i64 (q : Int)) ∧ W' = w := by
  subst hq
  have h := refInt_any l sv w (by omega) hsv
  rw [List.take_of_length_le hl] at h
  exact h
theorem neTxJ {a b : List UInt8} (h : a = b) : (!((txB a).toList == (txB b).toList)) = false := by rw [txEq, decide_eq_true h]; rfl
set_option maxRecDepth 100000 in
set_option maxHeartbeats 4000000 in
theorem lists_any {zs ms : List Zs} {v1 v2 : Value} {lo1 hi1 lo2 hi2 : Nat} (w : World) (h1 : RSl zsc lo1 hi1 w v1 zs) (hh1 : hi1 ≤ w.heap.size) (h2 : RSl zsc lo2 hi2 w v2 ms) (hh2 : hi2 ≤ w.heap.size) (k1 : Holds w.heap.size w zs) (k2 : Holds w.heap.size w ms) (he : textsZ zs = textsZ ms) : Calls Try.prog 11 #[v1, v2] w fun e W' => e = .returned (.bool true) ∧ Below w.heap.size w W' := by
  have hmx : Try.prog.follows .mixedOrders = true := by kernel_rfl
  have HEa := Lib.hid (fun k x (hx : zs[k]? = some x) => h1.elem zsc_len hx Try.underlying27 (fun W => by kernel_rfl))
  obtain ⟨pa, ca, rfl⟩ := h1.slice
  have HLa := Lib.hid h1
  have HHa := Lib.hid hh1
  have HLENa := Lib.hid (show zs.length ≤ 9223372036854775807 from by have h := h1.len; unfold maxLen at h; omega)
  clear h1 hh1 
  have HEb := Lib.hid (fun k x (hx : ms[k]? = some x) => h2.elem zsc_len hx Try.underlying27 (fun W => by kernel_rfl))
  obtain ⟨pb, cb, rfl⟩ := h2.slice
  have HLb := Lib.hid h2
  have HHb := Lib.hid hh2
  have HLENb := Lib.hid (show ms.length ≤ 9223372036854775807 from by have h := h2.len; unfold maxLen at h; omega)
  clear h2 hh2 
  have K1 := Lib.hid k1
  have K2 := Lib.hid k2
  have HEQ := Lib.hid he
  have HLQ := Lib.hid (show zs.length = ms.length from by have h := congrArg List.length he; rwa [textsZ_len, textsZ_len] at h)
  clear k1 k2 he
  have hM := Sep.start w
  go_enter Try.func11, Try.ntmps11
  go_upto_region 0 with fail
  refine wp_region_fromM (fun W => Sep w [] [] W) hM ?_
  clear hM
  rintro Y1 hM
  refine tF 1 [.val 0 (some 4) (.bool false)] trivial ?_
  refine dF ?_
  try simp only [puts, Tk.put, Act.put, List.setIfInBounds_toArray, List.set_cons_zero, List.set_cons_succ]
  go_upto_region 1 with fail
  refine wp_region_fromM (fun W => Sep w [] [] W) hM ?_
  clear hM
  rintro Y2 hM
  refine tF 5 [.val 0 (some 6) (.slice pa zs.length ca), .val 1 (some 7) (.int .i64 (zs.length : Int)), .val 2 (some 8) (.slice pb ms.length cb), .val 3 (some 9) (.int .i64 (ms.length : Int)), .alt 4 (some 10) (.bool ((zs.length : Int) != (ms.length : Int))) (.bool false)] ⟨congrArg Value.bool ((by rw [HLQ.out]; exact bne_self_eq_false _)), trivial⟩ ?_
  refine dF ?_
  try simp only [puts, Tk.put, Act.put, List.setIfInBounds_toArray, List.set_cons_zero, List.set_cons_succ]
  go_upto_region 3 with fail
  refine wp_region_fromM (fun W => Sep w [] [] W) hM ?_
  clear hM
  rintro Y3 hM
  refine tF 1 [.val 0 (some 5) (.int .i64 0)] trivial ?_
  refine dF ?_
  try simp only [puts, Tk.put, Act.put, List.setIfInBounds_toArray, List.set_cons_zero, List.set_cons_succ]
  go_wp2_with fail
  go_loopw [5] (fun u5 wr => ∃ j : Nat, j ≤ zs.length ∧ u5 = .int .i64 (j : Int) ∧ Sep w [] [] wr) (fun u5 _ => zs.length - (intOf u5).toNat)
  case atStart => exact ⟨0, Nat.zero_le _, rfl, hM⟩
  clear hM
  case round =>
    obtain ⟨j, hj, rfl, hM⟩ := hrel
    by_cases hlt : j < zs.length
    case pos =>
      have HJ := Lib.hid hlt
      have hlt' : (j : Int) < (zs.length : Int) := by omega
      have HLT := Lib.hid hlt'
      obtain ⟨z, hx⟩ : ∃ z, zs[j]? = some z := ⟨_, List.getElem?_eq_getElem hlt⟩
      obtain ⟨ba, oa, _, _, hit, hct⟩ := HEa.out j z hx
      have HXa := Lib.hid hx
      have HIa := Lib.hid hit
      have HCa := Lib.hid hct
      clear hx hit hct
      obtain ⟨y, hx⟩ : ∃ y, ms[j]? = some y := ⟨_, List.getElem?_eq_getElem (by have h := HLQ.out; have h2 := HJ.out; omega)⟩
      obtain ⟨bb, ob, _, _, hit, hct⟩ := HEb.out j y hx
      have HXb := Lib.hid hx
      have HIb := Lib.hid hit
      have HCb := Lib.hid hct
      clear hx hit hct
      have HZY := Lib.hid (show z.l = y.l from by have h1 := textsZ_at HXa.out; have h2 := textsZ_at HXb.out; rw [HEQ.out, h2] at h1; exact (Option.some.inj h1).symm)
      clear hlt hlt'
      go_upto_region 4 with fail
      refine wp_region_fromM (fun W => Sep w [] [] W) hM ?_
      clear hM
      rintro Y4 hM
      refine tF 4 [.val 0 (some 11) (.int .i64 (j : Int)), .val 1 (some 12) (.slice pa zs.length ca), .val 2 (some 13) (.int .i64 (zs.length : Int)), .alt 3 (some 14) (.bool (decide ((j : Int) < (zs.length : Int)))) (.bool true)] ⟨congrArg Value.bool (decide_eq_true HLT.out), trivial⟩ ?_
      refine dF ?_
      try simp only [puts, Tk.put, Act.put, List.setIfInBounds_toArray, List.set_cons_zero, List.set_cons_succ]
      go_upto_region 6 with fail
      refine wp_region_M (fun W => Sep w [] [] W) (fun W => Sep w [] [] W) hmx hM.drew ?_
      clear hM
      rintro Y5 hM
      have hS := hM.sub .slnil
      refine tD 3 [.val 0 (some 17) (.slice pa zs.length ca), .val 1 (some 18) (.int .i64 (j : Int)), .idx 2 (some 19) 27 (.slice pa zs.length ca) (.int .i64 (j : Int)) (pt ba oa), .load 3 (some 20) 22 (pt ba oa) (.slice z.a z.l.length z.c), .val 5 (some 22) (.slice pb ms.length cb), .val 6 (some 23) (.int .i64 (j : Int)), .idx 7 (some 24) 27 (.slice pb ms.length cb) (.int .i64 (j : Int)) (pt bb ob), .load 8 (some 25) 22 (pt bb ob) (.slice y.a y.l.length y.c)] ⟨fun W h => HIa.out _, fun W h => ld_cell _ _ Try.underlying22 rfl (HCa.out _ (HLa.out.below h.b HHa.out) 0 _ rfl), fun W h => HIb.out _, fun W h => ld_cell _ _ Try.underlying22 rfl (HCb.out _ (HLb.out.below h.b HHb.out) 0 _ rfl), trivial⟩ hS ?_
      refine oT 4 9 2 ?_ ?_
      · refine cvD (.tmp 20) (some 21) (.slice z.a z.l.length z.c) (.string (txB z.l)) (cvT ((K1.out.get HXa.out).below hM.b (Nat.le_refl _))) hS ?_
        refine oD 9 1 (cvD (.tmp 25) (some 26) (.slice y.a y.l.length y.c) (.string (txB y.l)) (cvT ((K2.out.get HXb.out).below hM.b (Nat.le_refl _))) hS ?_)
        refine tD 0 [.alt 10 (some 27) (.bool (!((txB z.l).toList == (txB y.l).toList))) (.bool false)] ⟨congrArg Value.bool (neTxJ HZY.out), trivial⟩ hS ?_
        refine dD ?_
        try simp only [puts, Tk.put, Act.put, List.setIfInBounds_toArray, List.set_cons_zero, List.set_cons_succ]
        clear hS
        go_upto_region 5 with fail
        refine wp_region_fromM (fun W => Sep w [] [] W) hM ?_
        clear hM
        rintro Y6 hM
        refine tF 3 [.val 0 (some 15) (.int .i64 (j : Int)), .alt 1 (some 16) (.int .i64 (IntKind.i64.wrap ((j : Int) + 1))) (.int .i64 ((j + 1 : Nat) : Int)), .val 2 (some 5) (.int .i64 ((j + 1 : Nat) : Int))] ⟨congrArg (Value.int .i64) ((IntWalk.i64_in _ (by have := HLENa.out; have := HJ.out; omega)).trans (by omega)), trivial⟩ ?_
        refine dF ?_
        try simp only [puts, Tk.put, Act.put, List.setIfInBounds_toArray, List.set_cons_zero, List.set_cons_succ]
        have hM1 := hM.sub (l' := []) (List.nil_sublist _)
        have HM1 := Lib.hid hM1
        clear hM hM1
        go_wp2_with fail
        go_roundw
        case rel => exact ⟨j + 1, HJ.out, rfl, HM1.out⟩
        case measure => have := HJ.out; simp [intOf]; omega
      · refine cvD (.tmp 25) (some 26) (.slice y.a y.l.length y.c) (.string (txB y.l)) (cvT ((K2.out.get HXb.out).below hM.b (Nat.le_refl _))) hS ?_
        refine oD 4 1 (cvD (.tmp 20) (some 21) (.slice z.a z.l.length z.c) (.string (txB z.l)) (cvT ((K1.out.get HXa.out).below hM.b (Nat.le_refl _))) hS ?_)
        refine tD 0 [.alt 10 (some 27) (.bool (!((txB z.l).toList == (txB y.l).toList))) (.bool false)] ⟨congrArg Value.bool (neTxJ HZY.out), trivial⟩ hS ?_
        refine dD ?_
        try simp only [puts, Tk.put, Act.put, List.setIfInBounds_toArray, List.set_cons_zero, List.set_cons_succ]
        clear hS
        go_upto_region 5 with fail
        refine wp_region_fromM (fun W => Sep w [] [] W) hM ?_
        clear hM
        rintro Y7 hM
        refine tF 3 [.val 0 (some 15) (.int .i64 (j : Int)), .alt 1 (some 16) (.int .i64 (IntKind.i64.wrap ((j : Int) + 1))) (.int .i64 ((j + 1 : Nat) : Int)), .val 2 (some 5) (.int .i64 ((j + 1 : Nat) : Int))] ⟨congrArg (Value.int .i64) ((IntWalk.i64_in _ (by have := HLENa.out; have := HJ.out; omega)).trans (by omega)), trivial⟩ ?_
        refine dF ?_
        try simp only [puts, Tk.put, Act.put, List.setIfInBounds_toArray, List.set_cons_zero, List.set_cons_succ]
        have hM1 := hM.sub (l' := []) (List.nil_sublist _)
        have HM1 := Lib.hid hM1
        clear hM hM1
        go_wp2_with fail
        go_roundw
        case rel => exact ⟨j + 1, HJ.out, rfl, HM1.out⟩
        case measure => have := HJ.out; simp [intOf]; omega
    case neg =>
      obtain rfl : j = zs.length := by omega
      go_upto_region 4 with fail
      refine wp_region_fromM (fun W => Sep w [] [] W) hM ?_
      clear hM
      rintro Y8 hM
      refine tF 4 [.val 0 (some 11) (.int .i64 (zs.length : Int)), .val 1 (some 12) (.slice pa zs.length ca), .val 2 (some 13) (.int .i64 (zs.length : Int)), .alt 3 (some 14) (.bool (decide ((zs.length : Int) < (zs.length : Int)))) (.bool false)] ⟨congrArg Value.bool (decide_eq_false (by omega)), trivial⟩ ?_
      refine dF ?_
      try simp only [puts, Tk.put, Act.put, List.setIfInBounds_toArray, List.set_cons_zero, List.set_cons_succ]
      go_upto_region 8 with fail
      refine wp_region_fromM (fun W => Sep w [] [] W) hM ?_
      clear hM
      rintro Y9 hM
      refine tF 1 [.val 0 (some 4) (.bool true)] trivial ?_
      refine dF ?_
      try simp only [puts, Tk.put, Act.put, List.setIfInBounds_toArray, List.set_cons_zero, List.set_cons_succ]
      go_wp2_with fail
      go_ret
      exact ⟨rfl, hM.b⟩
theorem spl_alive {zs : List Zs} {n : Nat} (h : Spl (frmO [97]) (textsZ zs) n) : zs.length = 1 ∧ n = 7 := by
  have e : frmO [97] = framesL [[97]] := by unfold frmO; rw [if_neg (by decide), frames_one]
  rw [e] at h
  obtain ⟨h1, h2⟩ := spl_one h (spl_all (ls := [[97]]) (fun r hr => by rw [List.mem_singleton.1 hr]; decide))
  have h3 := congrArg List.length h1
  rw [textsZ_len] at h3
  refine ⟨h3, ?_⟩
  rw [h2, frames_one, frame_len]
  rfl
set_option maxRecDepth 100000 in
set_option maxHeartbeats 4000000 in
theorem alive16_any (w : World) : Calls Try.prog 7 #[] w fun e W' => e = .returned (.bool true) ∧ Below w.heap.size w W' := by
  have hmx : Try.prog.follows .mixedOrders = true := by kernel_rfl
  have hM := Sep.start w
  go_enter Try.func7, Try.ntmps7
  go_upto_region 0 with fail
  refine wp_region_fromM (fun W => Sep w [] [] W) hM ?_
  clear hM
  rintro Y1 hM
  refine tF 1 [.val 0 (some 0) (.bool false)] trivial ?_
  refine dF ?_
  try simp only [puts, Tk.put, Act.put, List.setIfInBounds_toArray, List.set_cons_zero]
  go_upto_region 1 with fail
  refine wp_region_fromM (fun W => Sep w [] [] W) hM ?_
  clear hM
  rintro Y2 hM
  obtain ⟨Y3, hcv, hb, hL⟩ := cvL Y2 [97]
  refine rF (some 6) (.slice (some ⟨Y2.heap.size, 0, none⟩) ([97] : List UInt8).length ([97] : List UInt8).length) (Y2.alloc (.cells (([97] : List UInt8).map bv).toArray 5)) ?_
  refine cvF (.tmp 6) (some 7) (.slice (some ⟨Y2.heap.size, 0, none⟩) ([97] : List UInt8).length ([97] : List UInt8).length) (.slice (some ⟨Y2.heap.size, 0, none⟩) ([97] : List UInt8).length ([97] : List UInt8).length) hcv ?_
  replace hM := hM.octN hL hb
  clear hcv hb hL
  obtain ⟨aq, cq, hva, _⟩ := (hM.oka 0 rfl).octs.slice
  refine cF (some 8) 8 #[.slice (some ⟨Y2.heap.size, 0, none⟩) ([97] : List UInt8).length ([97] : List UInt8).length] ((frame_any ([97]) _ ((hM.oka 0 rfl).octs)).mono ?_)
  rintro e Y5 ⟨v3o, rfl, hO, hb⟩
  replace hM := hM.octN hO hb
  clear hO hb
  obtain ⟨a3o, c3o, rfl, _⟩ := (hM.oka 0 rfl).octs.slice
  refine tF 8 [.val 3 (some 5) (.tuple #[.slice a3o (frmO ([97])).length c3o, .int .i64 (errJ ([97]))]), .val 4 (some 9) (.slice a3o (frmO ([97])).length c3o), .val 5 (some 10) (.int .i64 (errJ ([97]))), .val 6 (some 1) (.slice a3o (frmO ([97])).length c3o), .val 7 (some 2) (.int .i64 (errJ ([97])))] trivial ?_
  refine dF ?_
  try simp only [puts, Tk.put, Act.put, List.setIfInBounds_toArray, List.set_cons_zero, List.set_cons_succ]
  go_upto_region 2 with fail
  refine wp_region_fromM (fun W => Sep w [] [.oct (.slice a3o (frmO ([97])).length c3o) (frmO ([97])), .oct (.slice (some ⟨Y2.heap.size, 0, none⟩) ([97] : List UInt8).length ([97] : List UInt8).length) ([97])] W) hM ?_
  clear hM
  rintro Y6 hM
  refine tF 1 [.val 0 (some 12) (.slice a3o (frmO ([97])).length c3o)] trivial ?_
  refine cF (some 13) 9 #[.slice a3o (frmO ([97])).length c3o] ((split_any (frmO ([97])) _ (by unfold frmO; rw [if_neg (by decide), frame_len]; decide) ((hM.oka 0 rfl).octs)).mono ?_)
  rintro e Y8 ⟨v6s, zs6, n6, rfl, hs, hR⟩
  have HS6 := Lib.hid hs
  clear hs
  replace hM := (hM.gain (Sep.close (ps := [.own zsc 22 1 (v6s) (zs6), .octs zs6]) (l := []) hR)).part
  clear hR
  replace hM : Sep w [] [.own zsc 22 1 (v6s) (zs6), .octs zs6, .oct (.slice a3o (frmO ([97])).length c3o) (frmO ([97])), .oct (.slice (some ⟨Y2.heap.size, 0, none⟩) ([97] : List UInt8).length ([97] : List UInt8).length) ([97])] Y8 := hM
  refine tF 7 [.val 2 (some 11) (.tuple #[v6s, .int .i64 (n6 : Int)]), .val 3 (some 14) (v6s), .val 4 (some 15) (.int .i64 (n6 : Int)), .val 5 (some 3) (v6s), .val 6 (some 4) (.int .i64 (n6 : Int))] trivial ?_
  refine dF ?_
  try simp only [puts, Tk.put, Act.put, List.setIfInBounds_toArray, List.set_cons_zero, List.set_cons_succ]
  have hsp := spl_alive HS6.out
  have HSP := Lib.hid hsp
  clear hsp
  obtain ⟨pv6s, cv6s, rfl⟩ := (hM.oka 0 rfl).slice zsc_len
  go_upto_region 3 with fail
  refine wp_region_fromM (fun W => Sep w [] [.own zsc 22 1 (.slice pv6s zs6.length cv6s) (zs6), .octs zs6, .oct (.slice a3o (frmO ([97])).length c3o) (frmO ([97])), .oct (.slice (some ⟨Y2.heap.size, 0, none⟩) ([97] : List UInt8).length ([97] : List UInt8).length) ([97])] W) hM ?_
  clear hM
  rintro Y9 hM
  refine tF 17 [.val 0 (some 16) (.int .i64 (errJ ([97]))), .alt 1 (some 17) (.bool ((errJ ([97])) == 0)) (.bool true), .val 2 (some 18) (.bool true), .val 3 (some 19) (.slice a3o (frmO ([97])).length c3o), .val 4 (some 20) (.int .i64 ((frmO ([97])).length : Int)), .alt 5 (some 21) (.bool (((frmO ([97])).length : Int) == 7)) (.bool true), .val 6 (some 22) (.bool true), .val 7 (some 23) (.bool true), .val 8 (some 24) (.slice pv6s zs6.length cv6s), .val 9 (some 25) (.int .i64 (zs6.length : Int)), .alt 10 (some 26) (.bool ((zs6.length : Int) == 1)) (.bool true), .val 11 (some 27) (.bool true), .val 12 (some 28) (.bool true), .val 13 (some 29) (.int .i64 (n6 : Int)), .alt 14 (some 30) (.bool ((n6 : Int) == 7)) (.bool true), .val 15 (some 31) (.bool true), .val 16 (some 0) (.bool true)] ⟨congrArg Value.bool (rfl), congrArg Value.bool ((by unfold frmO; rw [if_neg (by decide), frame_len]; decide)), congrArg Value.bool ((by rw [HSP.out.1]; rfl)), congrArg Value.bool ((by rw [HSP.out.2]; rfl)), trivial⟩ ?_
  refine dF ?_
  try simp only [puts, Tk.put, Act.put, List.setIfInBounds_toArray, List.set_cons_zero, List.set_cons_succ]
  go_wp2_with fail
  go_ret
  exact ⟨rfl, hM.b⟩
def LspR (b : List UInt8) (w0 w : World) (e : Ending) (W' : World) : Prop := ∃ v zs n, e = .returned (.tuple #[v, .int .i64 ((n : Nat) : Int)]) ∧ Spl b (textsZ zs) n ∧ Holds w0.heap.size w0 zs ∧ Sep w [] [.own zsc 22 1 v zs] W'
section
variable {b : List UInt8} {n q : Nat}
theorem cut16 (b : List UInt8) (n a c : Nat) : (b.drop (n + a)).take (n + a + c - (n + a)) = ((b.drop n).drop a).take c := by rw [List.drop_drop, Nat.add_sub_cancel_left]
theorem first16_no (hq : be ((b.drop n).take 2) = q) (h : 1024 < q ∨ b.length - n - 6 < q ∨ hd4 (((b.drop n).drop 6).take q) ≠ ((b.drop n).drop 2).take 4) (h6 : 6 ≤ b.length - n) : firstN (b.drop n) = 0 := by
  subst hq
  unfold firstN
  refine if_neg fun x => ?_
  have h1 := x.2.1
  rw [List.length_drop] at h1
  rcases h with h | h | h
  · omega
  · omega
  · exact h x.2.2.2
theorem first16_yes (hq : be ((b.drop n).take 2) = q) (h1 : q ≤ 1024) (h2 : q ≤ b.length - n - 6) (h3 : hd4 (((b.drop n).drop 6).take q) = ((b.drop n).drop 2).take 4) (h6 : 6 ≤ b.length - n) : firstN (b.drop n) = 6 + q ∧ recO (b.drop n) = ((b.drop n).drop 6).take q := by
  subst hq
  have e : firstN (b.drop n) = 6 + be ((b.drop n).take 2) := by
    unfold firstN
    exact if_pos ⟨by rw [List.length_drop]; omega, by rw [List.length_drop]; omega, h1, h3⟩
  refine ⟨e, ?_⟩
  unfold recO
  rw [e, if_neg (by omega), Nat.add_sub_cancel_left]
theorem spi_stop {rs : List (List UInt8)} (h : SpI b rs n) (h0 : firstN (b.drop n) = 0) : Spl b rs n := ⟨h.1, h.2.1, h.2.2.1, h.2.2.2, h0⟩
end
set_option maxRecDepth 100000 in
set_option maxHeartbeats 4000000 in
theorem split16_any (b : List UInt8) {v : Value} {w0 : World} (w : World) (hln : b.length ≤ 1048576) (h0 : BSl 0 w0.heap.size w0 v b) (hs : BSl 0 w.heap.size w v b) : Calls Try.prog 10 #[v] w (LspR b w0 w) := by
  have hmx : Try.prog.follows .mixedOrders = true := by kernel_rfl
  obtain ⟨pt, ct, rfl, _⟩ := hs.slice
  have Ht := Lib.hid hs
  clear hs
  have H0 := Lib.hid h0
  clear h0
  have HLN := Lib.hid hln
  clear hln
  have hM := Sep.start w
  go_enter Try.func10, Try.ntmps10
  go_upto_region 0 with fail
  refine wp_region_fromM (fun W => Sep w [] [] W) hM ?_
  clear hM
  rintro Y1 hM
  refine tF 2 [.val 0 (some 2) (.slice none 0 0), .val 1 (some 3) (.int .i64 0)] trivial ?_
  refine dF ?_
  try simp only [puts, Tk.put, Act.put, List.setIfInBounds_toArray, List.set_cons_zero, List.set_cons_succ]
  go_upto_region 1 with fail
  refine wp_region_fromM (fun W => Sep w [] [] W) hM ?_
  clear hM
  rintro Y2 hM
  refine tF 1 [.val 0 (some 4) (.slice none 0 0)] trivial ?_
  refine dF ?_
  try simp only [puts, Tk.put, Act.put, List.setIfInBounds_toArray, List.set_cons_zero, List.set_cons_succ]
  go_upto_region 2 with fail
  refine wp_region_fromM (fun W => Sep w [] [] W) hM ?_
  clear hM
  rintro Y3 hM
  refine tF 1 [.val 0 (some 5) (.int .i64 0)] trivial ?_
  refine dF ?_
  try simp only [puts, Tk.put, Act.put, List.setIfInBounds_toArray, List.set_cons_zero, List.set_cons_succ]
  replace hM := hM.nil zsc 22 1
  go_wp2_with fail
  go_loopw [4, 5] (fun u4 u5 wr => ∃ (zs : List Zs) (n : Nat), u5 = .int .i64 (n : Int) ∧ SpI b (textsZ zs) n ∧ Holds w0.heap.size w0 zs ∧ Sep w [] [.own zsc 22 1 u4 zs] wr) (fun u4 u5 _ => b.length - (intOf u5).toNat)
  case atStart => exact ⟨[], 0, rfl, spi_nil b, Holds.nil _ _, hM⟩
  clear hM
  case round =>
    obtain ⟨zs, n, rfl, hI, hh, hM⟩ := hrel
    have HI := Lib.hid hI
    have HH := Lib.hid hh
    clear hI hh
    have HQ0 := Lib.hid (⟨_, rfl⟩ : ∃ q : Nat, be ((b.drop n).take 2) = q)
    obtain ⟨q, hq⟩ := HQ0.out
    have HQ := Lib.hid hq
    have HQL : Hid (q < 65536) := Lib.hid (by have h := be_lt' (l := (b.drop n).take 2) (k := 2) (by rw [List.length_take]; omega); rw [hq] at h; exact h)
    clear hq HQ0
    go_upto_region 3 with fail
    refine wp_region_fromM (fun W => Sep w [] [.own zsc 22 1 (u4) (zs)] W) hM ?_
    clear hM
    rintro Y4 hM
    refine tF 5 [.val 0 (some 7) (.slice pt b.length ct), .val 1 (some 8) (.int .i64 (b.length : Int)), .val 2 (some 9) (.int .i64 (n : Int)), .alt 3 (some 10) (.int .i64 (IntKind.i64.wrap ((b.length : Int) - (n : Int)))) (.int .i64 ((b.length - n : Nat) : Int)), .val 4 (some 11) (.bool (decide (6 ≤ ((b.length - n : Nat) : Int))))] ⟨congrArg (Value.int .i64) (((IntWalk.i64_in _ (by have h1 := HI.out.2.2.1; have h2 := HLN.out; omega)).trans (by have h1 := HI.out.2.2.1; have h2 := HLN.out; omega))), trivial⟩ ?_
    refine dF ?_
    try simp only [puts, Tk.put, Act.put, List.setIfInBounds_toArray, List.set_cons_zero, List.set_cons_succ]
    cases hb1 : decide (6 ≤ ((b.length - n : Nat) : Int)) with
    | false =>
      have Hhb1 := Lib.hid hb1
      clear hb1
      have HZ : Hid (firstN (b.drop n) = 0) := Lib.hid (first_short (by have h := of_decide_eq_false Hhb1.out; rw [List.length_drop]; omega))
      go_upto_region 9 with fail
      refine wp_region_fromM (fun W => Sep w [] [.own zsc 22 1 (u4) (zs)] W) hM ?_
      clear hM
      rintro Y5 hM
      refine tF 4 [.val 0 (some 67) (u4), .val 1 (some 68) (.int .i64 (n : Int)), .val 2 (some 2) (u4), .val 3 (some 3) (.int .i64 (n : Int))] trivial ?_
      refine dF ?_
      try simp only [puts, Tk.put, Act.put, List.setIfInBounds_toArray, List.set_cons_zero, List.set_cons_succ]
      have hQ : Sep w [] [.own zsc 22 1 (u4) (zs)] Y5 := hM.pick [0] (by decide) rfl
      go_wp2_with fail
      go_ret2
      exact ⟨u4, zs, n, rfl, spi_stop HI.out HZ.out, HH.out, hQ⟩
    | true =>
      have Hhb1 := Lib.hid hb1
      clear hb1
      have H6 : Hid (6 ≤ b.length - n) := Lib.hid (by have h := of_decide_eq_true Hhb1.out; omega)
      obtain ⟨a5c, c5c, hrun5, hcb5, _⟩ := cutLH Ht.out (i := n) (j := n + 2) rfl rfl (by omega) (by have h := H6.out; omega)
      have HR5 := Lib.hid hrun5
      have HC5 := Lib.hid (hcb5 _ _ _ Ht.out)
      have HCB5 := Lib.hid hcb5
      clear hrun5 hcb5
      go_upto_region 4 with fail
      refine wp_region_fromM (fun W => Sep w [] [.own zsc 22 1 (u4) (zs)] W) hM ?_
      clear hM
      rintro Y7 hM
      refine tF 5 [.val 0 (some 12) (.slice pt b.length ct), .val 1 (some 13) (.int .i64 (n : Int)), .val 2 (some 14) (.int .i64 (n : Int)), .alt 3 (some 15) (.int .i64 (IntKind.i64.wrap ((n : Int) + 2))) (.int .i64 ((n + 2 : Nat) : Int)), .slc 4 (some 16) 22 (.slice pt b.length ct) (some (.int .i64 (n : Int))) (some (.int .i64 ((n + 2 : Nat) : Int))) none (.slice a5c ((b.drop n).take (n + 2 - n)).length c5c)] ⟨congrArg (Value.int .i64) (((IntWalk.i64_in _ (by have h1 := HI.out.2.2.1; have h2 := HLN.out; omega)).trans (by have h1 := HI.out.2.2.1; have h2 := HLN.out; omega))), HR5.out _, trivial⟩ ?_
      refine cF (some 17) 26 #[.slice a5c ((b.drop n).take (n + 2 - n)).length c5c] ((refIntB_any ((b.drop n).take (n + 2 - n)) (q := q) (by rw [Nat.add_sub_cancel_left]; exact HQ.out) _ _ (by rw [List.length_take]; omega) ((HC5.out.below hM.b (Nat.le_refl _)).mono (Nat.le_refl _) hM.size)).mono ?_)
      rintro e Y8 ⟨rfl, rfl⟩
      refine tF 7 [.val 6 (some 6) (.int .i64 (q : Int))] trivial ?_
      refine dF ?_
      try simp only [puts, Tk.put, Act.put, List.setIfInBounds_toArray, List.set_cons_zero, List.set_cons_succ]
      go_upto_region 5 with fail
      refine wp_region_M (fun W => Sep w [] [.own zsc 22 1 (u4) (zs)] W) (fun W => Sep w [] [.own zsc 22 1 (u4) (zs)] W) hmx hM.drew ?_
      clear hM
      rintro Y9 hM
      have hS := hM.sub (.cons_cons _ .slnil)
      refine tD 29 [.val 0 (some 18) (.int .i64 (q : Int)), .val 1 (some 19) (.bool (decide (1024 < (q : Int)))), .val 2 (some 20) (.bool (decide (1024 < (q : Int))))] trivial hS ?_
      cases hb2 : decide (1024 < (q : Int)) with
      | false =>
        have Hhb2 := Lib.hid hb2
        clear hb2
        have H10 : Hid (q ≤ 1024) := Lib.hid (by have h := of_decide_eq_false Hhb2.out; omega)
        refine tD 20 [.val 3 (some 21) (.int .i64 (q : Int)), .val 4 (some 22) (.slice pt b.length ct), .val 5 (some 23) (.int .i64 (b.length : Int)), .val 6 (some 24) (.int .i64 (n : Int)), .alt 7 (some 25) (.int .i64 (IntKind.i64.wrap ((b.length : Int) - (n : Int)))) (.int .i64 ((b.length - n : Nat) : Int)), .alt 8 (some 26) (.int .i64 (IntKind.i64.wrap (((b.length - n : Nat) : Int) - 6))) (.int .i64 ((b.length - n - 6 : Nat) : Int)), .val 9 (some 27) (.bool (decide (((b.length - n - 6 : Nat) : Int) < (q : Int)))), .val 10 (some 28) (.bool (decide (((b.length - n - 6 : Nat) : Int) < (q : Int)))), .val 11 (some 29) (.bool (decide (((b.length - n - 6 : Nat) : Int) < (q : Int))))] ⟨congrArg (Value.int .i64) (((IntWalk.i64_in _ (by have h1 := HI.out.2.2.1; have h2 := HLN.out; omega)).trans (by have h1 := HI.out.2.2.1; have h2 := HLN.out; omega))), congrArg (Value.int .i64) (((IntWalk.i64_in _ (by have h1 := HI.out.2.2.1; have h2 := HLN.out; have h3 := H6.out; omega)).trans (by have h1 := HI.out.2.2.1; have h2 := HLN.out; have h3 := H6.out; omega))), trivial⟩ hS ?_
        cases hb3 : decide (((b.length - n - 6 : Nat) : Int) < (q : Int)) with
        | false =>
          have Hhb3 := Lib.hid hb3
          clear hb3
          have HFT : Hid (q ≤ b.length - n - 6) := Lib.hid (by have h := of_decide_eq_false Hhb3.out; omega)
          obtain ⟨a9c, c9c, hrun9, hcb9, _⟩ := cutLH Ht.out (i := n + 6) (j := n + 6 + q) rfl rfl (by omega) (by have h1 := HFT.out; have h2 := H6.out; omega)
          have HR9 := Lib.hid hrun9
          have HC9 := Lib.hid (hcb9 _ _ _ Ht.out)
          have HCB9 := Lib.hid hcb9
          clear hrun9 hcb9
          obtain ⟨a10c, c10c, hrun10, hcb10, _⟩ := cutLH Ht.out (i := n + 2) (j := n + 6) rfl rfl (by omega) (by have h1 := HFT.out; have h2 := H6.out; omega)
          have HR10 := Lib.hid hrun10
          have HC10 := Lib.hid (hcb10 _ _ _ Ht.out)
          have HCB10 := Lib.hid hcb10
          clear hrun10 hcb10
          refine tD 6 [.val 12 (some 30) (.slice pt b.length ct), .val 13 (some 31) (.int .i64 (n : Int)), .alt 14 (some 32) (.int .i64 (IntKind.i64.wrap ((n : Int) + 6))) (.int .i64 ((n + 6 : Nat) : Int)), .val 15 (some 33) (.int .i64 (n : Int)), .alt 16 (some 34) (.int .i64 (IntKind.i64.wrap ((n : Int) + 6))) (.int .i64 ((n + 6 : Nat) : Int)), .val 17 (some 35) (.int .i64 (q : Int)), .alt 18 (some 36) (.int .i64 (IntKind.i64.wrap (((n + 6 : Nat) : Int) + (q : Int)))) (.int .i64 ((n + 6 + q : Nat) : Int)), .slc 19 (some 37) 22 (.slice pt b.length ct) (some (.int .i64 ((n + 6 : Nat) : Int))) (some (.int .i64 ((n + 6 + q : Nat) : Int))) none (.slice a9c ((b.drop (n + 6)).take (n + 6 + q - (n + 6))).length c9c), .val 23 (some 41) (.slice pt b.length ct), .val 24 (some 42) (.int .i64 (n : Int)), .alt 25 (some 43) (.int .i64 (IntKind.i64.wrap ((n : Int) + 2))) (.int .i64 ((n + 2 : Nat) : Int)), .val 26 (some 44) (.int .i64 (n : Int)), .alt 27 (some 45) (.int .i64 (IntKind.i64.wrap ((n : Int) + 6))) (.int .i64 ((n + 6 : Nat) : Int)), .slc 28 (some 46) 22 (.slice pt b.length ct) (some (.int .i64 ((n + 2 : Nat) : Int))) (some (.int .i64 ((n + 6 : Nat) : Int))) none (.slice a10c ((b.drop (n + 2)).take (n + 6 - (n + 2))).length c10c)] ⟨congrArg (Value.int .i64) (((IntWalk.i64_in _ (by have h1 := HI.out.2.2.1; have h2 := HLN.out; omega)).trans (by have h1 := HI.out.2.2.1; have h2 := HLN.out; omega))), congrArg (Value.int .i64) (((IntWalk.i64_in _ (by have h1 := HI.out.2.2.1; have h2 := HLN.out; omega)).trans (by have h1 := HI.out.2.2.1; have h2 := HLN.out; omega))), congrArg (Value.int .i64) (((IntWalk.i64_in _ (by have h1 := HI.out.2.2.1; have h2 := HLN.out; have h3 := HQL.out; omega)).trans (by have h1 := HI.out.2.2.1; have h2 := HLN.out; have h3 := HQL.out; omega))), fun W h => HR9.out _, congrArg (Value.int .i64) (((IntWalk.i64_in _ (by have h1 := HI.out.2.2.1; have h2 := HLN.out; omega)).trans (by have h1 := HI.out.2.2.1; have h2 := HLN.out; omega))), congrArg (Value.int .i64) (((IntWalk.i64_in _ (by have h1 := HI.out.2.2.1; have h2 := HLN.out; omega)).trans (by have h1 := HI.out.2.2.1; have h2 := HLN.out; omega))), fun W h => HR10.out _, trivial⟩ hS ?_
          refine oT 20 29 5 ?_ ?_
          · refine cD (some 38) 14 #[.slice a9c ((b.drop (n + 6)).take (n + 6 + q - (n + 6))).length c9c] ((refSumW_any ((b.drop (n + 6)).take (n + 6 + q - (n + 6))) _ _ (by rw [List.length_take, List.length_drop]; have h := HLN.out; omega) ((HC9.out.below hM.b (Nat.le_refl _)).mono (Nat.le_refl _) hM.size)).mono ?_)
            rintro e Y12 ⟨v12o, rfl, hO, hb⟩
            refine And.intro (hS.below hb) ?_
            replace hS := hS.below hb
            replace hM := hM.octN hO hb
            clear hO hb
            obtain ⟨a12o, c12o, rfl, _⟩ := (hM.oka 0 rfl).octs.slice
            obtain ⟨a13c, c13c, hrun13, hcb13, _⟩ := cutH (hM.oka 0 rfl).octs (j := 4) rfl (by rw [sumL_len]; decide)
            have HR13 := Lib.hid hrun13
            have HC13 := Lib.hid hcb13
            clear hrun13 hcb13
            refine tD 4 [.slc 21 (some 39) 22 (.slice a12o (sumL cb sq ((b.drop (n + 6)).take (n + 6 + q - (n + 6)))).length c12o) none (some (.int .i64 4)) none (.slice a13c (hd4 ((b.drop (n + 6)).take (n + 6 + q - (n + 6)))).length c13c)] ⟨fun W h => HR13.out _, trivial⟩ hS ?_
            refine oT 22 29 3 ?_ ?_
            · refine cvD (.tmp 39) (some 40) (.slice a13c (hd4 ((b.drop (n + 6)).take (n + 6 + q - (n + 6)))).length c13c) (.string (txB (hd4 ((b.drop (n + 6)).take (n + 6 + q - (n + 6)))))) (cvT (HC13.out _ _ _ (hM.oka 0 rfl).octs)) hS ?_
              refine oD 29 2 (cvD (.tmp 46) (some 47) (.slice a10c ((b.drop (n + 2)).take (n + 6 - (n + 2))).length c10c) (.string (txB ((b.drop (n + 2)).take (n + 6 - (n + 2))))) (cvT ((HC10.out.below hM.b (Nat.le_refl _)).mono (Nat.le_refl _) hM.size)) hS ?_)
              refine tD 0 [.alt 30 (some 48) (.bool (!((txB (hd4 ((b.drop (n + 6)).take (n + 6 + q - (n + 6))))).toList == (txB ((b.drop (n + 2)).take (n + 6 - (n + 2)))).toList))) (.bool (!decide ((hd4 ((b.drop (n + 6)).take (n + 6 + q - (n + 6)))) = ((b.drop (n + 2)).take (n + 6 - (n + 2)))))), .val 31 (some 49) (.bool (!decide ((hd4 ((b.drop (n + 6)).take (n + 6 + q - (n + 6)))) = ((b.drop (n + 2)).take (n + 6 - (n + 2))))))] ⟨congrArg Value.bool ((by rw [txEq])), trivial⟩ hS ?_
              refine dD ?_
              try simp only [puts, Tk.put, Act.put, List.setIfInBounds_toArray, List.set_cons_zero, List.set_cons_succ]
              clear hS
              cases hb4 : !decide ((hd4 ((b.drop (n + 6)).take (n + 6 + q - (n + 6)))) = ((b.drop (n + 2)).take (n + 6 - (n + 2)))) with
              | false =>
                have Hhb4 := Lib.hid hb4
                clear hb4
                have HY := Lib.hid (first16_yes HQ.out H10.out HFT.out (by have e2 := cut16 b n 2 4; have e6 := cut16 b n 6 q; rw [show n + 2 + 4 = n + 6 by omega] at e2; rw [← e2, ← e6]; have h := Hhb4.out; simpa using h) H6.out)
                go_upto_region 7 with fail
                refine wp_region_fromM (fun W => Sep w [] [.oct (.slice a12o (sumL cb sq ((b.drop (n + 6)).take (n + 6 + q - (n + 6)))).length c12o) (sumL cb sq ((b.drop (n + 6)).take (n + 6 + q - (n + 6)))), .own zsc 22 1 (u4) (zs)] W) hM ?_
                clear hM
                rintro Y15 hM
                refine tF 9 [.val 0 (some 52) (u4), .val 1 (some 53) (.slice pt b.length ct), .val 2 (some 54) (.int .i64 (n : Int)), .alt 3 (some 55) (.int .i64 (IntKind.i64.wrap ((n : Int) + 6))) (.int .i64 ((n + 6 : Nat) : Int)), .val 4 (some 56) (.int .i64 (n : Int)), .alt 5 (some 57) (.int .i64 (IntKind.i64.wrap ((n : Int) + 6))) (.int .i64 ((n + 6 : Nat) : Int)), .val 6 (some 58) (.int .i64 (q : Int)), .alt 7 (some 59) (.int .i64 (IntKind.i64.wrap (((n + 6 : Nat) : Int) + (q : Int)))) (.int .i64 ((n + 6 + q : Nat) : Int)), .slc 8 (some 60) 22 (.slice pt b.length ct) (some (.int .i64 ((n + 6 : Nat) : Int))) (some (.int .i64 ((n + 6 + q : Nat) : Int))) none (.slice a9c ((b.drop (n + 6)).take (n + 6 + q - (n + 6))).length c9c)] ⟨congrArg (Value.int .i64) (((IntWalk.i64_in _ (by have h1 := HI.out.2.2.1; have h2 := HLN.out; omega)).trans (by have h1 := HI.out.2.2.1; have h2 := HLN.out; omega))), congrArg (Value.int .i64) (((IntWalk.i64_in _ (by have h1 := HI.out.2.2.1; have h2 := HLN.out; omega)).trans (by have h1 := HI.out.2.2.1; have h2 := HLN.out; omega))), congrArg (Value.int .i64) (((IntWalk.i64_in _ (by have h1 := HI.out.2.2.1; have h2 := HLN.out; have h3 := HQL.out; omega)).trans (by have h1 := HI.out.2.2.1; have h2 := HLN.out; have h3 := HQL.out; omega))), HR9.out _, trivial⟩ ?_
                refine rF (some 61) (.slice (some ⟨Y15.heap.size, 0, none⟩) 1 1) (Y15.alloc (.cells ([.slice a9c ((b.drop (n + 6)).take (n + 6 + q - (n + 6))).length c9c]).toArray 22)) ?_
                replace hM := hM.alloc 22 ([.slice a9c ((b.drop (n + 6)).take (n + 6 + q - (n + 6))).length c9c])
                generalize World.alloc _ _ = Y16 at *
                generalize hNe : Y15.heap.size = N16 at *
                clear hNe
                obtain ⟨v17, Y17, hrun, ht⟩ := own_app1 infoZs rfl (by decide) Try.underlying27 zsc_len zsc_one (hM.oka 2 rfl) (⟨a9c, c9c, (b.drop (n + 6)).take (n + 6 + q - (n + 6))⟩ : Zs) (hM.at 0 rfl) (by decide) (by have h := spi_len HI.out; have h2 := HLN.out; omega) 27
                replace hM := hM.turn 2 rfl ht rfl
                clear ht
                refine wpFrom_append (d := some 62) (t := 27) (t' := 27) (ty := 27) (v := u4) (x := .slice (some ⟨N16, 0, none⟩) 1 1) (by kernel_rfl) hrun ?_
                clear hrun
                refine tF 12 [.val 11 (some 4) (v17)] trivial ?_
                refine dF ?_
                try simp only [puts, Tk.put, Act.put, List.setIfInBounds_toArray, List.set_cons_zero, List.set_cons_succ]
                go_upto_region 8 with fail
                refine wp_region_fromM (fun W => Sep w [] [.blk N16 22 ([.slice a9c ((b.drop (n + 6)).take (n + 6 + q - (n + 6))).length c9c]), .oct (.slice a12o (sumL cb sq ((b.drop (n + 6)).take (n + 6 + q - (n + 6)))).length c12o) (sumL cb sq ((b.drop (n + 6)).take (n + 6 + q - (n + 6)))), .own zsc 22 1 (v17) (zs ++ [(⟨a9c, c9c, (b.drop (n + 6)).take (n + 6 + q - (n + 6))⟩ : Zs)])] W) hM ?_
                clear hM
                rintro Y18 hM
                refine tF 5 [.val 0 (some 63) (.int .i64 (n : Int)), .alt 1 (some 64) (.int .i64 (IntKind.i64.wrap ((n : Int) + 6))) (.int .i64 ((n + 6 : Nat) : Int)), .val 2 (some 65) (.int .i64 (q : Int)), .alt 3 (some 66) (.int .i64 (IntKind.i64.wrap (((n + 6 : Nat) : Int) + (q : Int)))) (.int .i64 ((n + 6 + q : Nat) : Int)), .val 4 (some 5) (.int .i64 ((n + 6 + q : Nat) : Int))] ⟨congrArg (Value.int .i64) (((IntWalk.i64_in _ (by have h1 := HI.out.2.2.1; have h2 := HLN.out; omega)).trans (by have h1 := HI.out.2.2.1; have h2 := HLN.out; omega))), congrArg (Value.int .i64) (((IntWalk.i64_in _ (by have h1 := HI.out.2.2.1; have h2 := HLN.out; have h3 := HQL.out; omega)).trans (by have h1 := HI.out.2.2.1; have h2 := HLN.out; have h3 := HQL.out; omega))), trivial⟩ ?_
                refine dF ?_
                try simp only [puts, Tk.put, Act.put, List.setIfInBounds_toArray, List.set_cons_zero, List.set_cons_succ]
                have hQ : Sep w [] [.own zsc 22 1 (v17) (zs ++ [(⟨a9c, c9c, (b.drop (n + 6)).take (n + 6 + q - (n + 6))⟩ : Zs)])] Y18 := hM.pick [2] (by decide) rfl
                have hI2 : SpI b (textsZ (zs ++ [(⟨a9c, c9c, (b.drop (n + 6)).take (n + 6 + q - (n + 6))⟩ : Zs)])) (n + 6 + q) := by
                  have h := spi_more HI.out (decide_eq_true (by rw [HY.out.1]; omega))
                  rw [HY.out.1, HY.out.2, ← cut16 b n 6 q, ← Nat.add_assoc] at h
                  rw [textsZ_app]
                  exact h
                have hh2 : Holds w0.heap.size w0 (zs ++ [(⟨a9c, c9c, (b.drop (n + 6)).take (n + 6 + q - (n + 6))⟩ : Zs)]) := HH.out.app (Holds.one (HCB9.out _ _ _ H0.out))
                have HQ9 := Lib.hid hQ
                have HI2 := Lib.hid hI2
                have HH2 := Lib.hid hh2
                clear hM hQ hI2 hh2
                go_wp2_with fail
                go_roundw
                case rel => exact ⟨zs ++ [(⟨a9c, c9c, (b.drop (n + 6)).take (n + 6 + q - (n + 6))⟩ : Zs)], n + 6 + q, rfl, HI2.out, HH2.out, HQ9.out⟩
                case measure => have h1 := HI.out.2.2.1; have h2 := H6.out; simp [intOf]; omega
              | true =>
                have Hhb4 := Lib.hid hb4
                clear hb4
                have HZ : Hid (firstN (b.drop n) = 0) := Lib.hid (first16_no HQ.out (.inr (.inr (by have e2 := cut16 b n 2 4; have e6 := cut16 b n 6 q; rw [show n + 2 + 4 = n + 6 by omega] at e2; rw [← e2, ← e6]; have h := Hhb4.out; simpa using h))) H6.out)
                go_upto_region 6 with fail
                refine wp_region_fromM (fun W => Sep w [] [.oct (.slice a12o (sumL cb sq ((b.drop (n + 6)).take (n + 6 + q - (n + 6)))).length c12o) (sumL cb sq ((b.drop (n + 6)).take (n + 6 + q - (n + 6)))), .own zsc 22 1 (u4) (zs)] W) hM ?_
                clear hM
                rintro Y19 hM
                refine tF 4 [.val 0 (some 50) (u4), .val 1 (some 51) (.int .i64 (n : Int)), .val 2 (some 2) (u4), .val 3 (some 3) (.int .i64 (n : Int))] trivial ?_
                refine dF ?_
                try simp only [puts, Tk.put, Act.put, List.setIfInBounds_toArray, List.set_cons_zero, List.set_cons_succ]
                have hQ : Sep w [] [.own zsc 22 1 (u4) (zs)] Y19 := hM.pick [1] (by decide) rfl
                go_wp2_with fail
                go_ret2
                exact ⟨u4, zs, n, rfl, spi_stop HI.out HZ.out, HH.out, hQ⟩
            · refine cvD (.tmp 46) (some 47) (.slice a10c ((b.drop (n + 2)).take (n + 6 - (n + 2))).length c10c) (.string (txB ((b.drop (n + 2)).take (n + 6 - (n + 2))))) (cvT ((HC10.out.below hM.b (Nat.le_refl _)).mono (Nat.le_refl _) hM.size)) hS ?_
              refine oD 22 2 (cvD (.tmp 39) (some 40) (.slice a13c (hd4 ((b.drop (n + 6)).take (n + 6 + q - (n + 6)))).length c13c) (.string (txB (hd4 ((b.drop (n + 6)).take (n + 6 + q - (n + 6)))))) (cvT (HC13.out _ _ _ (hM.oka 0 rfl).octs)) hS ?_)
              refine tD 0 [.alt 30 (some 48) (.bool (!((txB (hd4 ((b.drop (n + 6)).take (n + 6 + q - (n + 6))))).toList == (txB ((b.drop (n + 2)).take (n + 6 - (n + 2)))).toList))) (.bool (!decide ((hd4 ((b.drop (n + 6)).take (n + 6 + q - (n + 6)))) = ((b.drop (n + 2)).take (n + 6 - (n + 2)))))), .val 31 (some 49) (.bool (!decide ((hd4 ((b.drop (n + 6)).take (n + 6 + q - (n + 6)))) = ((b.drop (n + 2)).take (n + 6 - (n + 2))))))] ⟨congrArg Value.bool ((by rw [txEq])), trivial⟩ hS ?_
              refine dD ?_
              try simp only [puts, Tk.put, Act.put, List.setIfInBounds_toArray, List.set_cons_zero, List.set_cons_succ]
              clear hS
              cases hb5 : !decide ((hd4 ((b.drop (n + 6)).take (n + 6 + q - (n + 6)))) = ((b.drop (n + 2)).take (n + 6 - (n + 2)))) with
              | false =>
                have Hhb5 := Lib.hid hb5
                clear hb5
                have HY := Lib.hid (first16_yes HQ.out H10.out HFT.out (by have e2 := cut16 b n 2 4; have e6 := cut16 b n 6 q; rw [show n + 2 + 4 = n + 6 by omega] at e2; rw [← e2, ← e6]; have h := Hhb5.out; simpa using h) H6.out)
                go_upto_region 7 with fail
                refine wp_region_fromM (fun W => Sep w [] [.oct (.slice a12o (sumL cb sq ((b.drop (n + 6)).take (n + 6 + q - (n + 6)))).length c12o) (sumL cb sq ((b.drop (n + 6)).take (n + 6 + q - (n + 6)))), .own zsc 22 1 (u4) (zs)] W) hM ?_
                clear hM
                rintro Y20 hM
                refine tF 9 [.val 0 (some 52) (u4), .val 1 (some 53) (.slice pt b.length ct), .val 2 (some 54) (.int .i64 (n : Int)), .alt 3 (some 55) (.int .i64 (IntKind.i64.wrap ((n : Int) + 6))) (.int .i64 ((n + 6 : Nat) : Int)), .val 4 (some 56) (.int .i64 (n : Int)), .alt 5 (some 57) (.int .i64 (IntKind.i64.wrap ((n : Int) + 6))) (.int .i64 ((n + 6 : Nat) : Int)), .val 6 (some 58) (.int .i64 (q : Int)), .alt 7 (some 59) (.int .i64 (IntKind.i64.wrap (((n + 6 : Nat) : Int) + (q : Int)))) (.int .i64 ((n + 6 + q : Nat) : Int)), .slc 8 (some 60) 22 (.slice pt b.length ct) (some (.int .i64 ((n + 6 : Nat) : Int))) (some (.int .i64 ((n + 6 + q : Nat) : Int))) none (.slice a9c ((b.drop (n + 6)).take (n + 6 + q - (n + 6))).length c9c)] ⟨congrArg (Value.int .i64) (((IntWalk.i64_in _ (by have h1 := HI.out.2.2.1; have h2 := HLN.out; omega)).trans (by have h1 := HI.out.2.2.1; have h2 := HLN.out; omega))), congrArg (Value.int .i64) (((IntWalk.i64_in _ (by have h1 := HI.out.2.2.1; have h2 := HLN.out; omega)).trans (by have h1 := HI.out.2.2.1; have h2 := HLN.out; omega))), congrArg (Value.int .i64) (((IntWalk.i64_in _ (by have h1 := HI.out.2.2.1; have h2 := HLN.out; have h3 := HQL.out; omega)).trans (by have h1 := HI.out.2.2.1; have h2 := HLN.out; have h3 := HQL.out; omega))), HR9.out _, trivial⟩ ?_
                refine rF (some 61) (.slice (some ⟨Y20.heap.size, 0, none⟩) 1 1) (Y20.alloc (.cells ([.slice a9c ((b.drop (n + 6)).take (n + 6 + q - (n + 6))).length c9c]).toArray 22)) ?_
                replace hM := hM.alloc 22 ([.slice a9c ((b.drop (n + 6)).take (n + 6 + q - (n + 6))).length c9c])
                generalize World.alloc _ _ = Y21 at *
                generalize hNe : Y20.heap.size = N21 at *
                clear hNe
                obtain ⟨v22, Y22, hrun, ht⟩ := own_app1 infoZs rfl (by decide) Try.underlying27 zsc_len zsc_one (hM.oka 2 rfl) (⟨a9c, c9c, (b.drop (n + 6)).take (n + 6 + q - (n + 6))⟩ : Zs) (hM.at 0 rfl) (by decide) (by have h := spi_len HI.out; have h2 := HLN.out; omega) 27
                replace hM := hM.turn 2 rfl ht rfl
                clear ht
                refine wpFrom_append (d := some 62) (t := 27) (t' := 27) (ty := 27) (v := u4) (x := .slice (some ⟨N21, 0, none⟩) 1 1) (by kernel_rfl) hrun ?_
                clear hrun
                refine tF 12 [.val 11 (some 4) (v22)] trivial ?_
                refine dF ?_
                try simp only [puts, Tk.put, Act.put, List.setIfInBounds_toArray, List.set_cons_zero, List.set_cons_succ]
                go_upto_region 8 with fail
                refine wp_region_fromM (fun W => Sep w [] [.blk N21 22 ([.slice a9c ((b.drop (n + 6)).take (n + 6 + q - (n + 6))).length c9c]), .oct (.slice a12o (sumL cb sq ((b.drop (n + 6)).take (n + 6 + q - (n + 6)))).length c12o) (sumL cb sq ((b.drop (n + 6)).take (n + 6 + q - (n + 6)))), .own zsc 22 1 (v22) (zs ++ [(⟨a9c, c9c, (b.drop (n + 6)).take (n + 6 + q - (n + 6))⟩ : Zs)])] W) hM ?_
                clear hM
                rintro Y23 hM
                refine tF 5 [.val 0 (some 63) (.int .i64 (n : Int)), .alt 1 (some 64) (.int .i64 (IntKind.i64.wrap ((n : Int) + 6))) (.int .i64 ((n + 6 : Nat) : Int)), .val 2 (some 65) (.int .i64 (q : Int)), .alt 3 (some 66) (.int .i64 (IntKind.i64.wrap (((n + 6 : Nat) : Int) + (q : Int)))) (.int .i64 ((n + 6 + q : Nat) : Int)), .val 4 (some 5) (.int .i64 ((n + 6 + q : Nat) : Int))] ⟨congrArg (Value.int .i64) (((IntWalk.i64_in _ (by have h1 := HI.out.2.2.1; have h2 := HLN.out; omega)).trans (by have h1 := HI.out.2.2.1; have h2 := HLN.out; omega))), congrArg (Value.int .i64) (((IntWalk.i64_in _ (by have h1 := HI.out.2.2.1; have h2 := HLN.out; have h3 := HQL.out; omega)).trans (by have h1 := HI.out.2.2.1; have h2 := HLN.out; have h3 := HQL.out; omega))), trivial⟩ ?_
                refine dF ?_
                try simp only [puts, Tk.put, Act.put, List.setIfInBounds_toArray, List.set_cons_zero, List.set_cons_succ]
                have hQ : Sep w [] [.own zsc 22 1 (v22) (zs ++ [(⟨a9c, c9c, (b.drop (n + 6)).take (n + 6 + q - (n + 6))⟩ : Zs)])] Y23 := hM.pick [2] (by decide) rfl
                have hI2 : SpI b (textsZ (zs ++ [(⟨a9c, c9c, (b.drop (n + 6)).take (n + 6 + q - (n + 6))⟩ : Zs)])) (n + 6 + q) := by
                  have h := spi_more HI.out (decide_eq_true (by rw [HY.out.1]; omega))
                  rw [HY.out.1, HY.out.2, ← cut16 b n 6 q, ← Nat.add_assoc] at h
                  rw [textsZ_app]
                  exact h
                have hh2 : Holds w0.heap.size w0 (zs ++ [(⟨a9c, c9c, (b.drop (n + 6)).take (n + 6 + q - (n + 6))⟩ : Zs)]) := HH.out.app (Holds.one (HCB9.out _ _ _ H0.out))
                have HQ9 := Lib.hid hQ
                have HI2 := Lib.hid hI2
                have HH2 := Lib.hid hh2
                clear hM hQ hI2 hh2
                go_wp2_with fail
                go_roundw
                case rel => exact ⟨zs ++ [(⟨a9c, c9c, (b.drop (n + 6)).take (n + 6 + q - (n + 6))⟩ : Zs)], n + 6 + q, rfl, HI2.out, HH2.out, HQ9.out⟩
                case measure => have h1 := HI.out.2.2.1; have h2 := H6.out; simp [intOf]; omega
              | true =>
                have Hhb5 := Lib.hid hb5
                clear hb5
                have HZ : Hid (firstN (b.drop n) = 0) := Lib.hid (first16_no HQ.out (.inr (.inr (by have e2 := cut16 b n 2 4; have e6 := cut16 b n 6 q; rw [show n + 2 + 4 = n + 6 by omega] at e2; rw [← e2, ← e6]; have h := Hhb5.out; simpa using h))) H6.out)
                go_upto_region 6 with fail
                refine wp_region_fromM (fun W => Sep w [] [.oct (.slice a12o (sumL cb sq ((b.drop (n + 6)).take (n + 6 + q - (n + 6)))).length c12o) (sumL cb sq ((b.drop (n + 6)).take (n + 6 + q - (n + 6)))), .own zsc 22 1 (u4) (zs)] W) hM ?_
                clear hM
                rintro Y24 hM
                refine tF 4 [.val 0 (some 50) (u4), .val 1 (some 51) (.int .i64 (n : Int)), .val 2 (some 2) (u4), .val 3 (some 3) (.int .i64 (n : Int))] trivial ?_
                refine dF ?_
                try simp only [puts, Tk.put, Act.put, List.setIfInBounds_toArray, List.set_cons_zero, List.set_cons_succ]
                have hQ : Sep w [] [.own zsc 22 1 (u4) (zs)] Y24 := hM.pick [1] (by decide) rfl
                go_wp2_with fail
                go_ret2
                exact ⟨u4, zs, n, rfl, spi_stop HI.out HZ.out, HH.out, hQ⟩
          · refine cvD (.tmp 46) (some 47) (.slice a10c ((b.drop (n + 2)).take (n + 6 - (n + 2))).length c10c) (.string (txB ((b.drop (n + 2)).take (n + 6 - (n + 2))))) (cvT ((HC10.out.below hM.b (Nat.le_refl _)).mono (Nat.le_refl _) hM.size)) hS ?_
            refine oD 20 4 (cD (some 38) 14 #[.slice a9c ((b.drop (n + 6)).take (n + 6 + q - (n + 6))).length c9c] ((refSumW_any ((b.drop (n + 6)).take (n + 6 + q - (n + 6))) _ _ (by rw [List.length_take, List.length_drop]; have h := HLN.out; omega) ((HC9.out.below hM.b (Nat.le_refl _)).mono (Nat.le_refl _) hM.size)).mono ?_))
            rintro e Y25 ⟨v25o, rfl, hO, hb⟩
            refine And.intro (hS.below hb) ?_
            replace hS := hS.below hb
            replace hM := hM.octN hO hb
            clear hO hb
            obtain ⟨a25o, c25o, rfl, _⟩ := (hM.oka 0 rfl).octs.slice
            obtain ⟨a26c, c26c, hrun26, hcb26, _⟩ := cutH (hM.oka 0 rfl).octs (j := 4) rfl (by rw [sumL_len]; decide)
            have HR26 := Lib.hid hrun26
            have HC26 := Lib.hid hcb26
            clear hrun26 hcb26
            refine tD 3 [.slc 21 (some 39) 22 (.slice a25o (sumL cb sq ((b.drop (n + 6)).take (n + 6 + q - (n + 6)))).length c25o) none (some (.int .i64 4)) none (.slice a26c (hd4 ((b.drop (n + 6)).take (n + 6 + q - (n + 6)))).length c26c)] ⟨fun W h => HR26.out _, trivial⟩ hS ?_
            refine oD 22 2 (cvD (.tmp 39) (some 40) (.slice a26c (hd4 ((b.drop (n + 6)).take (n + 6 + q - (n + 6)))).length c26c) (.string (txB (hd4 ((b.drop (n + 6)).take (n + 6 + q - (n + 6)))))) (cvT (HC26.out _ _ _ (hM.oka 0 rfl).octs)) hS ?_)
            refine tD 0 [.alt 30 (some 48) (.bool (!((txB (hd4 ((b.drop (n + 6)).take (n + 6 + q - (n + 6))))).toList == (txB ((b.drop (n + 2)).take (n + 6 - (n + 2)))).toList))) (.bool (!decide ((hd4 ((b.drop (n + 6)).take (n + 6 + q - (n + 6)))) = ((b.drop (n + 2)).take (n + 6 - (n + 2)))))), .val 31 (some 49) (.bool (!decide ((hd4 ((b.drop (n + 6)).take (n + 6 + q - (n + 6)))) = ((b.drop (n + 2)).take (n + 6 - (n + 2))))))] ⟨congrArg Value.bool ((by rw [txEq])), trivial⟩ hS ?_
            refine dD ?_
            try simp only [puts, Tk.put, Act.put, List.setIfInBounds_toArray, List.set_cons_zero, List.set_cons_succ]
            clear hS
            cases hb6 : !decide ((hd4 ((b.drop (n + 6)).take (n + 6 + q - (n + 6)))) = ((b.drop (n + 2)).take (n + 6 - (n + 2)))) with
            | false =>
              have Hhb6 := Lib.hid hb6
              clear hb6
              have HY := Lib.hid (first16_yes HQ.out H10.out HFT.out (by have e2 := cut16 b n 2 4; have e6 := cut16 b n 6 q; rw [show n + 2 + 4 = n + 6 by omega] at e2; rw [← e2, ← e6]; have h := Hhb6.out; simpa using h) H6.out)
              go_upto_region 7 with fail
              refine wp_region_fromM (fun W => Sep w [] [.oct (.slice a25o (sumL cb sq ((b.drop (n + 6)).take (n + 6 + q - (n + 6)))).length c25o) (sumL cb sq ((b.drop (n + 6)).take (n + 6 + q - (n + 6)))), .own zsc 22 1 (u4) (zs)] W) hM ?_
              clear hM
              rintro Y28 hM
              refine tF 9 [.val 0 (some 52) (u4), .val 1 (some 53) (.slice pt b.length ct), .val 2 (some 54) (.int .i64 (n : Int)), .alt 3 (some 55) (.int .i64 (IntKind.i64.wrap ((n : Int) + 6))) (.int .i64 ((n + 6 : Nat) : Int)), .val 4 (some 56) (.int .i64 (n : Int)), .alt 5 (some 57) (.int .i64 (IntKind.i64.wrap ((n : Int) + 6))) (.int .i64 ((n + 6 : Nat) : Int)), .val 6 (some 58) (.int .i64 (q : Int)), .alt 7 (some 59) (.int .i64 (IntKind.i64.wrap (((n + 6 : Nat) : Int) + (q : Int)))) (.int .i64 ((n + 6 + q : Nat) : Int)), .slc 8 (some 60) 22 (.slice pt b.length ct) (some (.int .i64 ((n + 6 : Nat) : Int))) (some (.int .i64 ((n + 6 + q : Nat) : Int))) none (.slice a9c ((b.drop (n + 6)).take (n + 6 + q - (n + 6))).length c9c)] ⟨congrArg (Value.int .i64) (((IntWalk.i64_in _ (by have h1 := HI.out.2.2.1; have h2 := HLN.out; omega)).trans (by have h1 := HI.out.2.2.1; have h2 := HLN.out; omega))), congrArg (Value.int .i64) (((IntWalk.i64_in _ (by have h1 := HI.out.2.2.1; have h2 := HLN.out; omega)).trans (by have h1 := HI.out.2.2.1; have h2 := HLN.out; omega))), congrArg (Value.int .i64) (((IntWalk.i64_in _ (by have h1 := HI.out.2.2.1; have h2 := HLN.out; have h3 := HQL.out; omega)).trans (by have h1 := HI.out.2.2.1; have h2 := HLN.out; have h3 := HQL.out; omega))), HR9.out _, trivial⟩ ?_
              refine rF (some 61) (.slice (some ⟨Y28.heap.size, 0, none⟩) 1 1) (Y28.alloc (.cells ([.slice a9c ((b.drop (n + 6)).take (n + 6 + q - (n + 6))).length c9c]).toArray 22)) ?_
              replace hM := hM.alloc 22 ([.slice a9c ((b.drop (n + 6)).take (n + 6 + q - (n + 6))).length c9c])
              generalize World.alloc _ _ = Y29 at *
              generalize hNe : Y28.heap.size = N29 at *
              clear hNe
              obtain ⟨v30, Y30, hrun, ht⟩ := own_app1 infoZs rfl (by decide) Try.underlying27 zsc_len zsc_one (hM.oka 2 rfl) (⟨a9c, c9c, (b.drop (n + 6)).take (n + 6 + q - (n + 6))⟩ : Zs) (hM.at 0 rfl) (by decide) (by have h := spi_len HI.out; have h2 := HLN.out; omega) 27
              replace hM := hM.turn 2 rfl ht rfl
              clear ht
              refine wpFrom_append (d := some 62) (t := 27) (t' := 27) (ty := 27) (v := u4) (x := .slice (some ⟨N29, 0, none⟩) 1 1) (by kernel_rfl) hrun ?_
              clear hrun
              refine tF 12 [.val 11 (some 4) (v30)] trivial ?_
              refine dF ?_
              try simp only [puts, Tk.put, Act.put, List.setIfInBounds_toArray, List.set_cons_zero, List.set_cons_succ]
              go_upto_region 8 with fail
              refine wp_region_fromM (fun W => Sep w [] [.blk N29 22 ([.slice a9c ((b.drop (n + 6)).take (n + 6 + q - (n + 6))).length c9c]), .oct (.slice a25o (sumL cb sq ((b.drop (n + 6)).take (n + 6 + q - (n + 6)))).length c25o) (sumL cb sq ((b.drop (n + 6)).take (n + 6 + q - (n + 6)))), .own zsc 22 1 (v30) (zs ++ [(⟨a9c, c9c, (b.drop (n + 6)).take (n + 6 + q - (n + 6))⟩ : Zs)])] W) hM ?_
              clear hM
              rintro Y31 hM
              refine tF 5 [.val 0 (some 63) (.int .i64 (n : Int)), .alt 1 (some 64) (.int .i64 (IntKind.i64.wrap ((n : Int) + 6))) (.int .i64 ((n + 6 : Nat) : Int)), .val 2 (some 65) (.int .i64 (q : Int)), .alt 3 (some 66) (.int .i64 (IntKind.i64.wrap (((n + 6 : Nat) : Int) + (q : Int)))) (.int .i64 ((n + 6 + q : Nat) : Int)), .val 4 (some 5) (.int .i64 ((n + 6 + q : Nat) : Int))] ⟨congrArg (Value.int .i64) (((IntWalk.i64_in _ (by have h1 := HI.out.2.2.1; have h2 := HLN.out; omega)).trans (by have h1 := HI.out.2.2.1; have h2 := HLN.out; omega))), congrArg (Value.int .i64) (((IntWalk.i64_in _ (by have h1 := HI.out.2.2.1; have h2 := HLN.out; have h3 := HQL.out; omega)).trans (by have h1 := HI.out.2.2.1; have h2 := HLN.out; have h3 := HQL.out; omega))), trivial⟩ ?_
              refine dF ?_
              try simp only [puts, Tk.put, Act.put, List.setIfInBounds_toArray, List.set_cons_zero, List.set_cons_succ]
              have hQ : Sep w [] [.own zsc 22 1 (v30) (zs ++ [(⟨a9c, c9c, (b.drop (n + 6)).take (n + 6 + q - (n + 6))⟩ : Zs)])] Y31 := hM.pick [2] (by decide) rfl
              have hI2 : SpI b (textsZ (zs ++ [(⟨a9c, c9c, (b.drop (n + 6)).take (n + 6 + q - (n + 6))⟩ : Zs)])) (n + 6 + q) := by
                have h := spi_more HI.out (decide_eq_true (by rw [HY.out.1]; omega))
                rw [HY.out.1, HY.out.2, ← cut16 b n 6 q, ← Nat.add_assoc] at h
                rw [textsZ_app]
                exact h
              have hh2 : Holds w0.heap.size w0 (zs ++ [(⟨a9c, c9c, (b.drop (n + 6)).take (n + 6 + q - (n + 6))⟩ : Zs)]) := HH.out.app (Holds.one (HCB9.out _ _ _ H0.out))
              have HQ9 := Lib.hid hQ
              have HI2 := Lib.hid hI2
              have HH2 := Lib.hid hh2
              clear hM hQ hI2 hh2
              go_wp2_with fail
              go_roundw
              case rel => exact ⟨zs ++ [(⟨a9c, c9c, (b.drop (n + 6)).take (n + 6 + q - (n + 6))⟩ : Zs)], n + 6 + q, rfl, HI2.out, HH2.out, HQ9.out⟩
              case measure => have h1 := HI.out.2.2.1; have h2 := H6.out; simp [intOf]; omega
            | true =>
              have Hhb6 := Lib.hid hb6
              clear hb6
              have HZ : Hid (firstN (b.drop n) = 0) := Lib.hid (first16_no HQ.out (.inr (.inr (by have e2 := cut16 b n 2 4; have e6 := cut16 b n 6 q; rw [show n + 2 + 4 = n + 6 by omega] at e2; rw [← e2, ← e6]; have h := Hhb6.out; simpa using h))) H6.out)
              go_upto_region 6 with fail
              refine wp_region_fromM (fun W => Sep w [] [.oct (.slice a25o (sumL cb sq ((b.drop (n + 6)).take (n + 6 + q - (n + 6)))).length c25o) (sumL cb sq ((b.drop (n + 6)).take (n + 6 + q - (n + 6)))), .own zsc 22 1 (u4) (zs)] W) hM ?_
              clear hM
              rintro Y32 hM
              refine tF 4 [.val 0 (some 50) (u4), .val 1 (some 51) (.int .i64 (n : Int)), .val 2 (some 2) (u4), .val 3 (some 3) (.int .i64 (n : Int))] trivial ?_
              refine dF ?_
              try simp only [puts, Tk.put, Act.put, List.setIfInBounds_toArray, List.set_cons_zero, List.set_cons_succ]
              have hQ : Sep w [] [.own zsc 22 1 (u4) (zs)] Y32 := hM.pick [1] (by decide) rfl
              go_wp2_with fail
              go_ret2
              exact ⟨u4, zs, n, rfl, spi_stop HI.out HZ.out, HH.out, hQ⟩
        | true =>
          have Hhb3 := Lib.hid hb3
          clear hb3
          have HZ : Hid (firstN (b.drop n) = 0) := Lib.hid (first16_no HQ.out (.inr (.inl (by have h := of_decide_eq_true Hhb3.out; omega))) H6.out)
          refine tD 6 [.skip 12 (some 30), .skip 13 (some 31), .skip 14 (some 32), .skip 15 (some 33), .skip 16 (some 34), .skip 17 (some 35), .skip 18 (some 36), .skip 19 (some 37), .skip 23 (some 41), .skip 24 (some 42), .skip 25 (some 43), .skip 26 (some 44), .skip 27 (some 45), .skip 28 (some 46)] trivial hS ?_
          refine oT 20 29 5 ?_ ?_
          · refine stepH_not (d := some 38) (by kernel_rfl) (And.intro hS ?_)
            refine tD 4 [.skip 21 (some 39)] trivial hS ?_
            refine oT 22 29 3 ?_ ?_
            · refine stepH_not (d := some 40) (by kernel_rfl) (And.intro hS ?_)
              refine oD 29 2 (stepH_not (d := some 47) (by kernel_rfl) (And.intro hS ?_))
              refine tD 0 [.skip 30 (some 48), .val 31 (some 49) (.bool true)] trivial hS ?_
              refine dD ?_
              try simp only [puts, Tk.put, Act.put, List.setIfInBounds_toArray, List.set_cons_zero, List.set_cons_succ]
              clear hS
              go_upto_region 6 with fail
              refine wp_region_fromM (fun W => Sep w [] [.own zsc 22 1 (u4) (zs)] W) hM ?_
              clear hM
              rintro Y33 hM
              refine tF 4 [.val 0 (some 50) (u4), .val 1 (some 51) (.int .i64 (n : Int)), .val 2 (some 2) (u4), .val 3 (some 3) (.int .i64 (n : Int))] trivial ?_
              refine dF ?_
              try simp only [puts, Tk.put, Act.put, List.setIfInBounds_toArray, List.set_cons_zero, List.set_cons_succ]
              have hQ : Sep w [] [.own zsc 22 1 (u4) (zs)] Y33 := hM.pick [0] (by decide) rfl
              go_wp2_with fail
              go_ret2
              exact ⟨u4, zs, n, rfl, spi_stop HI.out HZ.out, HH.out, hQ⟩
            · refine stepH_not (d := some 47) (by kernel_rfl) (And.intro hS ?_)
              refine oD 22 2 (stepH_not (d := some 40) (by kernel_rfl) (And.intro hS ?_))
              refine tD 0 [.skip 30 (some 48), .val 31 (some 49) (.bool true)] trivial hS ?_
              refine dD ?_
              try simp only [puts, Tk.put, Act.put, List.setIfInBounds_toArray, List.set_cons_zero, List.set_cons_succ]
              clear hS
              go_upto_region 6 with fail
              refine wp_region_fromM (fun W => Sep w [] [.own zsc 22 1 (u4) (zs)] W) hM ?_
              clear hM
              rintro Y34 hM
              refine tF 4 [.val 0 (some 50) (u4), .val 1 (some 51) (.int .i64 (n : Int)), .val 2 (some 2) (u4), .val 3 (some 3) (.int .i64 (n : Int))] trivial ?_
              refine dF ?_
              try simp only [puts, Tk.put, Act.put, List.setIfInBounds_toArray, List.set_cons_zero, List.set_cons_succ]
              have hQ : Sep w [] [.own zsc 22 1 (u4) (zs)] Y34 := hM.pick [0] (by decide) rfl
              go_wp2_with fail
              go_ret2
              exact ⟨u4, zs, n, rfl, spi_stop HI.out HZ.out, HH.out, hQ⟩
          · refine stepH_not (d := some 47) (by kernel_rfl) (And.intro hS ?_)
            refine oD 20 4 (stepH_not (d := some 38) (by kernel_rfl) (And.intro hS ?_))
            refine tD 3 [.skip 21 (some 39)] trivial hS ?_
            refine oD 22 2 (stepH_not (d := some 40) (by kernel_rfl) (And.intro hS ?_))
            refine tD 0 [.skip 30 (some 48), .val 31 (some 49) (.bool true)] trivial hS ?_
            refine dD ?_
            try simp only [puts, Tk.put, Act.put, List.setIfInBounds_toArray, List.set_cons_zero, List.set_cons_succ]
            clear hS
            go_upto_region 6 with fail
            refine wp_region_fromM (fun W => Sep w [] [.own zsc 22 1 (u4) (zs)] W) hM ?_
            clear hM
            rintro Y35 hM
            refine tF 4 [.val 0 (some 50) (u4), .val 1 (some 51) (.int .i64 (n : Int)), .val 2 (some 2) (u4), .val 3 (some 3) (.int .i64 (n : Int))] trivial ?_
            refine dF ?_
            try simp only [puts, Tk.put, Act.put, List.setIfInBounds_toArray, List.set_cons_zero, List.set_cons_succ]
            have hQ : Sep w [] [.own zsc 22 1 (u4) (zs)] Y35 := hM.pick [0] (by decide) rfl
            go_wp2_with fail
            go_ret2
            exact ⟨u4, zs, n, rfl, spi_stop HI.out HZ.out, HH.out, hQ⟩
      | true =>
        have Hhb2 := Lib.hid hb2
        clear hb2
        have HZ : Hid (firstN (b.drop n) = 0) := Lib.hid (first16_no HQ.out (.inl (by have h := of_decide_eq_true Hhb2.out; omega)) H6.out)
        refine tD 26 [.skip 3 (some 21), .skip 4 (some 22), .skip 6 (some 24)] trivial hS ?_
        refine oD 5 25 (stepH_not (d := some 23) (by kernel_rfl) (And.intro hS ?_))
        refine tD 6 [.skip 7 (some 25), .skip 8 (some 26), .skip 9 (some 27), .val 10 (some 28) (.bool true), .val 11 (some 29) (.bool true), .skip 12 (some 30), .skip 13 (some 31), .skip 14 (some 32), .skip 15 (some 33), .skip 16 (some 34), .skip 17 (some 35), .skip 18 (some 36), .skip 19 (some 37), .skip 23 (some 41), .skip 24 (some 42), .skip 25 (some 43), .skip 26 (some 44), .skip 27 (some 45), .skip 28 (some 46)] trivial hS ?_
        refine oT 20 29 5 ?_ ?_
        · refine stepH_not (d := some 38) (by kernel_rfl) (And.intro hS ?_)
          refine tD 4 [.skip 21 (some 39)] trivial hS ?_
          refine oT 22 29 3 ?_ ?_
          · refine stepH_not (d := some 40) (by kernel_rfl) (And.intro hS ?_)
            refine oD 29 2 (stepH_not (d := some 47) (by kernel_rfl) (And.intro hS ?_))
            refine tD 0 [.skip 30 (some 48), .val 31 (some 49) (.bool true)] trivial hS ?_
            refine dD ?_
            try simp only [puts, Tk.put, Act.put, List.setIfInBounds_toArray, List.set_cons_zero, List.set_cons_succ]
            clear hS
            go_upto_region 6 with fail
            refine wp_region_fromM (fun W => Sep w [] [.own zsc 22 1 (u4) (zs)] W) hM ?_
            clear hM
            rintro Y36 hM
            refine tF 4 [.val 0 (some 50) (u4), .val 1 (some 51) (.int .i64 (n : Int)), .val 2 (some 2) (u4), .val 3 (some 3) (.int .i64 (n : Int))] trivial ?_
            refine dF ?_
            try simp only [puts, Tk.put, Act.put, List.setIfInBounds_toArray, List.set_cons_zero, List.set_cons_succ]
            have hQ : Sep w [] [.own zsc 22 1 (u4) (zs)] Y36 := hM.pick [0] (by decide) rfl
            go_wp2_with fail
            go_ret2
            exact ⟨u4, zs, n, rfl, spi_stop HI.out HZ.out, HH.out, hQ⟩
          · refine stepH_not (d := some 47) (by kernel_rfl) (And.intro hS ?_)
            refine oD 22 2 (stepH_not (d := some 40) (by kernel_rfl) (And.intro hS ?_))
            refine tD 0 [.skip 30 (some 48), .val 31 (some 49) (.bool true)] trivial hS ?_
            refine dD ?_
            try simp only [puts, Tk.put, Act.put, List.setIfInBounds_toArray, List.set_cons_zero, List.set_cons_succ]
            clear hS
            go_upto_region 6 with fail
            refine wp_region_fromM (fun W => Sep w [] [.own zsc 22 1 (u4) (zs)] W) hM ?_
            clear hM
            rintro Y37 hM
            refine tF 4 [.val 0 (some 50) (u4), .val 1 (some 51) (.int .i64 (n : Int)), .val 2 (some 2) (u4), .val 3 (some 3) (.int .i64 (n : Int))] trivial ?_
            refine dF ?_
            try simp only [puts, Tk.put, Act.put, List.setIfInBounds_toArray, List.set_cons_zero, List.set_cons_succ]
            have hQ : Sep w [] [.own zsc 22 1 (u4) (zs)] Y37 := hM.pick [0] (by decide) rfl
            go_wp2_with fail
            go_ret2
            exact ⟨u4, zs, n, rfl, spi_stop HI.out HZ.out, HH.out, hQ⟩
        · refine stepH_not (d := some 47) (by kernel_rfl) (And.intro hS ?_)
          refine oD 20 4 (stepH_not (d := some 38) (by kernel_rfl) (And.intro hS ?_))
          refine tD 3 [.skip 21 (some 39)] trivial hS ?_
          refine oD 22 2 (stepH_not (d := some 40) (by kernel_rfl) (And.intro hS ?_))
          refine tD 0 [.skip 30 (some 48), .val 31 (some 49) (.bool true)] trivial hS ?_
          refine dD ?_
          try simp only [puts, Tk.put, Act.put, List.setIfInBounds_toArray, List.set_cons_zero, List.set_cons_succ]
          clear hS
          go_upto_region 6 with fail
          refine wp_region_fromM (fun W => Sep w [] [.own zsc 22 1 (u4) (zs)] W) hM ?_
          clear hM
          rintro Y38 hM
          refine tF 4 [.val 0 (some 50) (u4), .val 1 (some 51) (.int .i64 (n : Int)), .val 2 (some 2) (u4), .val 3 (some 3) (.int .i64 (n : Int))] trivial ?_
          refine dF ?_
          try simp only [puts, Tk.put, Act.put, List.setIfInBounds_toArray, List.set_cons_zero, List.set_cons_succ]
          have hQ : Sep w [] [.own zsc 22 1 (u4) (zs)] Y38 := hM.pick [0] (by decide) rfl
          go_wp2_with fail
          go_ret2
          exact ⟨u4, zs, n, rfl, spi_stop HI.out HZ.out, HH.out, hQ⟩
end Go.Proofs.Ytcjodiemgnihoaa
