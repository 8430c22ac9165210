/-
  The laws of mail on its way: the page's example; mail against mail.
-/
import Derived.Test.YtedoogoelolbdaaNetG
namespace Go.Proofs.Ytedoogoelolbdaa
open Go.RowKit Go.Shelf
attribute [local irreducible] wpFrom wpAnyH StepH

theorem pl_at {la lb : List Ml} {j : Nat} {a b : Ml} (h : la.map plM = lb.map plM) (ha : la[j]? = some a) (hb : lb[j]? = some b) : plM a = plM b := by
  have h1 : (la.map plM)[j]? = (lb.map plM)[j]? := by rw [h]
  rw [List.getElem?_map, List.getElem?_map, ha, hb] at h1
  exact Option.some.inj h1
set_option maxRecDepth 100000 in
set_option maxHeartbeats 4000000 in
theorem alive23_any (w : World) : Calls Try.prog 7 #[] w fun e W' => e = .returned (.bool true) ∧ Below w.heap.size w W' := by
  have hmx : Try.prog.follows .mixedOrders = true := by kernel_rfl
  have hM := Sep.start w
  go_enter Try.func7, Try.ntmps7
  go_upto_region 0 with fail
  refine wp_region_fromM (fun W => Sep w [] [] W) hM ?_
  clear hM
  rintro Y1 hM
  refine tF 1 [.val 0 (some 0) (.bool false)] trivial ?_
  refine dF ?_
  try simp only [puts, Tk.put, Act.put, List.setIfInBounds_toArray, List.set_cons_zero]
  go_upto_region 1 with fail
  refine wp_region_fromM (fun W => Sep w [] [] W) hM ?_
  clear hM
  rintro Y2 hM
  obtain ⟨Y3, hcv, hb, hL⟩ := cvL Y2 [120]
  refine rF (some 5) (.slice (some ⟨Y2.heap.size, 0, none⟩) ([120] : List UInt8).length ([120] : List UInt8).length) (Y2.alloc (.cells (([120] : List UInt8).map bv).toArray 5)) ?_
  refine cvF (.tmp 5) (some 6) (.slice (some ⟨Y2.heap.size, 0, none⟩) ([120] : List UInt8).length ([120] : List UInt8).length) (.slice (some ⟨Y2.heap.size, 0, none⟩) ([120] : List UInt8).length ([120] : List UInt8).length) hcv ?_
  replace hM := hM.octN hL hb
  clear hcv hb hL
  obtain ⟨aq, cq, hva, _⟩ := (hM.oka 0 rfl).octs.slice
  rw [hva] at hM ⊢
  clear hva
  refine rF (some 7) (.slice (some ⟨Y3.heap.size, 0, none⟩) 1 1) (Y3.alloc (.cells ([.slice aq ([120] : List UInt8).length cq]).toArray 25)) ?_
  replace hM := hM.alloc 25 ([.slice aq ([120] : List UInt8).length cq])
  generalize World.alloc _ _ = Y4 at *
  generalize hNe : Y3.heap.size = N4 at *
  clear hNe
  refine cF (some 8) 10 #[.slice none 0 0, .int .i64 3, .slice (some ⟨N4, 0, none⟩) 1 1] ((post_any ([]) ([(⟨aq, cq, ([120] : List UInt8)⟩ : Zs)]) 3 _ (RSl.nil 0 0 _) (Nat.zero_le _) (rsl_blk (f := zsc) (x := (⟨aq, cq, ([120] : List UInt8)⟩ : Zs)) (hM.at 0 rfl)) (Nat.le_refl _) (Nat.le_of_ble_eq_true rfl) (Holds.nil _ _) BP.nil (Holds.one (z := (⟨aq, cq, ([120] : List UInt8)⟩ : Zs)) ((hM.oka 1 rfl).octs)) (bz_one (z := (⟨aq, cq, ([120] : List UInt8)⟩ : Zs)) (Nat.le_of_ble_eq_true rfl))).mono ?_)
  rintro e Y5 ⟨v5m, ms5, rfl, he5, hR⟩
  have HE5 := Lib.hid he5
  replace hM := hM.gain2 hR
  clear hR he5
  obtain ⟨pv5m, cv5m, rfl⟩ := (hM.oka 0 rfl).slice mlc_len
  refine tF 5 [.val 4 (some 1) (.slice pv5m ms5.length cv5m)] trivial ?_
  refine dF ?_
  try simp only [puts, Tk.put, Act.put, List.setIfInBounds_toArray, List.set_cons_zero, List.set_cons_succ]
  obtain ⟨m, hm1, hm2⟩ := mone_of (y := ((3 : Int), ([120] : List UInt8))) (HE5.out.trans rfl)
  have HM0 := Lib.hid hm1
  have HM2 := Lib.hid hm2
  have HFO := Lib.hid (show m.fo = 3 from congrArg Prod.fst hm2)
  have HLL := Lib.hid (show m.l = [120] from congrArg Prod.snd hm2)
  clear hm1 hm2
  go_upto_region 2 with fail
  refine wp_region_fromM (fun W => Sep w [] [.own mlc 27 2 (.slice pv5m ms5.length cv5m) (ms5), .ows (zsM ms5), .blk N4 25 ([.slice aq ([120] : List UInt8).length cq]), .oct (.slice aq ([120] : List UInt8).length cq) ([120] : List UInt8)] W) hM ?_
  clear hM
  rintro Y7 hM
  refine cF (some 10) 8 #[.slice none 0 0, .int .i64 3] ((take_no none 0 3 _).mono ?_)
  rintro e Y8 ⟨rfl, hb⟩
  replace hM := hM.below hb
  clear hb
  refine tF 5 [.val 1 (some 9) (.tuple #[mlv noMl, .slice none 0 0, .bool false]), .val 2 (some 11) (mlv noMl), .val 3 (some 12) (.slice none 0 0), .val 4 (some 13) (.bool false)] trivial ?_
  refine rF (some 2) (pt Y8.heap.size 0) (Y8.alloc (.cells (mlc noMl).toArray 27)) ?_
  replace hM := hM.alloc 27 (mlc noMl)
  generalize World.alloc _ _ = Y9 at *
  generalize hNe : Y8.heap.size = N9 at *
  clear hNe
  have hst := sto_part (mlc noMl) (hM.at 0 rfl) 0 27 (mlv noMl) (mlc noMl) rfl (by kernel_rfl) (Nat.le_of_ble_eq_true rfl) rfl rfl
  refine sF 27 (pt N9 0) (mlv noMl) (hst) ?_
  clear hst
  replace hM := hM.set 0 (cs' := mlc noMl) rfl rfl
  generalize World.setRow _ _ _ = Y10 at *
  refine tF 9 [.val 7 (some 3) (.slice none 0 0), .val 8 (some 4) (.bool false)] trivial ?_
  refine dF ?_
  try simp only [puts, Tk.put, Act.put, List.setIfInBounds_toArray, List.set_cons_zero, List.set_cons_succ]
  go_upto_region 3 with fail
  obtain ⟨bt, ot, hit, hct⟩ := (hM.oka 1 rfl).elem mlc_len (show ms5[0]? = some m from by rw [HM0.out]; rfl) Try.underlying22 (fun W => by kernel_rfl)
  have HIt := Lib.hid hit
  have HCt := Lib.hid hct
  clear hit hct
  refine wp_region_fromM (fun W => Sep w [] [.blk N9 27 (mlc noMl), .own mlc 27 2 (.slice pv5m ms5.length cv5m) (ms5), .ows (zsM ms5), .blk N4 25 ([.slice aq ([120] : List UInt8).length cq]), .oct (.slice aq ([120] : List UInt8).length cq) ([120] : List UInt8)] W) hM ?_
  clear hM
  rintro Y11 hM
  refine tF 15 [.val 0 (some 14) (.slice pv5m ms5.length cv5m), .val 1 (some 15) (.int .i64 (ms5.length : Int)), .alt 2 (some 16) (.bool ((ms5.length : Int) == 1)) (.bool true), .val 3 (some 17) (.bool true), .val 4 (some 18) (.slice pv5m ms5.length cv5m), .idx 5 (some 19) 22 (.slice pv5m ms5.length cv5m) (.int .i64 0) (pt bt ot), .val 6 (some 20) (pt bt ot), .load 7 (some 21) 3 (pt bt ot) (.int .i64 m.fo), .alt 8 (some 22) (.bool (m.fo == 3)) (.bool true), .val 9 (some 23) (.bool true), .val 10 (some 24) (.bool true), .val 11 (some 25) (.slice pv5m ms5.length cv5m), .idx 12 (some 26) 22 (.slice pv5m ms5.length cv5m) (.int .i64 0) (pt bt ot), .val 13 (some 27) (pt bt (ot + 1)), .load 14 (some 28) 25 (pt bt (ot + 1)) (.slice m.a m.l.length m.c)] ⟨congrArg Value.bool ((by rw [HM0.out]; rfl)), HIt.out _, ld_cell _ _ Try.underlying3 rfl (HCt.out _ (hM.oka 1 rfl) 0 _ rfl), congrArg Value.bool ((by rw [HFO.out]; rfl)), HIt.out _, ld_cell _ _ Try.underlying25 rfl (HCt.out _ (hM.oka 1 rfl) 1 _ rfl), trivial⟩ ?_
  refine cvF (.tmp 28) (some 29) (.slice m.a m.l.length m.c) (.string (txB m.l)) (cvT ((hM.oka 2 rfl).holdW.ml (show ms5[0]? = some m from by rw [HM0.out]; rfl))) ?_
  refine tF 23 [.alt 16 (some 30) (.bool ((txB m.l).toList == (⟨#[120]⟩ : ByteArray).toList)) (.bool true), .val 17 (some 31) (.bool true), .val 18 (some 32) (.bool true), .val 19 (some 33) (.bool false), .val 20 (some 34) (.bool true), .val 21 (some 35) (.bool true), .val 22 (some 0) (.bool true)] ⟨congrArg Value.bool ((by rw [HLL.out]; exact beq_self_eq_true (txB [120]).toList)), trivial⟩ ?_
  refine dF ?_
  try simp only [puts, Tk.put, Act.put, List.setIfInBounds_toArray, List.set_cons_zero, List.set_cons_succ]
  go_wp2_with fail
  go_ret
  exact ⟨rfl, hM.b⟩
set_option maxRecDepth 100000 in
set_option maxHeartbeats 4000000 in
theorem one23_any (a b : Ml) (w : World) (ha : BSl 0 w.heap.size w (.slice a.a a.l.length a.c) a.l) (hb : BSl 0 w.heap.size w (.slice b.a b.l.length b.c) b.l) (he : plM a = plM b) : Calls Try.prog 12 #[mlv a, mlv b] w fun e W' => e = .returned (.bool true) ∧ Below w.heap.size w W' := by
  have hmx : Try.prog.follows .mixedOrders = true := by kernel_rfl
  have HA := Lib.hid ha
  have HB := Lib.hid hb
  have HF := Lib.hid (show a.fo = b.fo from congrArg Prod.fst he)
  have HL := Lib.hid (show a.l = b.l from congrArg Prod.snd he)
  clear ha hb he
  have hM := Sep.start w
  go_enter Try.func12, Try.ntmps12
  go_upto_region 0 with fail
  refine wp_region_fromM (fun W => Sep w [] [] W) hM ?_
  clear hM
  rintro Y1 hM
  refine rF (some 2) (pt Y1.heap.size 0) (Y1.alloc (.cells (mlc a).toArray 27)) ?_
  replace hM := hM.alloc 27 (mlc a)
  generalize World.alloc _ _ = Y2 at *
  generalize hNe : Y1.heap.size = N2 at *
  clear hNe
  refine rF (some 3) (pt Y2.heap.size 0) (Y2.alloc (.cells (mlc b).toArray 27)) ?_
  replace hM := hM.alloc 27 (mlc b)
  generalize World.alloc _ _ = Y3 at *
  generalize hNe : Y2.heap.size = N3 at *
  clear hNe
  refine tF 3 [.val 2 (some 4) (.bool false)] trivial ?_
  refine dF ?_
  try simp only [puts, Tk.put, Act.put, List.setIfInBounds_toArray, List.set_cons_zero, List.set_cons_succ]
  go_upto_region 1 with fail
  refine wp_region_fromM (fun W => Sep w [] [.blk N3 27 (mlc b), .blk N2 27 (mlc a)] W) hM ?_
  clear hM
  rintro Y4 hM
  refine tF 8 [.val 0 (some 5) (pt N2 0), .load 1 (some 6) 3 (pt N2 0) (.int .i64 a.fo), .val 2 (some 7) (pt N3 0), .load 3 (some 8) 3 (pt N3 0) (.int .i64 b.fo), .alt 4 (some 9) (.bool (a.fo == b.fo)) (.bool true), .val 5 (some 10) (.bool true), .val 6 (some 11) (pt N2 1), .load 7 (some 12) 25 (pt N2 1) (.slice a.a a.l.length a.c)] ⟨ld_any _ _ Try.underlying3 rfl (hM.at 1 rfl) 0 rfl, ld_any _ _ Try.underlying3 rfl (hM.at 0 rfl) 0 rfl, congrArg Value.bool ((by rw [HF.out]; exact beq_self_eq_true _)), ld_any _ _ Try.underlying25 rfl (hM.at 1 rfl) 1 rfl, trivial⟩ ?_
  refine cvF (.tmp 12) (some 13) (.slice a.a a.l.length a.c) (.string (txB a.l)) (cvT (HA.out.below hM.b (Nat.le_refl _))) ?_
  refine tF 11 [.val 9 (some 14) (pt N3 1), .load 10 (some 15) 25 (pt N3 1) (.slice b.a b.l.length b.c)] ⟨ld_any _ _ Try.underlying25 rfl (hM.at 0 rfl) 1 rfl, trivial⟩ ?_
  refine cvF (.tmp 15) (some 16) (.slice b.a b.l.length b.c) (.string (txB b.l)) (cvT (HB.out.below hM.b (Nat.le_refl _))) ?_
  refine tF 15 [.alt 12 (some 17) (.bool ((txB a.l).toList == (txB b.l).toList)) (.bool true), .val 13 (some 18) (.bool true), .val 14 (some 4) (.bool true)] ⟨congrArg Value.bool ((by rw [HL.out]; exact beq_self_eq_true _)), trivial⟩ ?_
  refine dF ?_
  try simp only [puts, Tk.put, Act.put, List.setIfInBounds_toArray, List.set_cons_zero, List.set_cons_succ]
  go_wp2_with fail
  go_ret
  exact ⟨rfl, hM.b⟩
set_option maxRecDepth 100000 in
set_option maxHeartbeats 4000000 in
theorem same23_any {la lb : List Ml} {v1 v2 : Value} {lo1 hi1 lo2 hi2 : Nat} (w : World) (h1 : RSl mlc lo1 hi1 w v1 la) (hh1 : hi1 ≤ w.heap.size) (h2 : RSl mlc lo2 hi2 w v2 lb) (hh2 : hi2 ≤ w.heap.size) (k1 : Holds w.heap.size w (zsM la)) (k2 : Holds w.heap.size w (zsM lb)) (he : la.map plM = lb.map plM) : Calls Try.prog 9 #[v1, v2] w fun e W' => e = .returned (.bool true) ∧ Below w.heap.size w W' := by
  have hmx : Try.prog.follows .mixedOrders = true := by kernel_rfl
  have HEa := Lib.hid (fun k x (hx : la[k]? = some x) => h1.elem mlc_len hx Try.underlying22 (fun W => by kernel_rfl))
  obtain ⟨pa, ca, rfl⟩ := h1.slice
  have HLa := Lib.hid h1
  have HHa := Lib.hid hh1
  have HLENa := Lib.hid (show la.length ≤ 9223372036854775807 from by have h := h1.len; unfold maxLen at h; omega)
  clear h1 hh1
  have HEb := Lib.hid (fun k x (hx : lb[k]? = some x) => h2.elem mlc_len hx Try.underlying22 (fun W => by kernel_rfl))
  obtain ⟨pb, cb, rfl⟩ := h2.slice
  have HLb := Lib.hid h2
  have HHb := Lib.hid hh2
  have HLENb := Lib.hid (show lb.length ≤ 9223372036854775807 from by have h := h2.len; unfold maxLen at h; omega)
  clear h2 hh2
  have KA := Lib.hid k1
  have KB := Lib.hid k2
  have HEQ := Lib.hid he
  have HLQ := Lib.hid (show la.length = lb.length from by have h := congrArg List.length he; rwa [List.length_map, List.length_map] at h)
  clear k1 k2 he
  have hM := Sep.start w
  go_enter Try.func9, Try.ntmps9
  go_upto_region 0 with fail
  refine wp_region_fromM (fun W => Sep w [] [] W) hM ?_
  clear hM
  rintro Y1 hM
  refine tF 1 [.val 0 (some 4) (.bool false)] trivial ?_
  refine dF ?_
  try simp only [puts, Tk.put, Act.put, List.setIfInBounds_toArray, List.set_cons_zero, List.set_cons_succ]
  go_upto_region 1 with fail
  refine wp_region_fromM (fun W => Sep w [] [] W) hM ?_
  clear hM
  rintro Y2 hM
  refine tF 5 [.val 0 (some 6) (.slice pa la.length ca), .val 1 (some 7) (.int .i64 (la.length : Int)), .val 2 (some 8) (.slice pb lb.length cb), .val 3 (some 9) (.int .i64 (lb.length : Int)), .alt 4 (some 10) (.bool ((la.length : Int) != (lb.length : Int))) (.bool false)] ⟨congrArg Value.bool ((by rw [HLQ.out]; exact bne_self_eq_false _)), trivial⟩ ?_
  refine dF ?_
  try simp only [puts, Tk.put, Act.put, List.setIfInBounds_toArray, List.set_cons_zero, List.set_cons_succ]
  go_upto_region 3 with fail
  refine wp_region_fromM (fun W => Sep w [] [] W) hM ?_
  clear hM
  rintro Y3 hM
  refine tF 1 [.val 0 (some 5) (.int .i64 0)] trivial ?_
  refine dF ?_
  try simp only [puts, Tk.put, Act.put, List.setIfInBounds_toArray, List.set_cons_zero, List.set_cons_succ]
  go_wp2_with fail
  go_loopw [5] (fun u5 wr => ∃ j : Nat, j ≤ la.length ∧ u5 = .int .i64 (j : Int) ∧ Sep w [] [] wr) (fun u5 _ => la.length - (intOf u5).toNat)
  case atStart => exact ⟨0, Nat.zero_le _, rfl, hM⟩
  clear hM
  case round =>
    obtain ⟨j, hj, rfl, hM⟩ := hrel
    by_cases hlt : j < la.length
    case pos =>
      have HJ := Lib.hid hlt
      have hlt' : (j : Int) < (la.length : Int) := by omega
      have HLT := Lib.hid hlt'
      obtain ⟨a, hx⟩ : ∃ x, la[j]? = some x := ⟨_, List.getElem?_eq_getElem hlt⟩
      obtain ⟨ba, oa, _, _, hit, hct⟩ := HEa.out j a hx
      have HXa := Lib.hid hx
      have HIa := Lib.hid hit
      have HCa := Lib.hid hct
      clear hx hit hct
      obtain ⟨b, hx⟩ : ∃ x, lb[j]? = some x := ⟨_, List.getElem?_eq_getElem (by have h := HLQ.out; have h2 := HJ.out; omega)⟩
      obtain ⟨bb, ob, _, _, hit, hct⟩ := HEb.out j b hx
      have HXb := Lib.hid hx
      have HIb := Lib.hid hit
      have HCb := Lib.hid hct
      clear hx hit hct
      have HAB := Lib.hid (pl_at HEQ.out HXa.out HXb.out)
      clear hlt hlt'
      go_upto_region 4 with fail
      refine wp_region_fromM (fun W => Sep w [] [] W) hM ?_
      clear hM
      rintro Y4 hM
      refine tF 4 [.val 0 (some 11) (.int .i64 (j : Int)), .val 1 (some 12) (.slice pa la.length ca), .val 2 (some 13) (.int .i64 (la.length : Int)), .alt 3 (some 14) (.bool (decide ((j : Int) < (la.length : Int)))) (.bool true)] ⟨congrArg Value.bool (decide_eq_true HLT.out), trivial⟩ ?_
      refine dF ?_
      try simp only [puts, Tk.put, Act.put, List.setIfInBounds_toArray, List.set_cons_zero, List.set_cons_succ]
      go_upto_region 6 with fail
      refine wp_region_M (fun W => Sep w [] [] W) (fun W => Sep w [] [] W) hmx hM.drew ?_
      clear hM
      rintro Y5 hM
      have hS := hM.sub .slnil
      refine tD 2 [.val 0 (some 17) (.slice pa la.length ca), .val 1 (some 18) (.int .i64 (j : Int)), .idx 2 (some 19) 22 (.slice pa la.length ca) (.int .i64 (j : Int)) (pt ba oa), .load 3 (some 20) 27 (pt ba oa) (mlv a), .val 4 (some 21) (.slice pb lb.length cb), .val 5 (some 22) (.int .i64 (j : Int)), .idx 6 (some 23) 22 (.slice pb lb.length cb) (.int .i64 (j : Int)) (pt bb ob), .load 7 (some 24) 27 (pt bb ob) (mlv b)] ⟨fun W h => HIa.out _, fun W h => ld_cells (mlc a) _ _ Try.underlying27 rfl (by kernel_rfl) (HCa.out _ (HLa.out.below h.b HHa.out)), fun W h => HIb.out _, fun W h => ld_cells (mlc b) _ _ Try.underlying27 rfl (by kernel_rfl) (HCb.out _ (HLb.out.below h.b HHb.out)), trivial⟩ hS ?_
      refine oD 8 1 (cD (some 25) 12 #[mlv a, mlv b] ((one23_any a b _ ((((KA.out.ml HXa.out).below hM.b (Nat.le_refl _)).mono (Nat.le_refl _) hM.size)) ((((KB.out.ml HXb.out).below hM.b (Nat.le_refl _)).mono (Nat.le_refl _) hM.size)) (HAB.out)).mono ?_))
      rintro e Y6 ⟨rfl, hb⟩
      refine And.intro (hS.below hb) ?_
      replace hS := hS.below hb
      replace hM := hM.below hb
      clear hb
      refine tD 0 [.val 9 (some 26) (.bool false)] trivial hS ?_
      refine dD ?_
      try simp only [puts, Tk.put, Act.put, List.setIfInBounds_toArray, List.set_cons_zero, List.set_cons_succ]
      clear hS
      go_upto_region 5 with fail
      refine wp_region_fromM (fun W => Sep w [] [] W) hM ?_
      clear hM
      rintro Y7 hM
      refine tF 3 [.val 0 (some 15) (.int .i64 (j : Int)), .alt 1 (some 16) (.int .i64 (IntKind.i64.wrap ((j : Int) + 1))) (.int .i64 ((j + 1 : Nat) : Int)), .val 2 (some 5) (.int .i64 ((j + 1 : Nat) : Int))] ⟨congrArg (Value.int .i64) ((IntWalk.i64_in _ (by have := HLENa.out; have := HJ.out; omega)).trans (by omega)), trivial⟩ ?_
      refine dF ?_
      try simp only [puts, Tk.put, Act.put, List.setIfInBounds_toArray, List.set_cons_zero, List.set_cons_succ]
      have hM1 := hM.sub (l' := []) (List.nil_sublist _)
      have HM1 := Lib.hid hM1
      clear hM hM1
      go_wp2_with fail
      go_roundw
      case rel => exact ⟨j + 1, HJ.out, rfl, HM1.out⟩
      case measure => have := HJ.out; simp [intOf]; omega
    case neg =>
      obtain rfl : j = la.length := by omega
      go_upto_region 4 with fail
      refine wp_region_fromM (fun W => Sep w [] [] W) hM ?_
      clear hM
      rintro Y8 hM
      refine tF 4 [.val 0 (some 11) (.int .i64 (la.length : Int)), .val 1 (some 12) (.slice pa la.length ca), .val 2 (some 13) (.int .i64 (la.length : Int)), .alt 3 (some 14) (.bool (decide ((la.length : Int) < (la.length : Int)))) (.bool false)] ⟨congrArg Value.bool (decide_eq_false (by omega)), trivial⟩ ?_
      refine dF ?_
      try simp only [puts, Tk.put, Act.put, List.setIfInBounds_toArray, List.set_cons_zero, List.set_cons_succ]
      go_upto_region 8 with fail
      refine wp_region_fromM (fun W => Sep w [] [] W) hM ?_
      clear hM
      rintro Y9 hM
      refine tF 1 [.val 0 (some 4) (.bool true)] trivial ?_
      refine dF ?_
      try simp only [puts, Tk.put, Act.put, List.setIfInBounds_toArray, List.set_cons_zero, List.set_cons_succ]
      go_wp2_with fail
      go_ret
      exact ⟨rfl, hM.b⟩
end Go.Proofs.Ytedoogoelolbdaa
