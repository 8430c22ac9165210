/-
  ChainNobody answers true at every input, and leaves its arguments as they are.
-/
import Derived.Deep.Slices
import Derived.SizedLaws
import Derived.Carry
import Derived.ChangeMaps5
import Derived.Test.YtfoemkmoambagaaGreatK14
namespace Go.Proofs.YtfoemkmoambagaaGreat
open Go.RowKit Go.Shelf
attribute [local irreducible] wpFrom wpAnyH StepH
theorem noC_of {W : World} {Z : Nat} {p : Value} (hp : p = .pointer none ∨ p = .pointer (some ⟨Z, 0, none⟩)) (hZ : Blk W Z 71 (lgc false zS (.slice none 0 0) (.slice none 0 0) 0 (.pointer none))) : NoC W p := by
  rcases hp with h | h
  · exact .inl h
  · exact .inr ⟨Z, h, hZ⟩
theorem two_ptr (Z : Nat) {k : Nat} (hk : k < 2) : ∃ p, ([.pointer none, .pointer (some ⟨Z, 0, none⟩)] : List Value)[0 + k * 1]? = some p ∧ (p = .pointer none ∨ p = .pointer (some ⟨Z, 0, none⟩)) := by
  obtain rfl | rfl : k = 0 ∨ k = 1 := by omega
  · exact ⟨_, rfl, .inl rfl⟩
  · exact ⟨_, rfl, .inr rfl⟩
set_option maxRecDepth 100000 in
set_option maxHeartbeats 4000000 in
theorem chainNobody_any (t : Tr) (n : Int) (s : ByteArray) (w : World) : Calls Tryz.prog 5 #[txv t, .int .i64 n, .string s] w fun e W' => e = .returned (.bool true) ∧ Below w.heap.size w W' := by
  have hmx : Tryz.prog.follows .mixedOrders = true := by kernel_rfl
  have hM := Sep.start w
  go_enter Tryz.func5, Tryz.ntmps5
  go_upto_region 0 with fail
  refine wp_region_fromM (fun W => Sep w [] [] W) hM ?_
  clear hM
  rintro Y1 hM
  refine rF (some 3) (pt Y1.heap.size 0) (Y1.alloc (.cells (txc t).toArray 44)) ?_
  replace hM := hM.alloc 44 (txc t)
  generalize World.alloc _ _ = Y2 at *
  generalize hNe : Y1.heap.size = T at *
  clear hNe
  refine tF 2 [.val 1 (some 6) (.bool false)] trivial ?_
  refine dF ?_
  try simp only [puts, Tk.put, Act.put, List.setIfInBounds_toArray, List.set_cons_zero, List.set_cons_succ]
  go_upto_region 1 with fail
  refine wp_region_fromM (fun W => Sep w [] [.blk T 44 (txc t)] W) hM ?_
  clear hM
  rintro Y3 hM
  refine tF 1 [.val 0 (some 7) (.pointer none)] trivial ?_
  refine dF ?_
  try simp only [puts, Tk.put, Act.put, List.setIfInBounds_toArray, List.set_cons_zero, List.set_cons_succ]
  go_upto_region 2 with fail
  refine wp_region_fromM (fun W => Sep w [] [.blk T 44 (txc t)] W) hM ?_
  clear hM
  rintro Y4 hM
  refine tF 2 [.val 0 (some 10) (.pointer none), .val 1 (some 11) (.agg (lgc false zS (.slice none 0 0) (.slice none 0 0) 0 (.pointer none)).toArray)] trivial ?_
  refine rF (some 12) (pt Y4.heap.size 0) (Y4.alloc (.cells (lgc false zS (.slice none 0 0) (.slice none 0 0) 0 (.pointer none)).toArray 71)) ?_
  replace hM := hM.alloc 71 (lgc false zS (.slice none 0 0) (.slice none 0 0) 0 (.pointer none))
  generalize World.alloc _ _ = Y5 at *
  generalize hNe : Y4.heap.size = Z at *
  clear hNe
  refine rF (some 13) (.slice (some ⟨Y5.heap.size, 0, none⟩) 2 2) (Y5.alloc (.cells ([.pointer none, .pointer (some ⟨Z, 0, none⟩)]).toArray 24)) ?_
  replace hM := hM.alloc 24 ([.pointer none, .pointer (some ⟨Z, 0, none⟩)])
  generalize World.alloc _ _ = Y6 at *
  generalize hNe : Y5.heap.size = Lb at *
  clear hNe
  refine tF 5 [.val 4 (some 8) (.slice (some ⟨Lb, 0, none⟩) 2 2)] trivial ?_
  refine dF ?_
  try simp only [puts, Tk.put, Act.put, List.setIfInBounds_toArray, List.set_cons_zero, List.set_cons_succ]
  go_upto_region 3 with fail
  refine wp_region_fromM (fun W => Sep w [] [.blk Lb 24 ([.pointer none, .pointer (some ⟨Z, 0, none⟩)]), .blk Z 71 (lgc false zS (.slice none 0 0) (.slice none 0 0) 0 (.pointer none)), .blk T 44 (txc t)] W) hM ?_
  clear hM
  rintro Y7 hM
  refine tF 1 [.val 0 (some 9) (.int .i64 0)] trivial ?_
  refine dF ?_
  try simp only [puts, Tk.put, Act.put, List.setIfInBounds_toArray, List.set_cons_zero, List.set_cons_succ]
  go_wp2_with fail
  go_loopw [9] (fun i wr => ∃ k : Nat, k ≤ 2 ∧ i = .int .i64 (k : Nat) ∧ Sep w [] [.blk Lb 24 ([.pointer none, .pointer (some ⟨Z, 0, none⟩)]), .blk Z 71 (lgc false zS (.slice none 0 0) (.slice none 0 0) 0 (.pointer none)), .blk T 44 (txc t)] wr) (fun i _ => 2 - (intOf i).toNat)
  case atStart => exact ⟨0, Nat.zero_le _, rfl, hM⟩
  clear hM
  case round =>
    obtain ⟨k, hk, rfl, hM⟩ := hrel
    by_cases hlt : k < 2
    · obtain ⟨p, hp, hpz⟩ := two_ptr Z hlt
      have HP := Lib.hid hp
      have HPZ := Lib.hid hpz
      have HLTK := Lib.hid hlt
      clear hp hpz hlt hk
      go_upto_region 4 with fail
      refine wp_region_fromM (fun W => Sep w [] [.blk Lb 24 ([.pointer none, .pointer (some ⟨Z, 0, none⟩)]), .blk Z 71 (lgc false zS (.slice none 0 0) (.slice none 0 0) 0 (.pointer none)), .blk T 44 (txc t)] W) hM ?_
      clear hM
      rintro Y8 hM
      refine tF 2 [.val 0 (some 14) (.int .i64 (k : Int)), .val 1 (some 15) (.slice (some ⟨Lb, 0, none⟩) 2 2)] trivial ?_
      refine rF (some 16) (.int .i64 2) (Y8) ?_
      refine tF 4 [.alt 3 (some 17) (.bool (decide ((k : Int) < 2))) (.bool true)] ⟨congrArg Value.bool (decide_eq_true (by have := HLTK.out; omega)), trivial⟩ ?_
      refine dF ?_
      try simp only [puts, Tk.put, Act.put, List.setIfInBounds_toArray, List.set_cons_zero, List.set_cons_succ]
      go_upto_region 6 with fail
      refine wp_region_fromM (fun W => Sep w [] [.blk Lb 24 ([.pointer none, .pointer (some ⟨Z, 0, none⟩)]), .blk Z 71 (lgc false zS (.slice none 0 0) (.slice none 0 0) 0 (.pointer none)), .blk T 44 (txc t)] W) hM ?_
      clear hM
      rintro Y9 hM
      refine tF 5 [.val 0 (some 20) (.slice (some ⟨Lb, 0, none⟩) 2 2), .val 1 (some 21) (.int .i64 (k : Int)), .idx 2 (some 22) 72 (.slice (some ⟨Lb, 0, none⟩) 2 2) (.int .i64 (k : Int)) (pt Lb (0 + k * 1)), .load 3 (some 23) 24 (pt Lb (0 + k * 1)) (p), .val 4 (some 24) (.int .i64 n)] ⟨idx_sl Tryz.underlying72 (by kernel_rfl) HLTK.out, ld_cell _ _ Tryz.underlying24 rfl (((hM.at 0 rfl).cell (0 + k * 1)).trans HP.out), trivial⟩ ?_
      refine cF (some 25) 15 #[p, .int .i64 n] ((chnRise_no n _ (noC_of HPZ.out (hM.at 1 rfl))).mono ?_)
      rintro e W1 ⟨rfl, hb⟩
      replace hM := hM.below hb
      clear hb
      refine dF ?_
      try simp only [puts, Tk.put, Act.put, List.setIfInBounds_toArray, List.set_cons_zero, List.set_cons_succ]
      go_upto_region 7 with fail
      refine wp_region_M (fun W => Sep w [] [.blk Lb 24 ([.pointer none, .pointer (some ⟨Z, 0, none⟩)]), .blk Z 71 (lgc false zS (.slice none 0 0) (.slice none 0 0) 0 (.pointer none)), .blk T 44 (txc t)] W) (fun W => Sep w [] [.blk Lb 24 ([.pointer none, .pointer (some ⟨Z, 0, none⟩)]), .blk Z 71 (lgc false zS (.slice none 0 0) (.slice none 0 0) 0 (.pointer none)), .blk T 44 (txc t)] W) hmx hM.drew ?_
      clear hM
      rintro Y10 hM
      have hS := hM.sub (.cons_cons _ (.cons_cons _ (.cons_cons _ .slnil)))
      refine tD 63 [.val 0 (some 26) (.slice (some ⟨Lb, 0, none⟩) 2 2), .val 1 (some 27) (.int .i64 (k : Int)), .idx 2 (some 28) 72 (.slice (some ⟨Lb, 0, none⟩) 2 2) (.int .i64 (k : Int)) (pt Lb (0 + k * 1)), .load 3 (some 29) 24 (pt Lb (0 + k * 1)) (p), .load 4 (some 30) 44 (pt T 0) (txv t)] ⟨fun W h => idx_sl Tryz.underlying72 (by kernel_rfl) HLTK.out, fun W h => ld_cell _ _ Tryz.underlying24 rfl (((h.at 0 rfl).cell (0 + k * 1)).trans HP.out), fun W h => ld_tx (h.at 2 rfl), trivial⟩ hS ?_
      refine oD 5 62 (cD (some 31) 12 #[p, txv t] ((chnSubmit_no t _ (noC_of HPZ.out (hM.at 1 rfl))).mono ?_))
      rintro e Y11 ⟨rfl, hb⟩
      refine And.intro (hS.below hb) ?_
      replace hS := hS.below hb
      replace hM := hM.below hb
      clear hb
      refine tD 56 [.val 6 (some 32) (.bool false), .val 7 (some 33) (.slice (some ⟨Lb, 0, none⟩) 2 2), .val 8 (some 34) (.int .i64 (k : Int)), .idx 9 (some 35) 72 (.slice (some ⟨Lb, 0, none⟩) 2 2) (.int .i64 (k : Int)) (pt Lb (0 + k * 1)), .load 10 (some 36) 24 (pt Lb (0 + k * 1)) (p), .val 11 (some 37) (.int .i64 n)] ⟨fun W h => idx_sl Tryz.underlying72 (by kernel_rfl) HLTK.out, fun W h => ld_cell _ _ Tryz.underlying24 rfl (((h.at 0 rfl).cell (0 + k * 1)).trans HP.out), trivial⟩ hS ?_
      refine oD 12 55 (cD (some 38) 14 #[p, .int .i64 n] ((chnInclude_no n _ (noC_of HPZ.out (hM.at 1 rfl))).mono ?_))
      rintro e Y12 ⟨rfl, hb⟩
      refine And.intro (hS.below hb) ?_
      replace hS := hS.below hb
      replace hM := hM.below hb
      clear hb
      refine tD 49 [.val 13 (some 39) (.bool false), .val 14 (some 40) (.bool false), .val 15 (some 41) (.slice (some ⟨Lb, 0, none⟩) 2 2), .val 16 (some 42) (.int .i64 (k : Int)), .idx 17 (some 43) 72 (.slice (some ⟨Lb, 0, none⟩) 2 2) (.int .i64 (k : Int)) (pt Lb (0 + k * 1)), .load 18 (some 44) 24 (pt Lb (0 + k * 1)) (p)] ⟨fun W h => idx_sl Tryz.underlying72 (by kernel_rfl) HLTK.out, fun W h => ld_cell _ _ Tryz.underlying24 rfl (((h.at 0 rfl).cell (0 + k * 1)).trans HP.out), trivial⟩ hS ?_
      refine oD 19 48 (cD (some 45) 21 #[p] ((chnTime_no _ (noC_of HPZ.out (hM.at 1 rfl))).mono ?_))
      rintro e Y13 ⟨rfl, hb⟩
      refine And.intro (hS.below hb) ?_
      replace hS := hS.below hb
      replace hM := hM.below hb
      clear hb
      refine tD 36 [.val 20 (some 46) (.bool false), .val 21 (some 47) (.bool false), .val 22 (some 48) (.bool false), .val 23 (some 49) (.slice (some ⟨Lb, 0, none⟩) 2 2), .val 24 (some 50) (.int .i64 (k : Int)), .idx 25 (some 51) 72 (.slice (some ⟨Lb, 0, none⟩) 2 2) (.int .i64 (k : Int)) (pt Lb (0 + k * 1)), .load 26 (some 52) 24 (pt Lb (0 + k * 1)) (p), .val 29 (some 55) (.slice (some ⟨Lb, 0, none⟩) 2 2), .val 30 (some 56) (.int .i64 (k : Int)), .idx 31 (some 57) 72 (.slice (some ⟨Lb, 0, none⟩) 2 2) (.int .i64 (k : Int)) (pt Lb (0 + k * 1)), .load 32 (some 58) 24 (pt Lb (0 + k * 1)) (p), .val 33 (some 59) (.int .i64 n)] ⟨fun W h => idx_sl Tryz.underlying72 (by kernel_rfl) HLTK.out, fun W h => ld_cell _ _ Tryz.underlying24 rfl (((h.at 0 rfl).cell (0 + k * 1)).trans HP.out), fun W h => idx_sl Tryz.underlying72 (by kernel_rfl) HLTK.out, fun W h => ld_cell _ _ Tryz.underlying24 rfl (((h.at 0 rfl).cell (0 + k * 1)).trans HP.out), trivial⟩ hS ?_
      refine oD 27 35 (cD (some 53) 17 #[p] ((chnPool_no _ (noC_of HPZ.out (hM.at 1 rfl))).mono ?_))
      rintro e Y14 ⟨rfl, hb⟩
      refine And.intro (hS.below hb) ?_
      replace hS := hS.below hb
      replace hM := hM.below hb
      clear hb
      refine tD 34 [.val 28 (some 54) (.int .i64 0)] trivial hS ?_
      refine oD 34 33 (cD (some 60) 18 #[p, .int .i64 n] ((chnEvents_no n _ (noC_of HPZ.out (hM.at 1 rfl))).mono ?_))
      rintro e Y15 ⟨rfl, hb⟩
      refine And.intro (hS.below hb) ?_
      replace hS := hS.below hb
      replace hM := hM.below hb
      clear hb
      refine tD 23 [.val 35 (some 61) (.int .i64 0), .val 36 (some 62) (.int .i64 0), .val 37 (some 63) (.bool false), .val 38 (some 64) (.bool false), .val 39 (some 65) (.bool false), .val 40 (some 66) (.slice (some ⟨Lb, 0, none⟩) 2 2), .val 41 (some 67) (.int .i64 (k : Int)), .idx 42 (some 68) 72 (.slice (some ⟨Lb, 0, none⟩) 2 2) (.int .i64 (k : Int)) (pt Lb (0 + k * 1)), .load 43 (some 69) 24 (pt Lb (0 + k * 1)) (p), .val 44 (some 70) (.int .i64 n)] ⟨fun W h => idx_sl Tryz.underlying72 (by kernel_rfl) HLTK.out, fun W h => ld_cell _ _ Tryz.underlying24 rfl (((h.at 0 rfl).cell (0 + k * 1)).trans HP.out), trivial⟩ hS ?_
      refine oD 45 22 (cD (some 71) 22 #[p, .int .i64 n] ((chnNext_no n _ (noC_of HPZ.out (hM.at 1 rfl))).mono ?_))
      rintro e Y16 ⟨rfl, hb⟩
      refine And.intro (hS.below hb) ?_
      replace hS := hS.below hb
      replace hM := hM.below hb
      clear hb
      refine tD 12 [.val 46 (some 72) (.bool false), .val 47 (some 73) (.bool false), .val 48 (some 74) (.bool false), .val 49 (some 75) (.slice (some ⟨Lb, 0, none⟩) 2 2), .val 50 (some 76) (.int .i64 (k : Int)), .idx 51 (some 77) 72 (.slice (some ⟨Lb, 0, none⟩) 2 2) (.int .i64 (k : Int)) (pt Lb (0 + k * 1)), .load 52 (some 78) 24 (pt Lb (0 + k * 1)) (p), .val 53 (some 79) (.int .i64 n), .val 54 (some 80) (.string s), .val 55 (some 81) (.int .i64 n)] ⟨fun W h => idx_sl Tryz.underlying72 (by kernel_rfl) HLTK.out, fun W h => ld_cell _ _ Tryz.underlying24 rfl (((h.at 0 rfl).cell (0 + k * 1)).trans HP.out), trivial⟩ hS ?_
      refine oD 56 11 (cD (some 82) 25 #[p, .int .i64 n, .string s, .int .i64 n] ((chnWaits_no n s n _ (noC_of HPZ.out (hM.at 1 rfl))).mono ?_))
      rintro e Y17 ⟨rfl, hb⟩
      refine And.intro (hS.below hb) ?_
      replace hS := hS.below hb
      replace hM := hM.below hb
      clear hb
      refine tD 4 [.val 57 (some 83) (.bool false), .val 58 (some 84) (.bool false), .val 59 (some 85) (.slice (some ⟨Lb, 0, none⟩) 2 2), .val 60 (some 86) (.int .i64 (k : Int)), .idx 61 (some 87) 72 (.slice (some ⟨Lb, 0, none⟩) 2 2) (.int .i64 (k : Int)) (pt Lb (0 + k * 1)), .load 62 (some 88) 24 (pt Lb (0 + k * 1)) (p), .val 64 (some 90) (stv zS nilV)] ⟨fun W h => idx_sl Tryz.underlying72 (by kernel_rfl) HLTK.out, fun W h => ld_cell _ _ Tryz.underlying24 rfl (((h.at 0 rfl).cell (0 + k * 1)).trans HP.out), trivial⟩ hS ?_
      refine oD 63 3 (cD (some 89) 20 #[p] ((chnState_no _ (noC_of HPZ.out (hM.at 1 rfl))).mono ?_))
      rintro e Y18 ⟨rfl, hb⟩
      refine And.intro (hS.below hb) ?_
      replace hS := hS.below hb
      replace hM := hM.below hb
      clear hb
      refine oD 65 2 (cD (some 91) 19 #[stv zS nilV, stv zS nilV] ((same13_any zS nilV nilV _ (RSl.nil 0 0 _) (Nat.zero_le _) (RSl.nil 0 0 _) (Nat.zero_le _)).mono ?_))
      rintro e Y19 ⟨rfl, hb⟩
      refine And.intro (hS.below hb) ?_
      replace hS := hS.below hb
      replace hM := hM.below hb
      clear hb
      refine tD 0 [.val 66 (some 92) (.bool false), .val 67 (some 93) (.bool false)] trivial hS ?_
      refine dD ?_
      try simp only [puts, Tk.put, Act.put, List.setIfInBounds_toArray, List.set_cons_zero, List.set_cons_succ]
      clear hS
      have hwr : IntKind.i64.wrap ((k : Int) + 1) = ((k + 1 : Nat) : Int) := (IntWalk.i64_in _ (by have := HLTK.out; omega)).trans (by omega)
      go_wp2_with fail
      go_roundw
      case rel => exact ⟨k + 1, HLTK.out, by go_num, hM⟩
      case measure => have := HLTK.out; simp [intOf]; omega
    · obtain rfl : k = 2 := by omega
      go_upto_region 4 with fail
      refine wp_region_fromM (fun W => Sep w [] [.blk Lb 24 ([.pointer none, .pointer (some ⟨Z, 0, none⟩)]), .blk Z 71 (lgc false zS (.slice none 0 0) (.slice none 0 0) 0 (.pointer none)), .blk T 44 (txc t)] W) hM ?_
      clear hM
      rintro Y20 hM
      refine tF 2 [.val 0 (some 14) (.int .i64 ((2 : Nat) : Int)), .val 1 (some 15) (.slice (some ⟨Lb, 0, none⟩) 2 2)] trivial ?_
      refine rF (some 16) (.int .i64 2) (Y20) ?_
      refine tF 4 [.val 3 (some 17) (.bool false)] trivial ?_
      refine dF ?_
      try simp only [puts, Tk.put, Act.put, List.setIfInBounds_toArray, List.set_cons_zero, List.set_cons_succ]
      go_upto_region 9 with fail
      refine wp_region_fromM (fun W => Sep w [] [.blk Lb 24 ([.pointer none, .pointer (some ⟨Z, 0, none⟩)]), .blk Z 71 (lgc false zS (.slice none 0 0) (.slice none 0 0) 0 (.pointer none)), .blk T 44 (txc t)] W) hM ?_
      clear hM
      rintro Y21 hM
      refine cF (some 94) 7 #[] ((alive13_any _).mono ?_)
      rintro e W1 ⟨rfl, hb⟩
      replace hM := hM.below hb
      clear hb
      refine tF 2 [.val 1 (some 6) (.bool true)] trivial ?_
      refine dF ?_
      try simp only [puts, Tk.put, Act.put, List.setIfInBounds_toArray, List.set_cons_zero, List.set_cons_succ]
      go_wp2_with fail
      go_ret
      exact ⟨rfl, hM.b⟩
end Go.Proofs.YtfoemkmoambagaaGreat
namespace Go.Proofs.YtfoemkmoambagaaGreat
open Go.ChangeShapes Go.WideShapes Go.ChangeAt Go.RowKit Go.Deep
open Go.ChangeMaps (open_string)
set_option maxRecDepth 100000 in
theorem chainNobody_lifted (os : Os) (started : os.Started) (H : Type) (enc : TypeId × Value → H) :
    ReturnsInHanded {} Tryz.checked os 5 .any (Rows.chainNobodySpec.pre6 enc Tryz.prog Tryz.f5 Rows.chainNobodyRow.domain false) (Rows.chainNobodySpec.post enc Tryz.prog Tryz.f5 false true false false) := by
  refine returnsInHanded_of_change_sized (C := Tryz.checked) Tryz.own started (by kernel_rfl) Tryz.func5
    (ChangeSpec.witness6 (enc := enc) (C := Tryz.checked) false ⟨#[], #[.agg #[.int .i64 0, .int .i64 0, .int .i64 0, .int .i64 0, .int .u64 0, .int .u64 0, .int .u64 0, .int .u64 0, .int .i64 0, .string ⟨#[]⟩, .int .i64 0, .int .i64 0, .int .i64 0, .int .i64 0, .string ⟨#[]⟩, .int .u64 0, .int .u64 0, .int .u64 0, .int .u64 0, .int .i64 0, .int .u64 0, .int .u64 0, .int .u64 0, .int .u64 0, .string ⟨#[]⟩], .int .i64 0, .string ⟨#[]⟩], []⟩ 8 (by kernel_rfl) (by kernel_rfl) (by kernel_rfl) (by kernel_rfl)) ?_
  intro W base args ds gs before hval0 hW hcnd hsz0 _
  have hval : ∀ (j : Nat) t v, Tryz.f5.params[j]? = some t → args[j]? = some v → Value.okWide Tryz.prog W .any base t v := hval0
  have hW' := hW
  obtain ⟨p, q, hA0, hV, rfl, hfz, hnd⟩ := hW
  have hA : DataW.TrodAll enc Tryz.prog W 0 (fun _ => true) true Tryz.f5.params.toList args.toList ds p := hA0
  have hsz : (DataW.weightsEach Tryz.prog (Tryz.f5.params.toList ++ Rows.chainNobodySpec.plain.varTypes Tryz.prog) (ds ++ gs)).all (· ≤ reachBytes) = true := hsz0
  rw [Tryz.params5] at hA hval hsz
  obtain ⟨v0, v1, v2, d0, d1, d2, p0, p1, p2, rfl, rfl, rfl, h0, h1, h2⟩ := trodAll_three hA
  obtain ⟨rfl, rfl⟩ := trodVars_none hV
  have k0 := h0
  have k1 := h1
  have k2 := h2
  have lt0 : ∀ x ∈ p0, x.block < W.heap.size := by obtain ⟨m, hm⟩ := k0; exact DataW.trod_lt m _ _ _ hm
  have lt1 : ∀ x ∈ p1, x.block < W.heap.size := by obtain ⟨m, hm⟩ := k1; exact DataW.trod_lt m _ _ _ hm
  have lt2 : ∀ x ∈ p2, x.block < W.heap.size := by obtain ⟨m, hm⟩ := k2; exact DataW.trod_lt m _ _ _ hm
  obtain ⟨i0, rfl, hx0⟩ := open_tx (hval 0 44 v0 rfl rfl) h0
  obtain ⟨z1, rfl, _, _, wf1⟩ := open_int Tryz.underlying3 (hval 1 3 v1 rfl rfl) h1
  obtain ⟨zl1, zh1⟩ := wf_i64 wf1
  obtain ⟨s2, rfl, ds2, _, _⟩ := open_string Tryz.underlying9 (hval 2 9 v2 rfl rfl) h2
  have hs2 : s2.size ≤ 140737488351232 := by
    have := sized_string hsz (j := 2) (t := 9) (bytes := s2.data.toList) rfl (by rw [ds2]; rfl)
    simp only [reachBytes] at this
    exact this
  clear hA0 hval0
  refine (chainNobody_any i0 z1 s2 W).mono fun e W' ⟨he, bel⟩ => ?_
  subst he
  exact ⟨_, rfl, _, _, _, [], _, [], hW', trodAll_mk1 (shut_bool Tryz.underlying4 _), (trodAll_mk3 (Below.trod Tryz.laidOut (by kernel_rfl) (of_decide_eq_true (by kernel_rfl)) k0 bel lt0) (Below.trod Tryz.laidOut (by kernel_rfl) (of_decide_eq_true (by kernel_rfl)) k1 bel lt1) (Below.trod Tryz.laidOut (by kernel_rfl) (of_decide_eq_true (by kernel_rfl)) k2 bel lt2)), rfl, bel.frame _, fun h => by cases h⟩
theorem chainNobody_over : Rows.chainNobodyRow.holds Tryz.pinned (OpenSpec.ofChange Rows.chainNobodySpec) :=
  OpenClaim.holds_of_wide 5 Tryz.f5 rfl rfl rfl rfl rfl rfl rfl ⟨rfl, rfl, rfl, rfl, rfl⟩ rfl rfl rfl rfl rfl (by kernel_rfl) Tryz.func5 (by kernel_rfl)
    (of_decide_eq_true (by kernel_rfl)) (by unfold Func.isWrapper; first | (rw [if_pos (by decide +kernel)]; kernel_rfl) | (rw [if_neg (by decide +kernel)]; exact ⟨rfl, rfl⟩))
    (fun os started H enc _ => chainNobody_lifted os started H enc)
theorem chainNobody_proved : Rows.ChainNobodySaid := chainNobody_over
end Go.Proofs.YtfoemkmoambagaaGreat
