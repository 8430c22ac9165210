/-
  The law: two states that are alike; The law: a state as the page's; The law: what is there at all; The laws: what a transaction leaves, said once; a row of locks that lies between two places of memory; What all readings of arguments share; A wide number among the arguments is four words; A number and a text have one cell each; Sizes within an argument; A transfer, and a side's data, among the argu
-/
import Derived.Test.YthhmdgmmeedhdaaGreatRows
import Derived.ProofKit
import Derived.OpenShut
import Derived.Laws.IdiomArrays
import Derived.Lib.SmallJoins
import Derived.Below
import Derived.Deep.Slices
import Derived.SizedLaws
import Derived.Carry
import Derived.ChangeMaps5
import Derived.JoinedCond
import Derived.Deep.Fields
import Derived.Outline
import Derived.Test.YthhmdgmmeedhdaaGreatK13
namespace Go.Proofs.YthhmdgmmeedhdaaGreat
open Go.RowKit Go.Shelf
attribute [local irreducible] wpFrom
theorem neD {ops : Array Oper} {Q : Exit → Act → World → Prop} {md : Region.Mode} {S : World → Prop} {T : TypeId} (x y : Operand) (z : TypeId) (d : Option Tmp) (xs : Array Value) {m i : Nat} {listed : Array Bool} {a : Act} {w : World} (he : (Op.equalIn 10000 T (.agg xs) (.agg xs)).run Tryz.prog w = .ok true w) (hS : S w) (h : wpAnyH Tryz.prog md ops Q S m (listed.setIfInBounds i true) (a.put d (.bool false)) w)
    (hm : Tryz.prog.eqGuardType Tryz.prog.depth T = false := by kernel_rfl) (hk : (ops[i]?).map (fun o => (Region.wanted o (yielded ops a.tmps), o.dst, o.op)) = some (true, d, .binOp .neq T x y z) := by kernel_rfl) (hx : a.eval x = .agg xs := by kernel_rfl) (hy : a.eval y = .agg xs := by kernel_rfl) : StepH Tryz.prog md ops Q S m listed a w i := by
  obtain ⟨o, _, _, _, hop, hr⟩ := op_at (P := Tryz.prog) hk
  refine stepH_run ((hr w).trans ?_) hS h
  unfold execOp
  simp only [hop, hx, hy, Sem.run_bind, run_eqGuard_agg w .neq T x y _ _ hm, run_neq_struct, he, Result.andThen_ok]
  rfl
section
variable {W : World} {B : Nat} {T : TypeId} {s : Es} {v : Value}
theorem ld_noA (h : Blk W B T (stc s v)) : (Instr.loadAt 31 (.pointer (some ⟨B, 130, none⟩))).run Tryz.prog W = .ok (.agg (noc s.no).toArray) W :=
  load_part h 130 (noc s.no) (by rw [noc_len]; exact st_no s v) _ _ Tryz.underlying31 rfl (by rw [noc_len]; kernel_rfl)
theorem ld_heA (h : Blk W B T (stc s v)) : (Instr.loadAt 28 (.pointer (some ⟨B, 138, none⟩))).run Tryz.prog W = .ok (.agg (rowB s.he 0 2).toArray) W :=
  load_part h 138 (hec s.he) (by rw [hec_len]; exact st_he s v) _ _ Tryz.underlying28 rfl (by rw [hec_len]; kernel_rfl)
end
theorem ld_lkE {W : World} {b o : Nat} {x : Lk} (hc : ∀ j u, (lkc x)[j]? = some u → W.cell? ⟨b, o + j, none⟩ = some u) : (Instr.loadAt 71 (.pointer (some ⟨b, o, none⟩))).run Tryz.prog W = .ok (.agg (lkc x).toArray) W := by
  have h := load_elem (f := lkc) (l := [x]) (k := 0) (x := x) (W := W) (b := b) (off := o) (show Row W b o (flatR lkc [x]) by rw [flat_one]; exact hc) lkc_len rfl 71 _ Tryz.underlying71 rfl (by kernel_rfl)
  rw [Nat.zero_mul, Nat.add_zero] at h
  exact h
theorem eq_lk (d : Nat) (x : Lk) (w : World) : (Op.equalIn (d + 2) 71 (.agg (lkc x).toArray) (.agg (lkc x).toArray)).run Tryz.prog w = .ok true w := by
  rw [run_equalIn_struct w (d + 1) 71 _ _ (by kernel_rfl) (by kernel_rfl)]
  simp only [Program.fieldsOf, Tryz.underlying71]
  have hi : ∀ y : Int, (Op.equalIn (d + 1) 3 (.int .i64 y) (.int .i64 y)).run Tryz.prog w = .ok true w := fun y => (run_equalIn_int w d 3 .i64 .i64 y y Tryz.underlying3).trans (by rw [beq_self_eq_true])
  have hs : ∀ y : ByteArray, (Op.equalIn (d + 1) 9 (.string y) (.string y)).run Tryz.prog w = .ok true w := fun y => (run_equalIn_string w d 9 y y Tryz.underlying9).trans (by rw [beq_self_eq_true])
  refine eqF_cons (r := true) (s := true) (by decide) (part_str _ _ _ rfl w) (part_str _ _ _ rfl w) (hs _) ?_
  refine eqF_cons (r := true) (s := true) (by decide) (part_str _ _ _ rfl w) (part_str _ _ _ rfl w) (hs _) ?_
  refine eqF_cons (r := true) (s := true) (by decide) (part_int _ _ _ rfl w) (part_int _ _ _ rfl w) (hi _) ?_
  exact eqF_nil
set_option maxRecDepth 100000 in
set_option maxHeartbeats 4000000 in
theorem same12_any (s : Es) (v1 v2 : Value) (w : World) {lo1 hi1 lo2 hi2 : Nat} (hl1 : RSl lkc lo1 hi1 w v1 s.lk) (hh1 : hi1 ≤ w.heap.size) (hl2 : RSl lkc lo2 hi2 w v2 s.lk) (hh2 : hi2 ≤ w.heap.size) :
    Calls Tryz.prog 14 #[stv s v1, stv s v2] w fun e W' => e = .returned (.bool true) ∧ Below w.heap.size w W' := by
  have hmx : Tryz.prog.follows .mixedOrders = true := by kernel_rfl
  have HE1 := Lib.hid (fun k x (hx : s.lk[k]? = some x) => hl1.elem lkc_len hx Tryz.underlying37 (fun W => by kernel_rfl))
  have HE2 := Lib.hid (fun k x (hx : s.lk[k]? = some x) => hl2.elem lkc_len hx Tryz.underlying37 (fun W => by kernel_rfl))
  have hmax := hl1.len
  obtain ⟨p1, c1, rfl⟩ := hl1.slice
  obtain ⟨p2, c2, rfl⟩ := hl2.slice
  have HL1 := Lib.hid hl1
  have HL2 := Lib.hid hl2
  unfold maxLen at hmax
  have HMX := Lib.hid hmax
  have HH1 := Lib.hid hh1
  have HH2 := Lib.hid hh2
  clear hl1 hl2 hmax hh1 hh2
  have hM := Mem.start w
  go_enter Tryz.func14, Tryz.ntmps14
  go_upto_region 0 with fail
  refine wp_region_fromM (fun W => Mem w none [] W) hM ?_
  clear hM
  rintro Y1 hM
  refine rF (some 2) (pt Y1.heap.size 0) (Y1.alloc (.cells (stc s (.slice p1 s.lk.length c1)).toArray 39)) ?_
  replace hM := hM.alloc 39 (stc s (.slice p1 s.lk.length c1))
  generalize World.alloc _ _ = Y2 at *
  generalize hNe : Y1.heap.size = P1 at *
  clear hNe
  refine rF (some 3) (pt Y2.heap.size 0) (Y2.alloc (.cells (stc s (.slice p2 s.lk.length c2)).toArray 39)) ?_
  replace hM := hM.alloc 39 (stc s (.slice p2 s.lk.length c2))
  generalize World.alloc _ _ = Y3 at *
  generalize hNe : Y2.heap.size = P2 at *
  clear hNe
  refine tF 3 [.val 2 (some 4) (.bool false)] trivial ?_
  refine dF ?_
  try simp only [puts, Tk.put, Act.put, List.setIfInBounds_toArray, List.set_cons_zero, List.set_cons_succ]
  go_upto_region 1 with fail
  refine wp_region_fromM (fun W => Mem w none [(P2, 39, stc s (.slice p2 s.lk.length c2)), (P1, 39, stc s (.slice p1 s.lk.length c1))] W) hM ?_
  clear hM
  rintro Y4 hM
  refine tF 17 [.val 0 (some 6) (pt P1 0), .load 1 (some 7) 3 (pt P1 0) (.int .i64 s.sd), .val 2 (some 8) (pt P2 0), .load 3 (some 9) 3 (pt P2 0) (.int .i64 s.sd), .alt 4 (some 10) (.bool (s.sd != s.sd)) (.bool false), .val 5 (some 11) (.bool false), .val 6 (some 12) (pt P1 1), .load 7 (some 13) 3 (pt P1 1) (.int .i64 s.tm), .val 8 (some 14) (pt P2 1), .load 9 (some 15) 3 (pt P2 1) (.int .i64 s.tm), .alt 10 (some 16) (.bool (s.tm != s.tm)) (.bool false), .val 11 (some 17) (.bool false), .val 12 (some 18) (.bool false), .val 13 (some 19) (pt P1 2), .load 14 (some 20) 36 (pt P1 2) (bkv s.pu), .val 15 (some 21) (pt P2 2), .load 16 (some 22) 36 (pt P2 2) (bkv s.pu)] ⟨ld_int (hM.at 1 rfl) 0 rfl, ld_int (hM.at 0 rfl) 0 rfl, congrArg Value.bool (bne_self_eq_false s.sd), ld_int (hM.at 1 rfl) 1 rfl, ld_int (hM.at 0 rfl) 1 rfl, congrArg Value.bool (bne_self_eq_false s.tm), rld_pu (s := s) (hM.at 1 rfl), rld_pu (s := s) (hM.at 0 rfl), trivial⟩ ?_
  refine neA (.tmp 20) (.tmp 22) 36 (some 23) (rowB s.pu 0 16).toArray (rowB s.pu 0 16).toArray true (eq_row (n := 16) Tryz.underlying36 9997 s.pu _) ?_
  refine tF 24 [.val 18 (some 24) (.bool false), .val 19 (some 25) (.bool false), .val 20 (some 26) (pt P1 66), .load 21 (some 27) 36 (pt P1 66) (bkv s.va), .val 22 (some 28) (pt P2 66), .load 23 (some 29) 36 (pt P2 66) (bkv s.va)] ⟨rld_va (s := s) (hM.at 1 rfl), rld_va (s := s) (hM.at 0 rfl), trivial⟩ ?_
  refine neA (.tmp 27) (.tmp 29) 36 (some 30) (rowB s.va 0 16).toArray (rowB s.va 0 16).toArray true (eq_row (n := 16) Tryz.underlying36 9997 s.va _) ?_
  refine tF 31 [.val 25 (some 31) (.bool false), .val 26 (some 32) (.bool false), .val 27 (some 33) (pt P1 130), .load 28 (some 34) 31 (pt P1 130) (.agg (noc s.no).toArray), .val 29 (some 35) (pt P2 130), .load 30 (some 36) 31 (pt P2 130) (.agg (noc s.no).toArray)] ⟨ld_noA (s := s) (hM.at 1 rfl), ld_noA (s := s) (hM.at 0 rfl), trivial⟩ ?_
  refine neA (.tmp 34) (.tmp 36) 31 (some 37) (noc s.no).toArray (noc s.no).toArray true (eq_no Tryz.underlying31 9998 s.no _) ?_
  refine tF 38 [.val 32 (some 38) (.bool false), .val 33 (some 39) (.bool false), .val 34 (some 40) (pt P1 138), .load 35 (some 41) 28 (pt P1 138) (.agg (rowB s.he 0 2).toArray), .val 36 (some 42) (pt P2 138), .load 37 (some 43) 28 (pt P2 138) (.agg (rowB s.he 0 2).toArray)] ⟨ld_heA (s := s) (hM.at 1 rfl), ld_heA (s := s) (hM.at 0 rfl), trivial⟩ ?_
  refine neA (.tmp 41) (.tmp 43) 28 (some 44) (rowB s.he 0 2).toArray (rowB s.he 0 2).toArray true (eq_row (n := 2) Tryz.underlying28 9997 s.he _) ?_
  refine tF 45 [.val 39 (some 45) (.bool false), .val 40 (some 46) (.bool false), .val 41 (some 47) (pt P1 146), .load 42 (some 48) 27 (pt P1 146) (wn s.bu), .val 43 (some 49) (pt P2 146), .load 44 (some 50) 27 (pt P2 146) (wn s.bu)] ⟨rld_bu (s := s) (hM.at 1 rfl), rld_bu (s := s) (hM.at 0 rfl), trivial⟩ ?_
  refine neA (.tmp 48) (.tmp 50) 27 (some 51) (ws (nw s.bu)).toArray (ws (nw s.bu)).toArray true (eq_wn 9998 s.bu _) ?_
  refine tF 50 [.val 46 (some 52) (.bool false), .val 47 (some 53) (.bool false), .val 48 (some 54) (pt P1 150), .load 49 (some 55) 37 (pt P1 150) ((.slice p1 s.lk.length c1))] ⟨rld_lk (s := s) (hM.at 1 rfl), trivial⟩ ?_
  refine rF (some 56) (.int .i64 s.lk.length) (Y4) ?_
  refine tF 53 [.val 51 (some 57) (pt P2 150), .load 52 (some 58) 37 (pt P2 150) ((.slice p2 s.lk.length c2))] ⟨rld_lk (s := s) (hM.at 0 rfl), trivial⟩ ?_
  refine rF (some 59) (.int .i64 s.lk.length) (Y4) ?_
  refine tF 56 [.alt 54 (some 60) (.bool ((s.lk.length : Int) != (s.lk.length : Int))) (.bool false), .val 55 (some 61) (.bool false)] ⟨congrArg Value.bool (bne_self_eq_false _), trivial⟩ ?_
  refine dF ?_
  try simp only [puts, Tk.put, Act.put, List.setIfInBounds_toArray, List.set_cons_zero, List.set_cons_succ]
  go_wp2_with fail
  go_loopw [5] (fun i wr => ∃ k : Nat, k ≤ s.lk.length ∧ i = .int .i64 (k : Nat) ∧ Mem w none [(P2, 39, stc s (.slice p2 s.lk.length c2)), (P1, 39, stc s (.slice p1 s.lk.length c1))] wr) (fun i _ => s.lk.length - (intOf i).toNat)
  case atStart => exact ⟨0, Nat.zero_le _, rfl, hM⟩
  clear hM
  case round =>
    obtain ⟨k, hk, rfl, hM⟩ := hrel
    by_cases hlt : k < s.lk.length
    · obtain ⟨x, hx⟩ : ∃ x, s.lk[k]? = some x := ⟨_, List.getElem?_eq_getElem hlt⟩
      obtain ⟨b1, o1, _, _, hi1, hc1⟩ := HE1.out k x hx
      obtain ⟨b2, o2, _, _, hi2, hc2⟩ := HE2.out k x hx
      have HI1 := Lib.hid hi1
      have HC1 := Lib.hid hc1
      have HI2 := Lib.hid hi2
      have HC2 := Lib.hid hc2
      have hlt' : (k : Int) < (s.lk.length : Int) := by omega
      have HLT := Lib.hid hlt
      clear hx hi1 hc1 hi2 hc2 hlt
      go_upto_region 4 with fail
      refine wp_region_fromM (fun W => Mem w none [(P2, 39, stc s (.slice p2 s.lk.length c2)), (P1, 39, stc s (.slice p1 s.lk.length c1))] W) hM ?_
      clear hM
      rintro Y5 hM
      refine tF 3 [.val 0 (some 62) (.int .i64 (k : Int)), .val 1 (some 63) (pt P1 150), .load 2 (some 64) 37 (pt P1 150) ((.slice p1 s.lk.length c1))] ⟨rld_lk (s := s) (hM.at 1 rfl), trivial⟩ ?_
      refine rF (some 65) (.int .i64 s.lk.length) (Y5) ?_
      refine tF 5 [.alt 4 (some 66) (.bool (decide ((k : Int) < (s.lk.length : Int)))) (.bool true)] ⟨congrArg Value.bool (decide_eq_true hlt'), trivial⟩ ?_
      refine dF ?_
      try simp only [puts, Tk.put, Act.put, List.setIfInBounds_toArray, List.set_cons_zero, List.set_cons_succ]
      go_upto_region 6 with fail
      refine wp_region_M (fun W => Mem w none [(P2, 39, stc s (.slice p2 s.lk.length c2)), (P1, 39, stc s (.slice p1 s.lk.length c1))] W) (fun W => Mem w none [(P2, 39, stc s (.slice p2 s.lk.length c2)), (P1, 39, stc s (.slice p1 s.lk.length c1))] W) hmx hM.drew ?_
      clear hM
      rintro Y6 hM
      have hS := hM.sub (.cons_cons _ (.cons_cons _ .slnil))
      refine tD 1 [.val 0 (some 69) (pt P1 150), .load 1 (some 70) 37 (pt P1 150) ((.slice p1 s.lk.length c1)), .val 2 (some 71) (.int .i64 (k : Int)), .idx 3 (some 72) 37 ((.slice p1 s.lk.length c1)) (.int .i64 (k : Int)) (pt b1 o1), .load 4 (some 73) 71 (pt b1 o1) (.agg (lkc x).toArray), .val 5 (some 74) (pt P2 150), .load 6 (some 75) 37 (pt P2 150) ((.slice p2 s.lk.length c2)), .val 7 (some 76) (.int .i64 (k : Int)), .idx 8 (some 77) 37 ((.slice p2 s.lk.length c2)) (.int .i64 (k : Int)) (pt b2 o2), .load 9 (some 78) 71 (pt b2 o2) (.agg (lkc x).toArray)] ⟨fun W h => rld_lk (s := s) (h.at 1 rfl), fun W h => HI1.out _, fun W h => ld_lkE (HC1.out _ (HL1.out.below h.b HH1.out)), fun W h => rld_lk (s := s) (h.at 0 rfl), fun W h => HI2.out _, fun W h => ld_lkE (HC2.out _ (HL2.out.below h.b HH2.out)), trivial⟩ hS ?_
      refine oD 10 0 (neD (.tmp 73) (.tmp 78) 71 (some 79) (lkc x).toArray (eq_lk 9998 x _) hS ?_)
      refine dD ?_
      try simp only [puts, Tk.put, Act.put, List.setIfInBounds_toArray, List.set_cons_zero, List.set_cons_succ]
      clear hS
      have hmx2 := HMX.out
      have hlt2 := HLT.out
      have hwr : IntKind.i64.wrap ((k : Int) + 1) = ((k + 1 : Nat) : Int) := (IntWalk.i64_in _ (by omega)).trans (by omega)
      go_wp2_with fail
      go_roundw
      case rel => exact ⟨k + 1, HLT.out, by go_num, hM⟩
      case measure => have := HLT.out; simp [intOf]; omega
    · obtain rfl : k = s.lk.length := by omega
      go_upto_region 4 with fail
      refine wp_region_fromM (fun W => Mem w none [(P2, 39, stc s (.slice p2 s.lk.length c2)), (P1, 39, stc s (.slice p1 s.lk.length c1))] W) hM ?_
      clear hM
      rintro Y7 hM
      refine tF 3 [.val 0 (some 62) (.int .i64 (s.lk.length : Int)), .val 1 (some 63) (pt P1 150), .load 2 (some 64) 37 (pt P1 150) ((.slice p1 s.lk.length c1))] ⟨rld_lk (s := s) (hM.at 1 rfl), trivial⟩ ?_
      refine rF (some 65) (.int .i64 s.lk.length) (Y7) ?_
      refine tF 5 [.alt 4 (some 66) (.bool (decide ((s.lk.length : Int) < (s.lk.length : Int)))) (.bool false)] ⟨congrArg Value.bool (decide_eq_false (by omega)), trivial⟩ ?_
      refine dF ?_
      try simp only [puts, Tk.put, Act.put, List.setIfInBounds_toArray, List.set_cons_zero, List.set_cons_succ]
      go_wp2_with fail
      go_ret
      exact ⟨rfl, hM.b⟩
end Go.Proofs.YthhmdgmmeedhdaaGreat
namespace Go.Proofs.YthhmdgmmeedhdaaGreat
open Go.RowKit Go.Shelf
attribute [local irreducible] wpFrom
theorem idx_pb {W : World} {B o k : Nat} (hk : k < 8) : (Instr.indexAt 30 (.pointer (some ⟨B, o, none⟩)) (.int .i64 (k : Int))).run Tryz.prog W = .ok (.pointer (some ⟨B, o + k * 8, none⟩)) W :=
  idx_arr Tryz.underlying30 (by kernel_rfl) hk
theorem idx_p2 {W : World} {B o k : Nat} (hk : k < 2) : (Instr.indexAt 28 (.pointer (some ⟨B, o, none⟩)) (.int .i64 (k : Int))).run Tryz.prog W = .ok (.pointer (some ⟨B, o + k * 4, none⟩)) W :=
  idx_arr Tryz.underlying28 (by kernel_rfl) hk
section
variable {W : World} {B : Nat} {T : TypeId} {s : Es} {v : Value}
theorem ld_puS (h : Blk W B T (stc s v)) {j o : Nat} (hj : j < 16) (ho : o = 2 + 4 * j) : (Instr.loadAt 27 (.pointer (some ⟨B, o, none⟩))).run Tryz.prog W = .ok (wn (s.pu j)) W := by
  subst ho
  exact load_part h (2 + 4 * j) (ws (nw (s.pu j))) (by rw [ws_len]; exact st_puS s v hj) _ _ Tryz.underlying27 rfl (by rw [ws_len]; exact info_wide)
theorem ld_vaS (h : Blk W B T (stc s v)) {j o : Nat} (hj : j < 16) (ho : o = 66 + 4 * j) : (Instr.loadAt 27 (.pointer (some ⟨B, o, none⟩))).run Tryz.prog W = .ok (wn (s.va j)) W := by
  subst ho
  exact load_part h (66 + 4 * j) (ws (nw (s.va j))) (by rw [ws_len]; exact st_vaS s v hj) _ _ Tryz.underlying27 rfl (by rw [ws_len]; exact info_wide)
theorem sto_puS (h : Blk W B T (stc s v)) {j o : Nat} (hj : j < 16) (ho : o = 2 + 4 * j) (n : Nat) : (Instr.storeAt 27 (.pointer (some ⟨B, o, none⟩)) (wn n)).run Tryz.prog W = .ok () (W.setRow B (stc { s with pu := updB s.pu j n } v).toArray) := by
  subst ho
  exact sto_part _ h (2 + 4 * j) _ _ (ws (nw n)) rfl (by rw [ws_len]; exact info_wide) (by rw [ws_len, stc_len]; omega) rfl (set_puS s v n hj)
theorem sto_vaS (h : Blk W B T (stc s v)) {j o : Nat} (hj : j < 16) (ho : o = 66 + 4 * j) (n : Nat) : (Instr.storeAt 27 (.pointer (some ⟨B, o, none⟩)) (wn n)).run Tryz.prog W = .ok () (W.setRow B (stc { s with va := updB s.va j n } v).toArray) := by
  subst ho
  exact sto_part _ h (66 + 4 * j) _ _ (ws (nw n)) rfl (by rw [ws_len]; exact info_wide) (by rw [ws_len, stc_len]; omega) rfl (set_vaS s v n hj)
end
def plS (s : Es) (k : Nat) : Es := { s with pu := fun i => if i < k then s.pu i else 0, va := fun i => if i < k then s.va i else 0 }
theorem half2 (k : Nat) : Int.tdiv (k : Int) 2 = ((k / 2 : Nat) : Int) := by
  rw [Int.tdiv_eq_ediv_of_nonneg (by omega)]
  omega
theorem odd2 (k : Nat) : Int.tmod (k : Int) 2 = ((k % 2 : Nat) : Int) := by
  rw [Int.tmod_eq_emod_of_nonneg (by omega)]
  omega
theorem plS_next (s : Es) (k : Nat) : { plS s k with pu := updB (plS s k).pu k (s.pu k), va := updB (plS s k).va k (s.va k) } = plS s (k + 1) := by
  have e : ∀ b : Bk, updB (fun i => if i < k then b i else 0) k (b k) = fun i => if i < k + 1 then b i else 0 := fun b => by
    funext i
    unfold updB
    by_cases h : i = k
    · subst h; simp
    · by_cases h2 : i < k
      · simp [h, h2, show i < k + 1 by omega]
      · simp [h, h2, show ¬ i < k + 1 by omega]
  show ({ s with pu := updB (fun i => if i < k then s.pu i else 0) k (s.pu k), va := updB (fun i => if i < k then s.va i else 0) k (s.va k) } : Es) = _
  rw [e s.pu, e s.va]
  rfl
theorem plS_all (s : Es) (v : Value) : stc (plS s 16) v = stc s v := by kernel_rfl
theorem res_rst {fn : Func} {p : Tmp} (h : fn.results = #[.cell p 39]) (tmps : Array Value) {w : World} {g : Nat} {T : TypeId} {s : Es} {v : Value} (hp : tmps.getD p undef = .pointer (some ⟨g, 0, none⟩)) (hg : Blk w g T (stc s v)) :
    (results fn tmps).run Tryz.prog w = .ok (stv s v) w :=
  results_cell_row h tmps w g T (stc s v).toArray (0, 0) _ hp hg Tryz.underlying39 rfl (by rw [List.size_toArray, stc_len]; exact rinfo_st)
def SzGe (n : Nat) (W : World) : Prop := n ≤ W.heap.size
theorem SzGe.drew {n : Nat} {W : World} (h : SzGe n W) : SzGe n W.drew := h
theorem SzGe.alloc {n : Nat} {W : World} (h : SzGe n W) (c : Obj) : SzGe n (W.alloc c) := Nat.le_trans h (chainA (Below.refl _ W) c).size
theorem SzGe.grown {n : Nat} {W W' : World} {r : Option Nat} (h : SzGe n W) (hg : W.grownBy W' r) : SzGe n W' := Nat.le_trans h hg.size
def PlainR (s : Es) (w : World) (e : Ending) (W' : World) : Prop := ∃ v', e = .returned (stv s v') ∧ OwnM w.heap.size W' v' s.lk ∧ Below w.heap.size w W'
set_option maxRecDepth 100000 in
set_option maxHeartbeats 4000000 in
theorem plain12_any (s : Es) (v : Value) (w : World) {lo hi : Nat} (hl : RSl lkc lo hi w v s.lk) (hhi : hi ≤ w.heap.size) (hr : (s.lk.length + 1) * 40 ≤ 140737488355328) :
    Calls Tryz.prog 10 #[stv s v] w (PlainR s w) := by
  have hmx : Tryz.prog.follows .mixedOrders = true := by kernel_rfl
  have HE := Lib.hid (fun k x (hx : s.lk[k]? = some x) => hl.elem lkc_len hx Tryz.underlying32 (fun W => by kernel_rfl))
  have hmax := hl.len
  obtain ⟨p1, c1, rfl⟩ := hl.slice
  have HL := Lib.hid hl
  unfold maxLen at hmax
  have HMX := Lib.hid hmax
  have HH := Lib.hid hhi
  have HR := Lib.hid hr
  clear hl hmax hhi hr
  have hM := Mem.start w
  go_enter Tryz.func10, Tryz.ntmps10
  go_upto_region 0 with fail
  refine wp_region_fromM (fun W => Mem w none [] W) hM ?_
  clear hM
  rintro Y1 hM
  refine rF (some 1) (pt Y1.heap.size 0) (Y1.alloc (.cells (stc s (.slice p1 s.lk.length c1)).toArray 34)) ?_
  replace hM := hM.alloc 34 (stc s (.slice p1 s.lk.length c1))
  generalize World.alloc _ _ = Y2 at *
  generalize hNe : Y1.heap.size = P at *
  clear hNe
  refine rF (some 2) (pt Y2.heap.size 0) (Y2.alloc (.cells (stc zS nilV).toArray 39)) ?_
  replace hM := hM.alloc 39 (stc zS nilV)
  generalize World.alloc _ _ = Y3 at *
  generalize hNe : Y2.heap.size = R at *
  clear hNe
  refine dF ?_
  try simp only [Act.put, List.setIfInBounds_toArray, List.set_cons_zero, List.set_cons_succ]
  go_upto_region 1 with fail
  refine wp_region_fromM (fun W => Mem w none [(R, 39, stc zS nilV), (P, 34, stc s (.slice p1 s.lk.length c1))] W) hM ?_
  clear hM
  rintro Y4 hM
  refine tF 11 [.val 0 (some 6) (pt P 0), .load 1 (some 7) 3 (pt P 0) (.int .i64 s.sd), .val 2 (some 8) (pt P 1), .load 3 (some 9) 3 (pt P 1) (.int .i64 s.tm), .val 4 (some 10) (pt P 130), .load 5 (some 11) 31 (pt P 130) (.agg (noc s.no).toArray), .val 6 (some 12) (pt P 138), .load 7 (some 13) 28 (pt P 138) (.agg (rowB s.he 0 2).toArray), .val 8 (some 14) (pt P 146), .load 9 (some 15) 27 (pt P 146) (wn s.bu), .val 10 (some 16) (stv { s with pu := noK, va := noK } nilV)] ⟨ld_int (hM.at 1 rfl) 0 rfl, ld_int (hM.at 1 rfl) 1 rfl, ld_noA (s := s) (hM.at 1 rfl), ld_heA (s := s) (hM.at 1 rfl), ld_bu (s := s) (hM.at 1 rfl), trivial⟩ ?_
  refine rF (some 3) (pt Y4.heap.size 0) (Y4.alloc (.cells (stc zS nilV).toArray 39)) ?_
  replace hM := hM.alloc 39 (stc zS nilV)
  generalize World.alloc _ _ = Y5 at *
  generalize hNe : Y4.heap.size = X at *
  clear hNe
  refine sF 39 (pt X 0) (stv { s with pu := noK, va := noK } nilV) (rsto_st (hM.at 0 rfl) (stc_len _ _) { s with pu := noK, va := noK } rfl) ?_
  replace hM := hM.set 0 (cs' := stc { s with pu := noK, va := noK } nilV) rfl rfl
  generalize World.setRow _ _ _ = Y6 at *
  refine dF ?_
  try simp only [puts, Tk.put, Act.put, List.setIfInBounds_toArray, List.set_cons_zero, List.set_cons_succ]
  rw [show stc { s with pu := noK, va := noK } nilV = stc (plS s 0) nilV from by unfold plS; simp only [Nat.not_lt_zero, if_false]] at hM
  go_wp2_with fail
  go_loopw [4] (fun i wr => ∃ k : Nat, k ≤ 16 ∧ i = .int .i64 (k : Nat) ∧ Mem w none [(X, 39, stc (plS s k) nilV), (R, 39, stc zS nilV), (P, 34, stc s (.slice p1 s.lk.length c1))] wr) (fun i _ => 16 - (intOf i).toNat)
  case atStart => exact ⟨0, Nat.zero_le _, rfl, hM⟩
  clear hM
  case round =>
    obtain ⟨k, hk, rfl, hM⟩ := hrel
    by_cases hlt : k < 16
    · have hlt' : (k : Int) < 16 := by omega
      go_upto_region 3 with fail
      refine wp_region_fromM (fun W => Mem w none [(X, 39, stc (plS s k) nilV), (R, 39, stc zS nilV), (P, 34, stc s (.slice p1 s.lk.length c1))] W) hM ?_
      clear hM
      rintro Y7 hM
      refine tF 2 [.val 0 (some 17) (.int .i64 (k : Int)), .alt 1 (some 18) (.bool (decide ((k : Int) < 16))) (.bool true)] ⟨congrArg Value.bool (decide_eq_true hlt'), trivial⟩ ?_
      refine dF ?_
      try simp only [puts, Tk.put, Act.put, List.setIfInBounds_toArray, List.set_cons_zero, List.set_cons_succ]
      go_upto_region 5 with fail
      refine wp_region_M (fun W => Mem w none [(P, 34, stc s (.slice p1 s.lk.length c1))] W) (fun W => Mem w none [(X, 39, stc (plS s k) nilV), (R, 39, stc zS nilV), (P, 34, stc s (.slice p1 s.lk.length c1))] W) hmx hM.drew ?_
      clear hM
      rintro Y8 hM
      have hS := hM.sub (.cons _ (.cons _ (.cons_cons _ .slnil)))
      refine tD 3 [.val 0 (some 21) (.int .i64 (k : Int)), .val 1 (some 22) (.int .i64 (k : Int)), .val 2 (some 23) (.int .i64 (k : Int)), .alt 3 (some 24) (.int .i64 (IntKind.i64.wrap (Int.tdiv (k : Int) 2))) (.int .i64 ((k / 2 : Nat) : Int)), .val 4 (some 25) (.int .i64 (k : Int)), .alt 5 (some 26) (.int .i64 (Int.tmod (k : Int) 2)) (.int .i64 ((k % 2 : Nat) : Int)), .val 6 (some 27) (pt P 2), .idx 7 (some 28) 30 (pt P 2) (.int .i64 ((k / 2 : Nat) : Int)) (pt P (2 + k / 2 * 8)), .idx 8 (some 29) 28 (pt P (2 + k / 2 * 8)) (.int .i64 ((k % 2 : Nat) : Int)) (pt P (2 + k / 2 * 8 + k % 2 * 4)), .load 9 (some 30) 27 (pt P (2 + k / 2 * 8 + k % 2 * 4)) (wn (s.pu k)), .val 10 (some 31) (.int .i64 (k : Int)), .alt 11 (some 32) (.int .i64 (IntKind.i64.wrap (Int.tdiv (k : Int) 2))) (.int .i64 ((k / 2 : Nat) : Int)), .val 12 (some 33) (.int .i64 (k : Int)), .alt 13 (some 34) (.int .i64 (Int.tmod (k : Int) 2)) (.int .i64 ((k % 2 : Nat) : Int)), .val 14 (some 35) (pt P 66), .idx 15 (some 36) 30 (pt P 66) (.int .i64 ((k / 2 : Nat) : Int)) (pt P (66 + k / 2 * 8)), .idx 16 (some 37) 28 (pt P (66 + k / 2 * 8)) (.int .i64 ((k % 2 : Nat) : Int)) (pt P (66 + k / 2 * 8 + k % 2 * 4)), .load 17 (some 38) 27 (pt P (66 + k / 2 * 8 + k % 2 * 4)) (wn (s.va k)), .val 18 (some 39) (pt X 2), .idx 19 (some 40) 36 (pt X 2) (.int .i64 (k : Int)) (pt X (2 + k * 4)), .val 21 (some 41) (pt X 66)] ⟨congrArg (Value.int .i64) ((IntWalk.i64_in _ (by rw [half2]; omega)).trans (half2 k)), congrArg (Value.int .i64) (odd2 k), fun W h => idx_pb (by omega), fun W h => idx_p2 (by omega), fun W h => ld_puS (s := s) (h.at 0 rfl) hlt (by omega), congrArg (Value.int .i64) ((IntWalk.i64_in _ (by rw [half2]; omega)).trans (half2 k)), congrArg (Value.int .i64) (odd2 k), fun W h => idx_pb (by omega), fun W h => idx_p2 (by omega), fun W h => ld_vaS (s := s) (h.at 0 rfl) hlt (by omega), fun W h => ridx_16 hlt, trivial⟩ hS ?_
      have hM1 := hM.set 0 (cs' := stc ({ plS s k with pu := updB (plS s k).pu k (s.pu k) }) nilV) rfl rfl
      refine oD 20 2 (sD 27 (pt X (2 + k * 4)) (wn (s.pu k)) (sto_puS (s := plS s k) (hM.at 0 rfl) hlt (by omega) _) (hM1.sub (.cons _ (.cons _ (.cons_cons _ .slnil)))) ?_)
      replace hS := hM1.sub (.cons _ (.cons _ (.cons_cons _ .slnil)))
      replace hM := hM1
      clear hM1
      generalize World.setRow _ _ _ = Y9 at *
      refine tD 1 [.idx 22 (some 42) 36 (pt X 66) (.int .i64 (k : Int)) (pt X (66 + k * 4))] ⟨fun W h => ridx_16 hlt, trivial⟩ hS ?_
      have hM1 := hM.set 0 (cs' := stc ({ plS s k with pu := updB (plS s k).pu k (s.pu k), va := updB (plS s k).va k (s.va k) }) nilV) rfl rfl
      refine oD 23 0 (sD 27 (pt X (66 + k * 4)) (wn (s.va k)) (sto_vaS (s := { plS s k with pu := updB (plS s k).pu k (s.pu k) }) (hM.at 0 rfl) hlt (by omega) _) (hM1.sub (.cons _ (.cons _ (.cons_cons _ .slnil)))) ?_)
      replace hS := hM1.sub (.cons _ (.cons _ (.cons_cons _ .slnil)))
      replace hM := hM1
      clear hM1
      generalize World.setRow _ _ _ = Y10 at *
      refine dD ?_
      try simp only [puts, Tk.put, Act.put, List.setIfInBounds_toArray, List.set_cons_zero, List.set_cons_succ]
      clear hS
      rw [plS_next s k] at hM
      have hwr : IntKind.i64.wrap ((k : Int) + 1) = ((k + 1 : Nat) : Int) := (IntWalk.i64_in _ (by omega)).trans (by omega)
      go_wp2_with fail
      go_roundw
      case rel => exact ⟨k + 1, hlt, by go_num, hM⟩
      case measure => simp [intOf]; omega
    · obtain rfl : k = 16 := by omega
      rw [plS_all s nilV] at hM
      go_upto_region 3 with fail
      refine wp_region_fromM (fun W => Mem w none [(X, 39, stc s nilV), (R, 39, stc zS nilV), (P, 34, stc s (.slice p1 s.lk.length c1))] W) hM ?_
      clear hM
      rintro Y11 hM
      refine tF 2 [.val 0 (some 17) (.int .i64 ((16 : Nat) : Int)), .val 1 (some 18) (.bool false)] trivial ?_
      refine dF ?_
      try simp only [puts, Tk.put, Act.put, List.setIfInBounds_toArray, List.set_cons_zero, List.set_cons_succ]
      have hXE := (hM.at 0 rfl).lt
      have hRE := (hM.at 1 rfl).lt
      have hPE := (hM.at 2 rfl).lt
      have hEs := hM.size
      go_wp2_with fail
      go_loopw [5] (fun i wr => ∃ (j : Nat) (v' : Value), j ≤ s.lk.length ∧ i = .int .i64 (j : Nat) ∧ Mem w none [(X, 39, stc s v'), (R, 39, stc zS nilV), (P, 34, stc s (.slice p1 s.lk.length c1))] wr ∧ OwnM Y11.heap.size wr v' (s.lk.take j) ∧ SzGe Y11.heap.size wr) (fun i _ => s.lk.length - (intOf i).toNat)
      case atStart => exact ⟨0, nilV, Nat.zero_le _, rfl, hM, World.ownsRow_nil _ _ _ _, Nat.le_refl _⟩
      clear hM
      case round =>
        obtain ⟨j, v', hj, rfl, hM, hO, hZ⟩ := hrel
        by_cases hlt : j < s.lk.length
        · obtain ⟨x, hx⟩ : ∃ x, s.lk[j]? = some x := ⟨_, List.getElem?_eq_getElem hlt⟩
          obtain ⟨b, o, _, _, hi', hc⟩ := HE.out j x hx
          have HI := Lib.hid hi'
          have HC := Lib.hid hc
          have HX := Lib.hid hx
          have hlt' : (j : Int) < (s.lk.length : Int) := by omega
          have HLT := Lib.hid hlt
          clear hx hi' hc hlt
          go_upto_region 7 with fail
          refine wp_region_fromM (fun W => Mem w none [(X, 39, stc s v'), (R, 39, stc zS nilV), (P, 34, stc s (.slice p1 s.lk.length c1))] W ∧ OwnM Y11.heap.size W v' (s.lk.take j) ∧ SzGe Y11.heap.size W) ⟨hM, hO, hZ⟩ ?_
          clear hM hO hZ
          rintro Y12 ⟨hM, hO, hZ⟩
          refine tF 3 [.val 0 (some 43) (.int .i64 (j : Int)), .val 1 (some 44) (pt P 150), .load 2 (some 45) 32 (pt P 150) ((.slice p1 s.lk.length c1))] ⟨ld_lk (s := s) (hM.at 2 rfl), trivial⟩ ?_
          refine rF (some 46) (.int .i64 s.lk.length) (Y12) ?_
          refine tF 5 [.alt 4 (some 47) (.bool (decide ((j : Int) < (s.lk.length : Int)))) (.bool true)] ⟨congrArg Value.bool (decide_eq_true hlt'), trivial⟩ ?_
          refine dF ?_
          try simp only [puts, Tk.put, Act.put, List.setIfInBounds_toArray, List.set_cons_zero, List.set_cons_succ]
          have htk : s.lk.take j ++ [x] = s.lk.take (j + 1) := by rw [List.take_add_one, HX.out]; rfl
          have HTK := Lib.hid htk
          clear htk
          go_upto_region 9 with fail
          refine wp_region_M (fun W => Mem w none [(R, 39, stc zS nilV), (P, 34, stc s (.slice p1 s.lk.length c1))] W) (fun W => Mem w none [(X, 39, stc s v'), (R, 39, stc zS nilV), (P, 34, stc s (.slice p1 s.lk.length c1))] W ∧ OwnM Y11.heap.size W v' (s.lk.take j) ∧ SzGe Y11.heap.size W) hmx ⟨hM.drew, hO.drew, hZ.drew⟩ ?_
          clear hM hO hZ
          rintro Y13 ⟨hM, hO, hZ⟩
          have hS := hM.sub (.cons _ (.cons_cons _ (.cons_cons _ .slnil)))
          refine tD 5 [.val 0 (some 50) (pt X 150), .val 2 (some 52) (pt P 150), .load 3 (some 53) 32 (pt P 150) ((.slice p1 s.lk.length c1)), .val 4 (some 54) (.int .i64 (j : Int)), .idx 5 (some 55) 32 ((.slice p1 s.lk.length c1)) (.int .i64 (j : Int)) (pt b o), .val 6 (some 56) (pt b o), .load 7 (some 57) 9 (pt b o) (.string x.ke), .val 8 (some 58) (pt P 150), .load 9 (some 59) 32 (pt P 150) ((.slice p1 s.lk.length c1)), .val 10 (some 60) (.int .i64 (j : Int)), .idx 11 (some 61) 32 ((.slice p1 s.lk.length c1)) (.int .i64 (j : Int)) (pt b o), .val 12 (some 62) (pt b (o + 1)), .load 13 (some 63) 9 (pt b (o + 1)) (.string x.dg), .val 14 (some 64) (pt P 150), .load 15 (some 65) 32 (pt P 150) ((.slice p1 s.lk.length c1)), .val 16 (some 66) (.int .i64 (j : Int)), .idx 17 (some 67) 32 ((.slice p1 s.lk.length c1)) (.int .i64 (j : Int)) (pt b o), .val 18 (some 68) (pt b (o + 2)), .load 19 (some 69) 3 (pt b (o + 2)) (.int .i64 x.st), .val 20 (some 70) (lkv x)] ⟨fun W h => ld_lk (s := s) (h.at 1 rfl), fun W h => HI.out _, fun W h => ld_cell _ _ Tryz.underlying9 rfl (HC.out _ (HL.out.below h.b HH.out) 0 _ rfl), fun W h => ld_lk (s := s) (h.at 1 rfl), fun W h => HI.out _, fun W h => ld_cell _ _ Tryz.underlying9 rfl (HC.out _ (HL.out.below h.b HH.out) 1 _ rfl), fun W h => ld_lk (s := s) (h.at 1 rfl), fun W h => HI.out _, fun W h => ld_cell _ _ Tryz.underlying3 rfl (HC.out _ (HL.out.below h.b HH.out) 2 _ rfl), trivial⟩ hS ?_
          refine oT 1 21 4 ?_ ?_
          · refine lD (some 51) 37 (pt X 150) (v') (rld_lk (s := s) (hM.at 0 rfl)) (hS) ?_
            refine oD 21 3 (rD (some 71) (.slice (some ⟨Y13.heap.size, 0, none⟩) 1 1) (Y13.alloc (.cells (lkc x).toArray 71)) (hS.other (.cells (lkc x).toArray 71)) ?_)
            replace hS := hS.other (.cells (lkc x).toArray 71)
            have hk1 : ∀ q, v'.ownBlock = some q → Y11.heap.size ≤ q ∧ q < Y13.heap.size := fun q hq => World.ownsRow.lt hO q hq
            replace hM := hM.alloc 71 (lkc x)
            replace hO := hO.alloc (.cells (lkc x).toArray 71)
            replace hZ := hZ.alloc (.cells (lkc x).toArray 71)
            generalize World.alloc _ _ = Y14 at *
            generalize hNe : Y13.heap.size = N at *
            clear hNe
            obtain ⟨v2, W3, hrun2, hO2, hg2⟩ := rown_append hO hZ x (hM.at 0 rfl) (by have := HR.out; rw [List.length_take]; omega) 37
            rw [HTK.out] at hO2
            have hM3 := hM.own hg2 (fun q hq => ⟨by have := hk1 q hq; omega, fun y hy => by
              have := hk1 q hq
              simp only [List.mem_cons, List.not_mem_nil, or_false] at hy
              rcases hy with rfl | rfl | rfl | rfl <;> (dsimp only; omega)⟩)
            replace hZ := hZ.grown hg2
            refine oD 22 2 (stepH_append (d := some 72) (t := 37) (t' := 37) (ty := 37) (v := v') (x := .slice (some ⟨N, 0, none⟩) 1 1) (by kernel_rfl) hrun2 (hM3.sub (.cons _ (.cons _ (.refl _)))) ?_)
            replace hS := hM3.sub (.cons _ (.cons _ (.refl _)))
            replace hM := hM3
            clear hM3 hrun2 hg2 hO hk1
            refine tD 1 [.val 23 (some 73) (pt X 150)] trivial hS ?_
            have hM1 := hM.set 1 (cs' := stc s v2) rfl rfl
            have hO3 := OwnM.row hO2 (B := X) (fun q hq e => by have := (World.ownsRow.lt hO2 q hq).1; omega) (stc s v2).toArray
            replace hZ := hZ.grown (grownBy_row W3 X (stc s v2).toArray)
            refine oD 24 0 (sD (w' := W3.setRow X (stc s v2).toArray) 37 (pt X 150) (v2) (rsto_lk (s := s) (hM.at 1 rfl) (OwnM.one hO2).1 (OwnM.one hO2).2) (hM1.sub (.cons _ (.cons _ (.refl _)))) ?_)
            clear hS
            replace hM := hM1
            clear hM1 hO2
            generalize W3.setRow X _ = W4 at *
            refine dD ?_
            try simp only [puts, Tk.put, Act.put, List.setIfInBounds_toArray, List.set_cons_zero, List.set_cons_succ]
            have hmx2 := HMX.out
            have hlt2 := HLT.out
            have hM5 := hM.sub (.cons _ (.refl _))
            have HM5 := Lib.hid hM5
            have HO5 := Lib.hid hO3
            have HZ5 := Lib.hid hZ
            clear hM hM5 hO3 hZ
            have hwr : IntKind.i64.wrap ((j : Int) + 1) = ((j + 1 : Nat) : Int) := (IntWalk.i64_in _ (by omega)).trans (by omega)
            go_wp2_with fail
            go_roundw
            case rel => exact ⟨j + 1, v2, HLT.out, by go_num, HM5.out, HO5.out, HZ5.out⟩
            case measure => have := HLT.out; simp [intOf]; omega
          · refine rD (some 71) (.slice (some ⟨Y13.heap.size, 0, none⟩) 1 1) (Y13.alloc (.cells (lkc x).toArray 71)) (hS.other (.cells (lkc x).toArray 71)) ?_
            replace hS := hS.other (.cells (lkc x).toArray 71)
            have hk1 : ∀ q, v'.ownBlock = some q → Y11.heap.size ≤ q ∧ q < Y13.heap.size := fun q hq => World.ownsRow.lt hO q hq
            replace hM := hM.alloc 71 (lkc x)
            replace hO := hO.alloc (.cells (lkc x).toArray 71)
            replace hZ := hZ.alloc (.cells (lkc x).toArray 71)
            generalize World.alloc _ _ = Y15 at *
            generalize hNe : Y13.heap.size = N at *
            clear hNe
            refine oD 1 3 (lD (some 51) 37 (pt X 150) (v') (rld_lk (s := s) (hM.at 1 rfl)) (hS) ?_)
            obtain ⟨v2, W3, hrun2, hO2, hg2⟩ := rown_append hO hZ x (hM.at 0 rfl) (by have := HR.out; rw [List.length_take]; omega) 37
            rw [HTK.out] at hO2
            have hM3 := hM.own hg2 (fun q hq => ⟨by have := hk1 q hq; omega, fun y hy => by
              have := hk1 q hq
              simp only [List.mem_cons, List.not_mem_nil, or_false] at hy
              rcases hy with rfl | rfl | rfl | rfl <;> (dsimp only; omega)⟩)
            replace hZ := hZ.grown hg2
            refine oD 22 2 (stepH_append (d := some 72) (t := 37) (t' := 37) (ty := 37) (v := v') (x := .slice (some ⟨N, 0, none⟩) 1 1) (by kernel_rfl) hrun2 (hM3.sub (.cons _ (.cons _ (.refl _)))) ?_)
            replace hS := hM3.sub (.cons _ (.cons _ (.refl _)))
            replace hM := hM3
            clear hM3 hrun2 hg2 hO hk1
            refine tD 1 [.val 23 (some 73) (pt X 150)] trivial hS ?_
            have hM1 := hM.set 1 (cs' := stc s v2) rfl rfl
            have hO3 := OwnM.row hO2 (B := X) (fun q hq e => by have := (World.ownsRow.lt hO2 q hq).1; omega) (stc s v2).toArray
            replace hZ := hZ.grown (grownBy_row W3 X (stc s v2).toArray)
            refine oD 24 0 (sD (w' := W3.setRow X (stc s v2).toArray) 37 (pt X 150) (v2) (rsto_lk (s := s) (hM.at 1 rfl) (OwnM.one hO2).1 (OwnM.one hO2).2) (hM1.sub (.cons _ (.cons _ (.refl _)))) ?_)
            clear hS
            replace hM := hM1
            clear hM1 hO2
            generalize W3.setRow X _ = W4 at *
            refine dD ?_
            try simp only [puts, Tk.put, Act.put, List.setIfInBounds_toArray, List.set_cons_zero, List.set_cons_succ]
            have hmx2 := HMX.out
            have hlt2 := HLT.out
            have hM5 := hM.sub (.cons _ (.refl _))
            have HM5 := Lib.hid hM5
            have HO5 := Lib.hid hO3
            have HZ5 := Lib.hid hZ
            clear hM hM5 hO3 hZ
            have hwr : IntKind.i64.wrap ((j : Int) + 1) = ((j + 1 : Nat) : Int) := (IntWalk.i64_in _ (by omega)).trans (by omega)
            go_wp2_with fail
            go_roundw
            case rel => exact ⟨j + 1, v2, HLT.out, by go_num, HM5.out, HO5.out, HZ5.out⟩
            case measure => have := HLT.out; simp [intOf]; omega
        · obtain rfl : j = s.lk.length := by omega
          rw [List.take_length] at hO
          go_upto_region 7 with fail
          refine wp_region_fromM (fun W => Mem w none [(X, 39, stc s v'), (R, 39, stc zS nilV), (P, 34, stc s (.slice p1 s.lk.length c1))] W ∧ OwnM Y11.heap.size W v' s.lk) ⟨hM, hO⟩ ?_
          clear hM hO
          rintro Y16 ⟨hM, hO⟩
          refine tF 3 [.val 0 (some 43) (.int .i64 (s.lk.length : Int)), .val 1 (some 44) (pt P 150), .load 2 (some 45) 32 (pt P 150) ((.slice p1 s.lk.length c1))] ⟨ld_lk (s := s) (hM.at 2 rfl), trivial⟩ ?_
          refine rF (some 46) (.int .i64 s.lk.length) (Y16) ?_
          refine tF 5 [.alt 4 (some 47) (.bool (decide ((s.lk.length : Int) < (s.lk.length : Int)))) (.bool false)] ⟨congrArg Value.bool (decide_eq_false (by omega)), trivial⟩ ?_
          refine dF ?_
          try simp only [puts, Tk.put, Act.put, List.setIfInBounds_toArray, List.set_cons_zero, List.set_cons_succ]
          go_upto_region 10 with fail
          refine wp_region_fromM (fun W => Mem w none [(X, 39, stc s v'), (R, 39, stc zS nilV), (P, 34, stc s (.slice p1 s.lk.length c1))] W ∧ OwnM Y11.heap.size W v' s.lk) ⟨hM, hO⟩ ?_
          clear hM hO
          rintro Y17 ⟨hM, hO⟩
          refine tF 1 [.load 0 (some 74) 39 (pt X 0) (stv (s) (v'))] ⟨rld_st (s := s) (hM.at 0 rfl), trivial⟩ ?_
          have hO4 := OwnM.row hO (B := R) (fun q hq e => by have := (World.ownsRow.lt hO q hq).1; omega) (stc s v').toArray
          refine sF (w' := Y17.setRow R (stc s v').toArray) 39 (pt R 0) (stv (s) (v')) (rsto_st (hM.at 1 rfl) (stc_len _ _) s (OwnM.one hO).1) ?_
          replace hM := hM.set 1 (cs' := stc s v') rfl rfl
          generalize World.setRow _ _ _ = Y18 at *
          refine dF ?_
          try simp only [puts, Tk.put, Act.put, List.setIfInBounds_toArray, List.set_cons_zero, List.set_cons_succ]
          have fin : PlainR s w (.returned (stv s v')) Y18 := ⟨v', rfl, OwnM.low hO4 hEs, hM.b⟩
          go_wp2_with fail
          exact bodyPost_ret (v := stv s v') (res_rst rfl _ rfl (hM.at 1 rfl)) rfl fin
end Go.Proofs.YthhmdgmmeedhdaaGreat
namespace Go.Proofs.YthhmdgmmeedhdaaGreat
open Go.RowKit Go.Shelf
attribute [local irreducible] wpFrom
def aliveI : Trf := ⟨0, ⟨#[49, 50, 51, 52, 53, 54, 55, 56]⟩, 2, 0, 0, 0, ⟨#[120]⟩⟩
def aliveT : Tr := { fr := 0, no := 0, kd := 5, az := 0, a0 := 0, a1 := 0, a2 := 0, a3 := 0, iv := aliveI, vr := ⟨1, 0, 0, 0, 0⟩, f0 := 0, f1 := 0, f2 := 0, f3 := 0, sg := ⟨#[]⟩ }
theorem genP_eq (a b : Int) : genP a b = genE a b := by
  unfold genP genE
  have h1 : nearI a 1 = if a ≤ 0 then 0 else 1 := by unfold nearI; split <;> omega
  have h2 : nearI b 1099511627776 = if b < 0 then 0 else if 1099511627776 < b then 1099511627776 else b := by unfold nearI; split <;> (try split) <;> omega
  rw [h1, h2]
theorem aliveT_ok : OkT aliveT := ⟨⟨by decide, by decide, by decide, by decide⟩, ⟨by decide, by decide, by decide, by decide⟩, ⟨by decide, by decide, by decide, by decide⟩⟩
theorem aliveT_err : errT aliveT = 0 := by decide
theorem alive_open (o : Orc) : openE o (paidE (genP 0 5) aliveT) aliveT = (0, 32) := rfl
theorem alive_done (o : Orc) : doneE o (paidE (genP 0 5) aliveT) aliveT = (paidE (genP 0 5) aliveT, 32) := by
  unfold doneE
  rw [if_neg (by decide), if_pos (show aliveT.kd = 5 from rfl)]
  unfold fulE
  rw [alive_open, if_pos (by decide)]
theorem alive_apply (o : Orc) : applyE o (genP 0 5) aliveT = (paidE (genP 0 5) aliveT, 32, true) := by
  unfold applyE
  rw [if_neg (by rw [aliveT_err]; decide), if_neg (show ¬ aliveT.no ≠ (genP 0 5).no aliveT.fr.toNat from not_not_intro rfl), if_neg (fun e => e.elim (fun e => e (show 1 ≤ 1000 by decide)) (fun e => e (show 0 + 1 < M4 by decide))), alive_done, if_pos (by decide)]
theorem alive_of : ofB (paidE (genP 0 5) aliveT).pu 0 0 = 999 := by decide
theorem aliveR {w W' : World} {e : Ending} (h : ApplyR (applyP (genP 0 5) aliveT) w e W') : ∃ v', e = .returned (.tuple #[stv (paidE (genP 0 5) aliveT) v', .int .i64 32, .bool true]) ∧ v'.oneCell' = true ∧ Below w.heap.size w W' := by
  rw [apply_eq (by rw [genP_eq]; exact gen_ok 0 5), alive_apply] at h
  obtain ⟨v', h1, h2, h3⟩ := h
  exact ⟨v', h1, (OwnL.one h2).1, h3⟩
theorem ld_inv {W : World} {B : Nat} {T : TypeId} {i : Trf} (h : Blk W B T (ivc i)) : (Instr.loadAt 46 (.pointer (some ⟨B, 0, none⟩))).run Tryz.prog W = .ok (ivv i) W :=
  load_part h 0 (ivc i) rfl _ _ Tryz.underlying46 rfl (by kernel_rfl)
theorem sto_inv {W : World} {B : Nat} {T : TypeId} {j : Trf} (h : Blk W B T (ivc j)) (i : Trf) : (Instr.storeAt 46 (.pointer (some ⟨B, 0, none⟩)) (ivv i)).run Tryz.prog W = .ok () (W.setRow B (ivc i).toArray) :=
  sto_part _ h 0 _ _ (ivc i) rfl (by kernel_rfl) (by simp) rfl rfl
set_option maxRecDepth 100000 in
set_option maxHeartbeats 4000000 in
theorem alive12_any (w : World) :
    Calls Tryz.prog 8 #[] w fun e W' => e = .returned (.bool true) ∧ Below w.heap.size w W' := by
  have hmx : Tryz.prog.follows .mixedOrders = true := by kernel_rfl
  have hM := Mem.start w
  go_enter Tryz.func8, Tryz.ntmps8
  go_upto_region 1 with fail
  refine wp_region_fromM (fun W => Mem w none [] W) hM ?_
  clear hM
  rintro Y1 hM
  refine cF (some 6) 9 #[.int .i64 0, .int .i64 5] ((genesis_any 0 5 _).mono ?_)
  rintro e W1 ⟨rfl, hb⟩
  replace hM := hM.below hb
  clear hb
  refine rF (some 1) (pt W1.heap.size 0) (W1.alloc (.cells (stc zS nilV).toArray 34)) ?_
  replace hM := hM.alloc 34 (stc zS nilV)
  generalize World.alloc _ _ = Y2 at *
  generalize hNe : W1.heap.size = A at *
  clear hNe
  refine sF 34 (pt A 0) (stv (genP 0 5) nilV) (sto_st (hM.at 0 rfl) (stc_len _ _) (genP 0 5) rfl) ?_
  replace hM := hM.set 0 (cs' := stc (genP 0 5) nilV) rfl rfl
  generalize World.setRow _ _ _ = Y3 at *
  refine dF ?_
  try simp only [Act.put, List.setIfInBounds_toArray, List.set_cons_zero, List.set_cons_succ]
  go_upto_region 2 with fail
  refine wp_region_fromM (fun W => Mem w none [(A, 34, stc (genP 0 5) nilV)] W) hM ?_
  clear hM
  rintro Y4 hM
  refine tF 1 [.val 0 (some 7) (ivv aliveI)] trivial ?_
  refine rF (some 2) (pt Y4.heap.size 0) (Y4.alloc (.cells (ivc noI).toArray 46)) ?_
  replace hM := hM.alloc 46 (ivc noI)
  generalize World.alloc _ _ = Y5 at *
  generalize hNe : Y4.heap.size = I at *
  clear hNe
  refine sF 46 (pt I 0) (ivv aliveI) (sto_inv (hM.at 0 rfl) aliveI) ?_
  replace hM := hM.set 0 (cs' := ivc aliveI) rfl rfl
  generalize World.setRow _ _ _ = Y6 at *
  refine dF ?_
  try simp only [puts, Tk.put, Act.put, List.setIfInBounds_toArray, List.set_cons_zero, List.set_cons_succ]
  go_upto_region 3 with fail
  refine wp_region_fromM (fun W => Mem w none [(I, 46, ivc aliveI), (A, 34, stc (genP 0 5) nilV)] W) hM ?_
  clear hM
  rintro Y7 hM
  refine tF 5 [.load 0 (some 9) 34 (pt A 0) (stv ((genP 0 5)) (nilV)), .load 1 (some 10) 46 (pt I 0) (ivv aliveI), .val 2 (some 11) (.agg #[.int .u64 1, .int .u64 0, .int .u64 0, .int .u64 0]), .val 3 (some 12) (svv aliveT.vr), .val 4 (some 13) (txv aliveT)] ⟨ld_st (hM.at 1 rfl), ld_inv (hM.at 0 rfl), trivial⟩ ?_
  refine cF (some 14) 12 #[stv ((genP 0 5)) (nilV), txv aliveT] ((((esc_apply_any (genP 0 5) nilV (by rw [genP_eq]; exact gen_ok 0 5) aliveT aliveT_ok _ (RSl.nil 0 0 _) (Nat.zero_le _) (by decide)).mono fun _ _ h => aliveR h)).mono ?_)
  rintro e W1 ⟨v1, rfl, hv1, hb⟩
  replace hM := hM.below hb
  clear hb
  refine tF 10 [.val 6 (some 8) (.tuple #[stv (paidE (genP 0 5) aliveT) v1, .int .i64 32, .bool true]), .val 7 (some 15) (stv (paidE (genP 0 5) aliveT) v1), .val 8 (some 16) (.int .i64 32), .val 9 (some 17) (.bool true)] trivial ?_
  refine rF (some 3) (pt W1.heap.size 0) (W1.alloc (.cells (stc zS nilV).toArray 34)) ?_
  replace hM := hM.alloc 34 (stc zS nilV)
  generalize World.alloc _ _ = Y8 at *
  generalize hNe : W1.heap.size = C at *
  clear hNe
  refine sF 34 (pt C 0) (stv (paidE (genP 0 5) aliveT) v1) (sto_st (hM.at 0 rfl) (stc_len _ _) (paidE (genP 0 5) aliveT) hv1) ?_
  replace hM := hM.set 0 (cs' := stc (paidE (genP 0 5) aliveT) v1) rfl rfl
  generalize World.setRow _ _ _ = Y9 at *
  refine tF 14 [.val 12 (some 4) (.int .i64 32), .val 13 (some 5) (.bool true)] trivial ?_
  refine dF ?_
  try simp only [puts, Tk.put, Act.put, List.setIfInBounds_toArray, List.set_cons_zero, List.set_cons_succ]
  go_upto_region 4 with fail
  refine wp_region_fromM (fun W => Mem w none [(C, 34, stc (paidE (genP 0 5) aliveT) v1), (I, 46, ivc aliveI), (A, 34, stc (genP 0 5) nilV)] W) hM ?_
  clear hM
  rintro Y10 hM
  refine tF 9 [.val 0 (some 18) (.bool true), .val 1 (some 19) (.bool true), .val 2 (some 20) (.int .i64 32), .val 3 (some 21) (.bool true), .val 4 (some 22) (.bool true), .val 5 (some 23) (.bool true), .val 6 (some 24) (pt C 146), .load 7 (some 25) 27 (pt C 146) (wn (paidE (genP 0 5) aliveT).bu), .val 8 (some 26) (wn 1)] ⟨ld_bu (s := (paidE (genP 0 5) aliveT)) (hM.at 0 rfl), trivial⟩ ?_
  refine eqA (.tmp 25) (.tmp 26) 27 (some 27) (ws (nw 1)).toArray (ws (nw 1)).toArray true (eq_wn 9998 1 _) ?_
  refine tF 20 [.val 10 (some 28) (.bool true), .val 11 (some 29) (.bool true), .val 12 (some 30) (pt C 130), .idx 13 (some 31) 31 (pt C 130) (.int .i64 0) (pt C (130 + 0)), .load 14 (some 32) 3 (pt C (130 + 0)) (.int .i64 ((paidE (genP 0 5) aliveT).no (0))), .alt 15 (some 33) (.bool ((paidE (genP 0 5) aliveT).no 0 == 1)) (.bool true), .val 16 (some 34) (.bool true), .val 17 (some 35) (.bool true), .val 18 (some 36) (pt C 2), .load 19 (some 37) 30 (pt C 2) (bkv (paidE (genP 0 5) aliveT).pu)] ⟨idx_no (k := 0) (by decide), ld_no (s := (paidE (genP 0 5) aliveT)) (hM.at 0 rfl) (by omega), congrArg Value.bool (by decide), ld_pu (s := (paidE (genP 0 5) aliveT)) (hM.at 0 rfl), trivial⟩ ?_
  refine cF (some 38) 25 #[bkv (paidE (genP 0 5) aliveT).pu, .int .i64 0, .int .i64 0] ((((ofBook_any (paidE (genP 0 5) aliveT).pu 0 0 _).mono fun _ _ h => by rw [alive_of] at h; exact h)).mono ?_)
  rintro e W1 ⟨rfl, hb⟩
  replace hM := hM.below hb
  clear hb
  refine tF 22 [.val 21 (some 39) (wn 999)] trivial ?_
  refine eqA (.tmp 38) (.tmp 39) 27 (some 40) (ws (nw 999)).toArray (ws (nw 999)).toArray true (eq_wn 9998 999 _) ?_
  refine tF 25 [.val 23 (some 41) (.bool true), .val 24 (some 0) (.bool true)] trivial ?_
  refine dF ?_
  try simp only [puts, Tk.put, Act.put, List.setIfInBounds_toArray, List.set_cons_zero, List.set_cons_succ]
  go_wp2_with fail
  go_ret
  exact ⟨rfl, hM.b⟩
end Go.Proofs.YthhmdgmmeedhdaaGreat
namespace Go.Proofs.YthhmdgmmeedhdaaGreat
open Go.RowKit Go.Shelf
def AppE (s s' : Es) (t : Tr) (c : Int) (b : Bool) : Prop := ∀ (w : World) (e : Ending) (W' : World), ApplyR (applyP s t) w e W' → ∃ v', e = .returned (.tuple #[stv s' v', .int .i64 c, .bool b]) ∧ OwnL w.heap.size W' v' s'.lk ∧ Below w.heap.size w W'
theorem app_any {s : Es} (hs : OkE s) (t : Tr) : ∃ (S : Es) (E : Int) (B : Bool), applyE orcB s t = (S, E, B) ∧ AppE s S t E B ∧ OkE S ∧ (∀ r, r < 2 → sumE S r = sumE s r) ∧ LkE s.lk S.lk :=
  ⟨_, _, _, rfl, fun w e W' h => by rw [apply_eq hs t] at h; exact h, (apply_ok hs).1, (apply_ok hs).2.1, (apply_ok hs).2.2.2.2⟩
def RLk (lo hi : Nat) (W : World) (v : Value) (l : List Lk) : Prop := RSl lkc lo hi W v l ∧ hi ≤ W.heap.size
section
variable {lo hi : Nat} {W W' : World} {v : Value} {l : List Lk}
theorem RLk.drew (h : RLk lo hi W v l) : RLk lo hi W.drew v l := h
theorem RLk.below (h : RLk lo hi W v l) (hb : Below W.heap.size W W') : RLk lo hi W' v l := ⟨h.1.below hb h.2, Nat.le_trans h.2 hb.size⟩
theorem RLk.alloc (h : RLk lo hi W v l) (c : Obj) : RLk lo hi (W.alloc c) v l := h.below ((Below.refl _ W).alloc (Nat.le_refl _) _)
theorem RLk.row (h : RLk lo hi W v l) {B : Nat} (hB : B < lo ∨ hi ≤ B) (cs : Array Value) : RLk lo hi (W.setRow B cs) v l :=
  ⟨h.1.kept h.2 (grownBy_row W B cs) (fun r hr => by obtain rfl := Option.some.inj hr; exact hB), Nat.le_trans h.2 (grownBy_row W B cs).size⟩
theorem RLk.one (h : RLk lo hi W v l) : v.oneCell' = true := h.1.one
theorem OwnL.rlk (h : OwnL lo W v l) : RLk lo W.heap.size W v l := ⟨OwnL.rsl h, Nat.le_refl _⟩
theorem OwnM.rlk (h : OwnM lo W v l) : RLk lo W.heap.size W v l := ⟨OwnM.rsl h, Nat.le_refl _⟩
end
theorem ld_lkS {W : World} {b o : Nat} {x : Lk} (hc : ∀ j u, (lkc x)[j]? = some u → W.cell? ⟨b, o + j, none⟩ = some u) : (Instr.loadAt 63 (.pointer (some ⟨b, o, none⟩))).run Tryz.prog W = .ok (.agg (lkc x).toArray) W := by
  have h := load_elem (f := lkc) (l := [x]) (k := 0) (x := x) (W := W) (b := b) (off := o) (show Row W b o (flatR lkc [x]) by rw [flat_one]; exact hc) lkc_len rfl 63 _ Tryz.underlying63 rfl (by kernel_rfl)
  rw [Nat.zero_mul, Nat.add_zero] at h
  exact h
theorem sto_lkS {W : World} {B : Nat} {T : TypeId} {y : Lk} (h : Blk W B T (lkc y)) (x : Lk) : (Instr.storeAt 63 (.pointer (some ⟨B, 0, none⟩)) (.agg (lkc x).toArray)).run Tryz.prog W = .ok () (W.setRow B (lkc x).toArray) :=
  sto_part _ h 0 _ _ (lkc x) rfl (by kernel_rfl) (by simp [lkc]) rfl (by rfl)
theorem txc_25 (t : Tr) : (txc t).length = 25 := rfl
theorem ld_txS {W : World} {b o : Nat} {x : Tr} (hc : ∀ j u, (txc x)[j]? = some u → W.cell? ⟨b, o + j, none⟩ = some u) : (Instr.loadAt 50 (.pointer (some ⟨b, o, none⟩))).run Tryz.prog W = .ok (txv x) W := by
  have h := load_elem (f := fun t => txc t) (l := [x]) (k := 0) (x := x) (W := W) (b := b) (off := o) (show Row W b o (flatR (fun t => txc t) [x]) by rw [flat_one]; exact hc) txc_25 rfl 50 _ Tryz.underlying50 rfl (by kernel_rfl)
  rw [Nat.zero_mul, Nat.add_zero] at h
  exact h
end Go.Proofs.YthhmdgmmeedhdaaGreat
namespace Go.Proofs.YthhmdgmmeedhdaaGreat
open Go.ChangeShapes Go.WideShapes Go.ChangeAt Go.RowKit
theorem Tryz.own : ownKnob Tryz.prog.godebug = none := by kernel_rfl
theorem Tryz.laidOut : laidOutB Tryz.prog = true := by kernel_rfl
theorem wf_i64 {x : Int} (h : (Lit.int .i64 x).wf = true) : -9223372036854775808 ≤ x ∧ x ≤ 9223372036854775807 := by
  simp [Lit.wf, IntKind.min, IntKind.max, IntKind.bits, IntKind.signed] at h
  omega
theorem list_of {α : Type} {Q : Nat → α → Prop} : ∀ {n : Nat}, (∀ i, i < n → ∃ x, Q i x) → ∃ l : List α, l.length = n ∧ ∀ k x, l[k]? = some x → Q k x
  | 0, _ => ⟨[], rfl, fun k x h => by simp at h⟩
  | n + 1, h => by
    obtain ⟨l, hl, hq⟩ := list_of (n := n) (fun i hi => h i (by omega))
    obtain ⟨y, hy⟩ := h n (by omega)
    refine ⟨l ++ [y], by simp [hl], fun k x hx => ?_⟩
    by_cases hk : k < n
    · rw [List.getElem?_append_left (by omega)] at hx
      exact hq k x hx
    · rw [List.getElem?_append_right (by omega)] at hx
      have : k = n := by
        have := (List.getElem?_eq_some_iff.1 hx).1
        simp at this
        omega
      subst this
      simp [hl] at hx
      rw [← hx]; exact hy
theorem add_plain (b off q : Nat) : (⟨b, off, none⟩ : Addr).add q = ⟨b, off + q, none⟩ := by cases q <;> simp [Addr.add]
end Go.Proofs.YthhmdgmmeedhdaaGreat
namespace Go.Proofs.YthhmdgmmeedhdaaGreat
open Go.ChangeShapes Go.WideShapes Go.ChangeAt Go.RowKit
theorem Tryz.cells24 : Tryz.prog.cellsOf 27 = 4 := by kernel_rfl
theorem Tryz.cells22 : Tryz.prog.cellsOf 25 = 1 := by kernel_rfl
theorem wf_u64 {x : Int} (h : (Lit.int .u64 x).wf = true) : ∃ n : Nat, x = (n : Int) ∧ n < M := by
  have h' : 0 ≤ x ∧ x < 18446744073709551616 := by
    simp [Lit.wf, IntKind.min, IntKind.max, IntKind.bits, IntKind.signed] at h
    omega
  obtain ⟨n, rfl⟩ := Int.eq_ofNat_of_zero_le h'.1
  exact ⟨n, rfl, by unfold M; omega⟩
end Go.Proofs.YthhmdgmmeedhdaaGreat
namespace Go.Proofs.YthhmdgmmeedhdaaGreat
theorem Tryz.cellsInt : Tryz.prog.cellsOf 3 = 1 := by kernel_rfl
theorem Tryz.cellsStr : Tryz.prog.cellsOf 9 = 1 := by kernel_rfl
end Go.Proofs.YthhmdgmmeedhdaaGreat
namespace Go.Proofs.YthhmdgmmeedhdaaGreat
open Go.ChangeShapes Go.WideShapes Go.ChangeAt Go.RowKit Go.Deep
theorem sized_in {H : Type} {P : Program} {ts : List TypeId} {ds : List (DataW H)} (h : (DataW.weightsEach P ts ds).all (· ≤ reachBytes) = true) {j : Nat} {t : TypeId} {d : DataW H} (ht : ts[j]? = some t) (hd : ds[j]? = some d) (n : Nat) (hn : n ∈ d.weights P t) : n ≤ 140737488351232 := by
  have := List.all_eq_true.1 h _ (DataW.weights_mem_each ht hd n hn)
  have h2 := of_decide_eq_true this
  simp only [reachBytes] at h2
  exact h2
theorem weightsAll_mem {H : Type} {P : Program} {e : TypeId} : ∀ {l : List (DataW H)} {d : DataW H}, d ∈ l → ∀ n ∈ d.weights P e, n ∈ DataW.weightsAll P e l
  | [], _, h, _, _ => by cases h
  | x :: l, d, h, n, hn => by
    simp only [DataW.weightsAll, List.mem_append]
    rcases List.mem_cons.1 h with rfl | h
    · exact .inl hn
    · exact .inr (weightsAll_mem h n hn)
end Go.Proofs.YthhmdgmmeedhdaaGreat
namespace Go.Proofs.YthhmdgmmeedhdaaGreat
open Go.ChangeShapes Go.WideShapes Go.ChangeAt Go.RowKit Go.Deep
theorem Tryz.cellsInv : Tryz.prog.cellsOf 46 = 7 := by kernel_rfl
theorem Tryz.cellsVar : Tryz.prog.cellsOf 48 = 5 := by kernel_rfl
set_option maxRecDepth 100000 in
theorem trod_inv {H : Type} {enc : TypeId × Value → H} {w : World} {base : Nat} {spare : Nat → Bool} {held : Bool} {fuel : Nat} {cs : List Value} {x : DataW H × List MemPlace}
    (h : DataW.trod enc Tryz.prog w base spare held fuel 46 cs = some x) :
    ∃ i : Trf, cs = ivc i ∧ i.rt.data.toList.length ∈ x.1.weights Tryz.prog 46 ∧ i.id.data.toList.length ∈ x.1.weights Tryz.prog 46 := by
  obtain ⟨xs, n, _, hx, hcl, hlen, hg⟩ := DataW.trod_struct Tryz.underlying46 h
  rw [Tryz.cellsInv] at hcl
  match cs, hcl with
  | [c0, c1, c2, c3, c4, c5, c6], _ =>
  match xs, hlen with
  | [y0, y1, y2, y3, y4, y5, y6], _ =>
  have h0 := hg 0 ⟨ "User", 3, 0, false, "", "", 0⟩ rfl
  have h1 := hg 1 ⟨ "Root", 9, 1, false, "", "", 8⟩ rfl
  have h2 := hg 2 ⟨ "Router", 3, 2, false, "", "", 24⟩ rfl
  have h3 := hg 3 ⟨ "Send", 3, 3, false, "", "", 32⟩ rfl
  have h4 := hg 4 ⟨ "Recv", 3, 4, false, "", "", 40⟩ rfl
  have h5 := hg 5 ⟨ "To", 3, 5, false, "", "", 48⟩ rfl
  have h6 := hg 6 ⟨ "Id", 9, 6, false, "", "", 56⟩ rfl
  dsimp only at h0 h1 h2 h3 h4 h5 h6
  rw [Tryz.cellsInt] at h0 h2 h3 h4 h5
  rw [Tryz.cellsStr] at h1 h6
  simp only [List.drop_succ_cons, List.drop_zero, List.take_succ_cons, List.take_zero, List.getElem?_cons_zero, List.getElem?_cons_succ] at h0 h1 h2 h3 h4 h5 h6
  obtain ⟨z0, e0, hx0, wf0⟩ := DataW.trod_int Tryz.underlying3 h0
  obtain ⟨s1, e1, hx1, _⟩ := DataW.trod_string Tryz.underlying9 h1
  obtain ⟨z2, e2, hx2, wf2⟩ := DataW.trod_int Tryz.underlying3 h2
  obtain ⟨z3, e3, hx3, wf3⟩ := DataW.trod_int Tryz.underlying3 h3
  obtain ⟨z4, e4, hx4, wf4⟩ := DataW.trod_int Tryz.underlying3 h4
  obtain ⟨z5, e5, hx5, wf5⟩ := DataW.trod_int Tryz.underlying3 h5
  obtain ⟨s6, e6, hx6, _⟩ := DataW.trod_string Tryz.underlying9 h6
  simp at e0 e1 e2 e3 e4 e5 e6
  subst e0 e1 e2 e3 e4 e5 e6
  refine ⟨⟨z0, s1, z2, z3, z4, z5, s6⟩, rfl, ?_, ?_⟩
  · rw [hx]
    have : y1.1 = .lit (.string s1.data.toList) := by rw [hx1]
    simp [DataW.weights, DataW.weightsEach, Tryz.underlying46, this]
  · rw [hx]
    have : y6.1 = .lit (.string s6.data.toList) := by rw [hx6]
    simp [DataW.weights, DataW.weightsEach, Tryz.underlying46, this]
set_option maxRecDepth 100000 in
theorem trod_var {H : Type} {enc : TypeId × Value → H} {w : World} {base : Nat} {spare : Nat → Bool} {held : Bool} {fuel : Nat} {cs : List Value} {x : DataW H × List MemPlace}
    (h : DataW.trod enc Tryz.prog w base spare held fuel 48 cs = some x) :
    ∃ v : Sid, cs = svc v ∧ Ok4 v.a0 v.a1 v.a2 v.a3 := by
  obtain ⟨xs, n, _, hx, hcl, hlen, hg⟩ := DataW.trod_struct Tryz.underlying48 h
  rw [Tryz.cellsVar] at hcl
  match cs, hcl with
  | [c0, c1, c2, c3, c4], _ =>
  match xs, hlen with
  | [y0, y1], _ =>
  have h0 := hg 0 ⟨ "Amount", 27, 0, false, "", "", 0⟩ rfl
  have h1 := hg 1 ⟨ "Expiry", 3, 4, false, "", "", 32⟩ rfl
  dsimp only at h0 h1
  rw [Tryz.cells24] at h0
  rw [Tryz.cellsInt] at h1
  simp only [List.drop_succ_cons, List.drop_zero, List.take_succ_cons, List.take_zero, List.getElem?_cons_zero, List.getElem?_cons_succ] at h0 h1
  obtain ⟨u0, u1, u2, u3, m, hx3, g0, g1, g2, g3⟩ := trod_array4 Tryz.underlying27 Tryz.cells22 h0
  obtain ⟨v0, k0, _, wg0⟩ := DataW.trod_int Tryz.underlying25 g0
  obtain ⟨v1, k1, _, wg1⟩ := DataW.trod_int Tryz.underlying25 g1
  obtain ⟨v2, k2, _, wg2⟩ := DataW.trod_int Tryz.underlying25 g2
  obtain ⟨v3, k3, _, wg3⟩ := DataW.trod_int Tryz.underlying25 g3
  obtain ⟨z1, e1, hx1, wf1⟩ := DataW.trod_int Tryz.underlying3 h1
  obtain ⟨a0, rfl, q0⟩ := wf_u64 wg0
  obtain ⟨a1, rfl, q1⟩ := wf_u64 wg1
  obtain ⟨a2, rfl, q2⟩ := wf_u64 wg2
  obtain ⟨a3, rfl, q3⟩ := wf_u64 wg3
  simp at e1 k0 k1 k2 k3
  subst e1 k0 k1 k2 k3
  exact ⟨⟨a0, a1, a2, a3, z1⟩, rfl, ⟨q0, q1, q2, q3⟩⟩
set_option maxRecDepth 100000 in
theorem agg_of {v : Value} {w : World} {r : Reach} {b0 t : Nat} {fs : Array Field} (hu : Tryz.prog.underlying t = some (.struct fs)) (hv : Value.okWide Tryz.prog w r b0 t v) : ∃ cs, v = .agg cs := by
  obtain ⟨cs, rfl, _⟩ : ∃ cs, v = .agg cs ∧ cs.size = Tryz.prog.cellsOf t ∧ Row.okWide Tryz.prog w r b0 t cs := by
    simpa [Value.okWide, hu] using hv
  exact ⟨cs, rfl⟩
end Go.Proofs.YthhmdgmmeedhdaaGreat
namespace Go.Proofs.YthhmdgmmeedhdaaGreat
open Go.ChangeShapes Go.WideShapes Go.ChangeAt Go.RowKit Go.Deep
theorem Tryz.cellsTx : Tryz.prog.cellsOf 50 = 25 := by kernel_rfl
theorem trod_wide4 {H : Type} {enc : TypeId × Value → H} {w : World} {base : Nat} {spare : Nat → Bool} {held : Bool} {fuel : Nat} {c0 c1 c2 c3 : Value} {x : DataW H × List MemPlace}
    (h : DataW.trod enc Tryz.prog w base spare held fuel 27 [c0, c1, c2, c3] = some x) :
    ∃ a0 a1 a2 a3 : Nat, c0 = .int .u64 (a0 : Int) ∧ c1 = .int .u64 (a1 : Int) ∧ c2 = .int .u64 (a2 : Int) ∧ c3 = .int .u64 (a3 : Int) ∧ Ok4 a0 a1 a2 a3 := by
  obtain ⟨u0, u1, u2, u3, m, hx3, g0, g1, g2, g3⟩ := trod_array4 Tryz.underlying27 Tryz.cells22 h
  obtain ⟨v0, k0, _, wg0⟩ := DataW.trod_int Tryz.underlying25 g0
  obtain ⟨v1, k1, _, wg1⟩ := DataW.trod_int Tryz.underlying25 g1
  obtain ⟨v2, k2, _, wg2⟩ := DataW.trod_int Tryz.underlying25 g2
  obtain ⟨v3, k3, _, wg3⟩ := DataW.trod_int Tryz.underlying25 g3
  obtain ⟨a0, rfl, q0⟩ := wf_u64 wg0
  obtain ⟨a1, rfl, q1⟩ := wf_u64 wg1
  obtain ⟨a2, rfl, q2⟩ := wf_u64 wg2
  obtain ⟨a3, rfl, q3⟩ := wf_u64 wg3
  simp at k0 k1 k2 k3
  exact ⟨a0, a1, a2, a3, k0, k1, k2, k3, ⟨q0, q1, q2, q3⟩⟩
set_option maxRecDepth 100000 in
set_option maxHeartbeats 1000000 in
theorem trod_tx {H : Type} {enc : TypeId × Value → H} {w : World} {base : Nat} {spare : Nat → Bool} {held : Bool} {fuel : Nat} {cs : List Value} {x : DataW H × List MemPlace}
    (h : DataW.trod enc Tryz.prog w base spare held fuel 50 cs = some x) :
    ∃ t : Tr, cs = txc t ∧ OkT t := by
  obtain ⟨xs, n, _, hx, hcl, hlen, hg⟩ := DataW.trod_struct Tryz.underlying50 h
  rw [Tryz.cellsTx] at hcl
  match cs, hcl with
  | [c0, c1, c2, c3, c4, c5, c6, c7, c8, c9, c10, c11, c12, c13, c14, c15, c16, c17, c18, c19, c20, c21, c22, c23, c24], _ =>
  match xs, hlen with
  | [y0, y1, y2, y3, y4, y5, y6, y7, y8], _ =>
  have h0 := hg 0 ⟨ "From", 3, 0, false, "", "", 0⟩ rfl
  have h1 := hg 1 ⟨ "Nonce", 3, 1, false, "", "", 8⟩ rfl
  have h2 := hg 2 ⟨ "Kind", 3, 2, false, "", "", 16⟩ rfl
  have h3 := hg 3 ⟨ "Asset", 3, 3, false, "", "", 24⟩ rfl
  have h4 := hg 4 ⟨ "Amount", 27, 4, false, "", "", 32⟩ rfl
  have h5 := hg 5 ⟨ "Inv", 46, 8, false, "", "", 64⟩ rfl
  have h6 := hg 6 ⟨ "Var", 48, 15, false, "", "", 136⟩ rfl
  have h7 := hg 7 ⟨ "Fee", 27, 20, false, "", "", 176⟩ rfl
  have h8 := hg 8 ⟨ "Sig", 9, 24, false, "", "", 208⟩ rfl
  dsimp only at h0 h1 h2 h3 h4 h5 h6 h7 h8
  rw [Tryz.cellsInt] at h0 h1 h2 h3
  rw [Tryz.cells24] at h4 h7
  rw [Tryz.cellsInv] at h5
  rw [Tryz.cellsVar] at h6
  rw [Tryz.cellsStr] at h8
  simp only [List.drop_succ_cons, List.drop_zero, List.take_succ_cons, List.take_zero, List.getElem?_cons_zero, List.getElem?_cons_succ] at h0 h1 h2 h3 h4 h5 h6 h7 h8
  obtain ⟨z0, e0, _, _⟩ := DataW.trod_int Tryz.underlying3 h0
  obtain ⟨z1, e1, _, _⟩ := DataW.trod_int Tryz.underlying3 h1
  obtain ⟨z2, e2, _, _⟩ := DataW.trod_int Tryz.underlying3 h2
  obtain ⟨z3, e3, _, _⟩ := DataW.trod_int Tryz.underlying3 h3
  obtain ⟨a0, a1, a2, a3, f0, f1, f2, f3, hk⟩ := trod_wide4 h4
  obtain ⟨i, hi, _, _⟩ := trod_inv h5
  obtain ⟨v, hv, hk2⟩ := trod_var h6
  obtain ⟨b0, b1, b2, b3, g0, g1, g2, g3, hk3⟩ := trod_wide4 h7
  obtain ⟨s8, e8, _, _⟩ := DataW.trod_string Tryz.underlying9 h8
  simp at e0 e1 e2 e3 e8
  simp only [ivc, List.cons.injEq, and_true] at hi
  simp only [svc, List.cons.injEq, and_true] at hv
  obtain ⟨q0, q1, q2, q3, q4, q5, q6⟩ := hi
  obtain ⟨r0, r1, r2, r3, r4⟩ := hv
  subst e0 e1 e2 e3 f0 f1 f2 f3 q0 q1 q2 q3 q4 q5 q6 r0 r1 r2 r3 r4 g0 g1 g2 g3 e8
  exact ⟨⟨z0, z1, z2, z3, a0, a1, a2, a3, i, v, b0, b1, b2, b3, s8⟩, rfl, ⟨hk, hk2, hk3⟩⟩
set_option maxRecDepth 100000 in
theorem open_tx {H : Type} {enc : TypeId × Value → H} {r : Reach} {w : World} {b0 base : Nat} {spare : Nat → Bool} {held : Bool} {v : Value} {d : DataW H} {p : List MemPlace}
    (hv : Value.okWide Tryz.prog w r b0 50 v) (h : DataW.Trod enc Tryz.prog w base spare held 50 v d p) :
    ∃ t : Tr, v = txv t ∧ OkT t := by
  obtain ⟨cs, rfl⟩ := agg_of Tryz.underlying50 hv
  obtain ⟨fuel, hf⟩ := h
  obtain ⟨t, hc, h1⟩ := trod_tx hf
  refine ⟨t, ?_, h1⟩
  have : cs.toList = txc t := hc
  rw [show cs = (txc t).toArray from by rw [← this]]
end Go.Proofs.YthhmdgmmeedhdaaGreat
namespace Go.Proofs.YthhmdgmmeedhdaaGreat
open Go.ChangeShapes Go.WideShapes Go.ChangeAt Go.RowKit
set_option maxRecDepth 100000 in
theorem trod_wn {H : Type} {enc : TypeId × Value → H} {w : World} {base : Nat} {spare : Nat → Bool} {held : Bool} {fuel : Nat} {l : List Value} {x : DataW H × List MemPlace}
    (h : DataW.trod enc Tryz.prog w base spare held fuel 27 l = some x) : ∃ n : Nat, n < M4 ∧ l = ws (nw n) := by
  obtain ⟨xs, m, rfl, _, hl, _, _⟩ := DataW.trod_array Tryz.underlying27 h
  rw [Tryz.cells24] at hl
  obtain ⟨c0, c1, c2, c3, rfl⟩ : ∃ c0 c1 c2 c3, l = [c0, c1, c2, c3] := by
    match l, hl with
    | [c0, c1, c2, c3], _ => exact ⟨c0, c1, c2, c3, rfl⟩
  obtain ⟨y0, y1, y2, y3, m, hx, hy0, hy1, hy2, hy3⟩ := trod_array4 Tryz.underlying27 Tryz.cells22 h
  obtain ⟨x0, e0, rfl, w0⟩ := DataW.trod_int Tryz.underlying25 hy0
  obtain ⟨x1, e1, rfl, w1⟩ := DataW.trod_int Tryz.underlying25 hy1
  obtain ⟨x2, e2, rfl, w2⟩ := DataW.trod_int Tryz.underlying25 hy2
  obtain ⟨x3, e3, rfl, w3⟩ := DataW.trod_int Tryz.underlying25 hy3
  simp at e0 e1 e2 e3
  subst e0 e1 e2 e3
  obtain ⟨a0, rfl, l0⟩ := wf_u64 w0
  obtain ⟨a1, rfl, l1⟩ := wf_u64 w1
  obtain ⟨a2, rfl, l2⟩ := wf_u64 w2
  obtain ⟨a3, rfl, l3⟩ := wf_u64 w3
  have hk : Ok4 a0 a1 a2 a3 := ⟨l0, l1, l2, l3⟩
  refine ⟨_, val_lt hk, ?_⟩
  obtain ⟨q0, q1, q2, q3⟩ := nw_of hk rfl
  unfold ws
  rw [← q0, ← q1, ← q2, ← q3]
set_option maxRecDepth 100000 in
theorem rowB_of (b : Bk) : ∀ (n s : Nat) (l : List Value), l.length = 4 * n → (∀ j, j < n → (l.drop (4 * j)).take 4 = ws (nw (b (s + j)))) → l = rowB b s n
  | 0, _, l, hl, _ => List.length_eq_zero_iff.1 (by omega)
  | n + 1, s, l, hl, h => by
    have h0 := h 0 (by omega)
    rw [Nat.mul_zero, List.drop_zero, Nat.add_zero] at h0
    rw [rowB, ← h0, ← rowB_of b n (s + 1) (l.drop 4) (by rw [List.length_drop]; omega) (fun j hj => by
      have hh := h (j + 1) (by omega)
      rw [List.drop_drop, show 4 + 4 * j = 4 * (j + 1) by omega, hh, show s + 1 + j = s + (j + 1) by omega])]
    exact (List.take_append_drop 4 l).symm
set_option maxRecDepth 100000 in
theorem Tryz.cellsRow : Tryz.prog.cellsOf 28 = 8 := by kernel_rfl
set_option maxRecDepth 100000 in
theorem Tryz.cellsBook : Tryz.prog.cellsOf 30 = 64 := by kernel_rfl
set_option maxRecDepth 100000 in
theorem trod_book {H : Type} {enc : TypeId × Value → H} {w : World} {base : Nat} {spare : Nat → Bool} {held : Bool} {fuel : Nat} {l : List Value} {x : DataW H × List MemPlace}
    (h : DataW.trod enc Tryz.prog w base spare held fuel 30 l = some x) : ∃ b : Bk, OkK b ∧ l = bkc b := by
  obtain ⟨xs, m, rfl, _, hl, hn, hi⟩ := DataW.trod_array Tryz.underlying30 h
  rw [Tryz.cellsBook] at hl
  rw [Tryz.cellsRow] at hi
  have hs : ∀ j, j < 16 → ∃ n : Nat, n < M4 ∧ (l.drop (4 * j)).take 4 = ws (nw n) := fun j hj => by
    have h1 := hi (j / 2) (by omega)
    obtain ⟨x1, e1⟩ : ∃ x1, xs[j / 2]? = some x1 := ⟨_, List.getElem?_eq_getElem (by omega)⟩
    rw [e1] at h1
    obtain ⟨ys, m2, rfl, _, hl2, hn2, hi2⟩ := DataW.trod_array Tryz.underlying28 h1
    rw [Tryz.cells24] at hi2
    have h2 := hi2 (j % 2) (by omega)
    obtain ⟨x2, e2⟩ : ∃ x2, ys[j % 2]? = some x2 := ⟨_, List.getElem?_eq_getElem (by omega)⟩
    rw [e2] at h2
    obtain ⟨n, hn, e⟩ := trod_wn h2
    refine ⟨n, hn, ?_⟩
    rw [← e, List.drop_take, List.drop_drop, List.take_take, show min 4 (8 - j % 2 * 4) = 4 by omega, show j / 2 * 8 + j % 2 * 4 = 4 * j by omega]
  refine ⟨fun j => if hj : j < 16 then Classical.choose (hs j hj) else 0, fun j hj => ?_, ?_⟩
  · show (if hj : j < 16 then Classical.choose (hs j hj) else 0) < M4
    rw [dif_pos hj]
    exact (Classical.choose_spec (hs j hj)).1
  · refine rowB_of _ 16 0 l (by omega) (fun j hj => ?_)
    rw [Nat.zero_add]
    show _ = ws (nw (if hj : j < 16 then Classical.choose (hs j hj) else 0))
    rw [dif_pos hj]
    exact (Classical.choose_spec (hs j hj)).2
end Go.Proofs.YthhmdgmmeedhdaaGreat
namespace Go.Proofs.YthhmdgmmeedhdaaGreat
open Go.ChangeShapes Go.WideShapes Go.ChangeAt Go.RowKit Go.Deep
theorem open_rsl {α : Type} {f : α → List Value} {n : Nat} {T E : TypeId} {P : α → Prop} (hn : ∀ x, (f x).length = n) (h0n : 0 < n) (hu : Tryz.prog.underlying T = some (.slice E)) (hc : Tryz.prog.cellsOf E = n)
    {H : Type} {enc : TypeId × Value → H} {W : World} {base : Nat} {spare : Nat → Bool} {held : Bool} {a : Option Addr} {len cap : Nat} {d : DataW H} {p : List MemPlace}
    (hopen : ∀ (fuel : Nat) (cs : List Value) (x : DataW H × List MemPlace), DataW.trod enc Tryz.prog W base spare held fuel E cs = some x → (∀ m ∈ x.1.weights Tryz.prog E, m ≤ 140737488351232) → ∃ y, P y ∧ cs = f y)
    (h : DataW.Trod enc Tryz.prog W base spare held T (.slice a len cap) d p) (hw : ∀ m ∈ d.weights Tryz.prog T, m ≤ 140737488351232) :
    ∃ l : List α, RSl f 0 W.heap.size W (.slice a len cap) l ∧ ∀ x ∈ l, P x := by
  obtain ⟨fuel, hf⟩ := h
  rcases open_slice hu hf with h0 | ⟨ad, l, c, m, q, D, Pl, hcs, hb, hl, hm, hmm, hx, hi⟩
  · obtain ⟨hcs, _⟩ := h0
    simp [Value.cells] at hcs
    obtain ⟨rfl, rfl, rfl⟩ := hcs
    exact ⟨[], RSl.nil _ _ _, fun x hx => by simp at hx⟩
  · simp [Value.cells] at hcs
    obtain ⟨rfl, rfl, rfl⟩ := hcs
    have hlm : len ≤ m := by rw [hmm]; split <;> omega
    have hd : d = .slice ((List.range len).map D) ((List.range (m - len)).map fun j => D (len + j)) := (Prod.mk.inj hx).1
    have hwe : ∀ i, i < len → ∀ k ∈ (D i).weights Tryz.prog E, k ≤ 140737488351232 := fun i hil k hk => by
      refine hw k ?_
      rw [hd]
      simp only [DataW.weights, hu, List.mem_cons, List.mem_append]
      exact .inr (.inl (weightsAll_mem (List.mem_map.2 ⟨i, List.mem_range.2 hil, rfl⟩) k hk))
    have key : ∀ i, i < len → ∃ y : α, P y ∧ ∀ j v, (f y)[j]? = some v → W.cell? (ad.add (i * n + j)) = some v := fun i hil => by
      obtain ⟨cs', hcc, ht⟩ := hi i (by omega)
      rw [hc] at hcc
      obtain ⟨y, hy, rfl⟩ := hopen _ _ _ ht (hwe i hil)
      obtain ⟨_, hcl, hat⟩ := World.cells?_some hcc
      refine ⟨y, hy, fun j v hv => ?_⟩
      have hj : j < n := by have := (List.getElem?_eq_some_iff.1 hv).1; rwa [hn] at this
      have := hat j hj
      rw [add_add] at this
      rw [this, hv]
    obtain ⟨l, hl', hp⟩ := list_of key
    subst hl'
    refine ⟨l, ?_, fun x hx => ?_⟩
    · refine ⟨some ad, cap, rfl, hl, hm, ?_⟩
      by_cases hl0 : l = []
      · exact .inl hl0
      · obtain ⟨y0, l', rfl⟩ := List.exists_cons_of_ne_nil hl0
        obtain ⟨v0, hv0⟩ : ∃ v0, (f y0)[0]? = some v0 := ⟨_, List.getElem?_eq_getElem (by rw [hn]; exact h0n)⟩
        have h0 := (hp 0 y0 rfl).2 0 _ hv0
        obtain ⟨b, off, sp⟩ := ad
        have hsp : sp = none := by
          cases sp with
          | none => rfl
          | some _ => simp [Addr.add, World.cell?] at h0; split at h0 <;> simp at h0
        subst hsp
        rw [Nat.zero_mul, Nat.zero_add, add_plain] at h0
        refine .inr ⟨b, off, rfl, Nat.zero_le _, World.block_lt_of_cell? W _ h0, fun k v hk => ?_⟩
        have hkl : k < (y0 :: l').length * n := by have := (List.getElem?_eq_some_iff.1 hk).1; rwa [flat_len hn] at this
        have hq : k / n < (y0 :: l').length := Nat.div_lt_of_lt_mul (by rw [Nat.mul_comm]; exact hkl)
        have hy := List.getElem?_eq_getElem hq
        have hmod : k % n < n := Nat.mod_lt _ h0n
        have hcell := flat_cell hn hy hmod
        rw [show k / n * n + k % n = k by rw [Nat.mul_comm]; exact Nat.div_add_mod k n, hk] at hcell
        have := (hp (k / n) _ hy).2 (k % n) v hcell.symm
        rw [add_plain, show k / n * n + k % n = k by rw [Nat.mul_comm]; exact Nat.div_add_mod k n] at this
        exact this
    · obtain ⟨i, hi'⟩ := List.mem_iff_getElem?.1 hx
      exact (hp i x hi').1
end Go.Proofs.YthhmdgmmeedhdaaGreat
namespace Go.Proofs.YthhmdgmmeedhdaaGreat
open Go.ChangeShapes Go.WideShapes Go.ChangeAt Go.RowKit Go.Deep
set_option maxRecDepth 100000 in
theorem open_cells {α : Type} {f : α → List Value} {n : Nat} {T E : TypeId} {P : α → Prop} (hn : ∀ x, (f x).length = n) (h0n : 0 < n) (hu : Tryz.prog.underlying T = some (.slice E)) (hc : Tryz.prog.cellsOf E = n)
    {H : Type} {enc : TypeId × Value → H} {W : World} {base : Nat} {spare : Nat → Bool} {held : Bool} {fuel : Nat} {cs : List Value} {x : DataW H × List MemPlace}
    (hopen : ∀ (fuel : Nat) (cs : List Value) (x : DataW H × List MemPlace), DataW.trod enc Tryz.prog W base spare held fuel E cs = some x → (∀ m ∈ x.1.weights Tryz.prog E, m ≤ 140737488351232) → ∃ y, P y ∧ cs = f y)
    (h : DataW.trod enc Tryz.prog W base spare held fuel T cs = some x) (hw : ∀ m ∈ x.1.weights Tryz.prog T, m ≤ 140737488351232) :
    ∃ (sv : Value) (l : List α), cs = [sv] ∧ RSl f 0 W.heap.size W sv l ∧ (∀ x ∈ l, P x) ∧ l.length * Tryz.prog.bytesOf E ≤ 140737488351232 := by
  rcases open_slice hu h with ⟨rfl, rfl⟩ | ⟨ad, len, c, m, q, D, Pl, rfl, _, _, _, hmm, hx, _⟩
  · exact ⟨_, [], rfl, RSl.nil _ _ _, fun x hx => by simp at hx, by simp⟩
  · obtain ⟨l, hl, hp⟩ := open_rsl (d := x.1) (p := x.2) hn h0n hu hc hopen ⟨fuel, h⟩ hw
    have hlen : len = l.length := by
      have := hl.slice
      obtain ⟨a', c', e'⟩ := this
      cases e'
      rfl
    refine ⟨_, l, rfl, hl, hp, ?_⟩
    have := hw ((len + (m - len)) * Tryz.prog.bytesOf E) (by
      rw [hx]
      simp [DataW.weights, hu])
    rw [← hlen]
    exact Nat.le_trans (Nat.mul_le_mul_right _ (Nat.le_add_right _ _)) this
theorem Tryz.cellsNo : Tryz.prog.cellsOf 31 = 8 := by kernel_rfl
theorem Tryz.cellsLock : Tryz.prog.cellsOf 63 = 3 := by kernel_rfl
theorem Tryz.cellsLocks : Tryz.prog.cellsOf 32 = 1 := by kernel_rfl
theorem Tryz.cellsState : Tryz.prog.cellsOf 34 = 151 := by kernel_rfl
theorem Tryz.bytesLock : Tryz.prog.bytesOf 63 = 40 := by kernel_rfl
set_option maxRecDepth 100000 in
theorem trod_nos {H : Type} {enc : TypeId × Value → H} {w : World} {base : Nat} {spare : Nat → Bool} {held : Bool} {fuel : Nat} {l : List Value} {x : DataW H × List MemPlace}
    (h : DataW.trod enc Tryz.prog w base spare held fuel 31 l = some x) : ∃ f : Nat → Int, l = noc f := by
  obtain ⟨xs, m, rfl, _, hl, hn, hi⟩ := DataW.trod_array Tryz.underlying31 h
  rw [Tryz.cellsNo] at hl
  rw [Tryz.cellsInt] at hi
  have hs : ∀ j, j < 8 → ∃ z : Int, l[j]? = some (.int .i64 z) := fun j hj => by
    have h1 := hi j hj
    obtain ⟨x1, e1⟩ : ∃ x1, xs[j]? = some x1 := ⟨_, List.getElem?_eq_getElem (by omega)⟩
    rw [e1, Nat.mul_one] at h1
    obtain ⟨z, e, _, _⟩ := DataW.trod_int Tryz.underlying3 h1
    refine ⟨z, ?_⟩
    have := congrArg (fun l => l[0]?) e
    simpa [List.getElem?_take, List.getElem?_drop] using this
  refine ⟨fun j => if hj : j < 8 then Classical.choose (hs j hj) else 0, List.ext_getElem? fun j => ?_⟩
  by_cases hj : j < 8
  · rw [noc_at _ hj]
    refine (Classical.choose_spec (hs j hj)).trans ?_
    show _ = some (Value.int .i64 (if hj : j < 8 then Classical.choose (hs j hj) else 0))
    rw [dif_pos hj]
  · rw [List.getElem?_eq_none (by omega), List.getElem?_eq_none (by rw [noc_len]; omega)]
set_option maxRecDepth 100000 in
theorem trod_hec {H : Type} {enc : TypeId × Value → H} {w : World} {base : Nat} {spare : Nat → Bool} {held : Bool} {fuel : Nat} {l : List Value} {x : DataW H × List MemPlace}
    (h : DataW.trod enc Tryz.prog w base spare held fuel 28 l = some x) : ∃ b : Bk, (b 0 < M4 ∧ b 1 < M4) ∧ l = hec b := by
  obtain ⟨ys, m2, rfl, _, hl2, hn2, hi2⟩ := DataW.trod_array Tryz.underlying28 h
  rw [Tryz.cellsRow] at hl2
  rw [Tryz.cells24] at hi2
  have hs : ∀ j, j < 2 → ∃ n : Nat, n < M4 ∧ (l.drop (4 * j)).take 4 = ws (nw n) := fun j hj => by
    have h2 := hi2 j hj
    obtain ⟨x2, e2⟩ : ∃ x2, ys[j]? = some x2 := ⟨_, List.getElem?_eq_getElem (by omega)⟩
    rw [e2] at h2
    obtain ⟨n, hn, e⟩ := trod_wn h2
    exact ⟨n, hn, by rw [← e, Nat.mul_comm]⟩
  obtain ⟨n0, m0, e0⟩ := hs 0 (by omega)
  obtain ⟨n1, m1, e1⟩ := hs 1 (by omega)
  refine ⟨fun j => if j = 0 then n0 else n1, ⟨m0, m1⟩, rowB_of _ 2 0 l (by omega) (fun j hj => ?_)⟩
  obtain rfl | rfl : j = 0 ∨ j = 1 := by omega
  · exact e0
  · exact e1
set_option maxRecDepth 100000 in
theorem trod_lock {H : Type} {enc : TypeId × Value → H} {w : World} {base : Nat} {spare : Nat → Bool} {held : Bool} {fuel : Nat} {cs : List Value} {x : DataW H × List MemPlace}
    (h : DataW.trod enc Tryz.prog w base spare held fuel 63 cs = some x) : ∃ y : Lk, cs = lkc y := by
  obtain ⟨xs, n, _, hx, hcl, hlen, hg⟩ := DataW.trod_struct Tryz.underlying63 h
  rw [Tryz.cellsLock] at hcl
  match cs, hcl with
  | [c0, c1, c2], _ =>
  match xs, hlen with
  | [y0, y1, y2], _ =>
  have h0 := hg 0 ⟨ "Key", 9, 0, false, "", "", 0⟩ rfl
  have h1 := hg 1 ⟨ "Digest", 9, 1, false, "", "", 16⟩ rfl
  have h2 := hg 2 ⟨ "Status", 3, 2, false, "", "", 32⟩ rfl
  dsimp only at h0 h1 h2
  rw [Tryz.cellsStr] at h0 h1
  rw [Tryz.cellsInt] at h2
  simp only [List.drop_succ_cons, List.drop_zero, List.take_succ_cons, List.take_zero, List.getElem?_cons_zero, List.getElem?_cons_succ] at h0 h1 h2
  obtain ⟨s0, e0, _, _⟩ := DataW.trod_string Tryz.underlying9 h0
  obtain ⟨s1, e1, _, _⟩ := DataW.trod_string Tryz.underlying9 h1
  obtain ⟨z2, e2, _, _⟩ := DataW.trod_int Tryz.underlying3 h2
  simp at e0 e1 e2
  subst e0 e1 e2
  exact ⟨⟨s0, s1, z2⟩, rfl⟩
set_option maxRecDepth 100000 in
theorem cut151 {α : Type} (l : List α) (h : l.length = 151) : l = (l.drop 0).take 1 ++ ((l.drop 1).take 1 ++ ((l.drop 2).take 64 ++ ((l.drop 66).take 64 ++ ((l.drop 130).take 8 ++ ((l.drop 138).take 8 ++ ((l.drop 146).take 4 ++ (l.drop 150).take 1)))))) := by
  have drop_cut : ∀ o n m : Nat, o + n = m → l.drop o = (l.drop o).take n ++ l.drop m := fun o n m h => by
    subst h
    rw [← List.drop_drop, List.take_append_drop]
  have e : l.drop 151 = [] := List.drop_eq_nil_of_le (by omega)
  have k := drop_cut 150 1 151 rfl
  rw [e, List.append_nil] at k
  rw [← k, ← drop_cut 146 4 150 rfl, ← drop_cut 138 8 146 rfl, ← drop_cut 130 8 138 rfl, ← drop_cut 66 64 130 rfl, ← drop_cut 2 64 66 rfl, ← drop_cut 1 1 2 rfl, ← drop_cut 0 1 1 rfl, List.drop_zero]
set_option maxRecDepth 100000 in
set_option maxHeartbeats 1000000 in
theorem open_state {H : Type} {enc : TypeId × Value → H} {r : Reach} {w : World} {b0 base : Nat} {spare : Nat → Bool} {held : Bool} {v : Value} {d : DataW H} {p : List MemPlace}
    (hv : Value.okWide Tryz.prog w r b0 34 v) (h : DataW.Trod enc Tryz.prog w base spare held 34 v d p) (hw : ∀ n ∈ d.weights Tryz.prog 34, n ≤ 140737488351232) :
    ∃ (s : Es) (lv : Value), v = stv s lv ∧ OkK s.pu ∧ OkK s.va ∧ (s.he 0 < M4 ∧ s.he 1 < M4) ∧ s.bu < M4 ∧ RSl lkc 0 w.heap.size w lv s.lk ∧ s.lk.length * 40 ≤ 140737488351232 := by
  obtain ⟨cs, rfl⟩ := agg_of Tryz.underlying34 hv
  obtain ⟨fuel, hf⟩ := h
  obtain ⟨xs, n, _, hx, hcl, hlen, hg⟩ := DataW.trod_struct Tryz.underlying34 hf
  rw [Tryz.cellsState] at hcl
  match xs, hlen with
  | [y0, y1, y2, y3, y4, y5, y6, y7], _ =>
  have h0 := hg 0 ⟨ "Side", 3, 0, false, "", "", 0⟩ rfl
  have h1 := hg 1 ⟨ "Time", 3, 1, false, "", "", 8⟩ rfl
  have h2 := hg 2 ⟨ "Purse", 30, 2, false, "", "", 16⟩ rfl
  have h3 := hg 3 ⟨ "Vault", 30, 66, false, "", "", 528⟩ rfl
  have h4 := hg 4 ⟨ "Nonces", 31, 130, false, "", "", 1040⟩ rfl
  have h5 := hg 5 ⟨ "Held", 28, 138, false, "", "", 1104⟩ rfl
  have h6 := hg 6 ⟨ "Burnt", 27, 146, false, "", "", 1168⟩ rfl
  have h7 := hg 7 ⟨ "Locks", 32, 150, false, "", "", 1200⟩ rfl
  dsimp only at h0 h1 h2 h3 h4 h5 h6 h7
  rw [Tryz.cellsInt] at h0 h1
  rw [Tryz.cellsBook] at h2 h3
  rw [Tryz.cellsNo] at h4
  rw [Tryz.cellsRow] at h5
  rw [Tryz.cells24] at h6
  rw [Tryz.cellsLocks] at h7
  simp only [List.getElem?_cons_zero, List.getElem?_cons_succ] at h0 h1 h2 h3 h4 h5 h6 h7
  obtain ⟨z0, e0, _, _⟩ := DataW.trod_int Tryz.underlying3 h0
  obtain ⟨z1, e1, _, _⟩ := DataW.trod_int Tryz.underlying3 h1
  obtain ⟨pu, hpu, e2⟩ := trod_book h2
  obtain ⟨va, hva, e3⟩ := trod_book h3
  obtain ⟨no, e4⟩ := trod_nos h4
  obtain ⟨he, hhe, e5⟩ := trod_hec h5
  obtain ⟨bu, hbu, e6⟩ := trod_wn h6
  have hw7 : ∀ m ∈ y7.1.weights Tryz.prog 32, m ≤ 140737488351232 := fun m hm => by
    refine hw m ?_
    rw [show d = .agg [y0.1, y1.1, y2.1, y3.1, y4.1, y5.1, y6.1, y7.1] from (Prod.mk.inj hx).1]
    simp only [DataW.weights, Tryz.underlying34]
    exact DataW.weights_mem_each (j := 7) rfl rfl m hm
  obtain ⟨lv, lk, e7, hl, _, hlen⟩ := open_cells (f := lkc) (n := 3) (P := fun _ => True) lkc_len (by omega) Tryz.underlying32 Tryz.cellsLock (fun _ _ _ hq _ => by obtain ⟨y, e⟩ := trod_lock hq; exact ⟨y, trivial, e⟩) h7 hw7
  rw [Tryz.bytesLock] at hlen
  have hs := cut151 cs.toList hcl
  rw [show (Value.cells (Value.agg cs)).toList = cs.toList from rfl] at *
  rw [e0, e1, e2, e3, e4, e5, e6, e7] at hs
  refine ⟨⟨z0, z1, pu, va, no, he, bu, lk⟩, lv, ?_, hpu, hva, hhe, hbu, hl, hlen⟩
  show Value.agg cs = Value.agg (stc ⟨z0, z1, pu, va, no, he, bu, lk⟩ lv).toArray
  rw [show stc ⟨z0, z1, pu, va, no, he, bu, lk⟩ lv = cs.toList from by rw [hs]; rfl]
set_option maxRecDepth 100000 in
theorem open_txs {H : Type} {enc : TypeId × Value → H} {W : World} {base : Nat} {spare : Nat → Bool} {held : Bool} {a : Option Addr} {len cap : Nat} {d : DataW H} {p : List MemPlace}
    (h : DataW.Trod enc Tryz.prog W base spare held 22 (.slice a len cap) d p) (hw : ∀ m ∈ d.weights Tryz.prog 22, m ≤ 140737488351232) :
    ∃ l : List Tr, RSl (fun t => txc t) 0 W.heap.size W (.slice a len cap) l ∧ ∀ x ∈ l, OkT x :=
  open_rsl (n := 25) (fun _ => rfl) (by omega) Tryz.underlying22 Tryz.cellsTx (fun _ _ _ hq _ => by obtain ⟨t, e, hk⟩ := trod_tx hq; exact ⟨t, hk, e⟩) h hw
end Go.Proofs.YthhmdgmmeedhdaaGreat
namespace Go.Proofs.YthhmdgmmeedhdaaGreat
open Go.RowKit Go.Shelf
set_option maxRecDepth 100000 in
set_option maxHeartbeats 4000000 in
theorem bookTotal_any (b : Bk) (hb : OkK b) (s : Int) (w : World) :
    Calls Tryz.prog 16 #[bkv b, .int .i64 s] w (RetN (totB b s).1 (totB b s).2 w) := by
  have kB := (Blk.new w 30 (bkc b)).alloc (.cells #[.int .u64 0, .int .u64 0, .int .u64 0, .int .u64 0] 27)
  have kR : Blk ((w.alloc (.cells (bkc b).toArray 30)).alloc (.cells #[.int .u64 0, .int .u64 0, .int .u64 0, .int .u64 0] 27)) (w.heap.size + 1) 27 [.int .u64 0, .int .u64 0, .int .u64 0, .int .u64 0] := Blk.new' (by simp)
  have hB := chainA (chain0 w (.cells (bkc b).toArray 30)) (.cells #[.int .u64 0, .int .u64 0, .int .u64 0, .int .u64 0] 27)
  by_cases h : 0 ≤ s ∧ s < 2
  · have HP : Hid (assetB s = true) := Lib.hid (decide_eq_true h)
    have HT : Hid (∀ n, sumB b s.toNat = n → totB b s = (addN n 0, fitB n 0)) := Lib.hid fun n e => by
      subst e; unfold totB addN fitB
      rw [Nat.add_zero]
      by_cases hx : sumB b s.toNat < M4
      · rw [if_pos ⟨h, hx⟩, if_pos hx, decide_eq_true hx]
      · rw [if_neg (fun k => hx k.2), if_neg hx, decide_eq_false hx]
    obtain ⟨h3, h4⟩ := h
    obtain ⟨j, rfl⟩ : ∃ j : Nat, s = j := ⟨s.toNat, by omega⟩
    have hj : j < 2 := by omega
    have HW := Lib.hid (colW_sum hb hj)
    go_enter Tryz.func16, Tryz.ntmps16
    go_wp2_with (first
      | (go_at_call 39; refine (isAsset_any _ _).mono ?_; rw [HP.out]; rintro e w1 ⟨rfl, rfl⟩)
      | ((with_reducible refine wpList_loadIf 30 (.tmp 2) ?_ (some 13) ?_ ?_ (bkv b) ?_ ?_); (· rfl); (· rfl); (· rfl); (· exact load_book (kB.alloc _))))
    have kC0 : Blk (((w.alloc (.cells (bkc b).toArray 30)).alloc (.cells #[.int .u64 0, .int .u64 0, .int .u64 0, .int .u64 0] 27)).alloc (.cells (List.replicate 32 (Value.int .u64 0)).toArray 83)) (w.heap.size + 1 + 1) 83 (List.replicate 32 (Value.int .u64 0)) := Blk.new' (by simp)
    have kR0 := kR.alloc (.cells (List.replicate 32 (Value.int .u64 0)).toArray 83)
    have hB0 := chainA hB (.cells (List.replicate 32 (Value.int .u64 0)).toArray 83)
    rw [← colB_zero b j] at kC0
    generalize hX : World.alloc (World.alloc (World.alloc _ _) _) _ = X
    replace kC0 : Blk X (w.heap.size + 1 + 1) 83 (rowB (colB b j 0) 0 8) := by rw [← hX]; rw [colB_zero b j] at kC0 ⊢; exact kC0
    replace kR0 : Blk X (w.heap.size + 1) 27 [.int .u64 0, .int .u64 0, .int .u64 0, .int .u64 0] := by rw [← hX]; exact kR0
    replace hB0 : Below w.heap.size w X := by rw [← hX]; exact hB0
    clear hX kB kR hB
    go_loopw [14] (fun i wr => ∃ k : Nat, k ≤ 8 ∧ i = .int .i64 k ∧ Blk wr (w.heap.size + 1 + 1) 83 (rowB (colB b j k) 0 8) ∧ Blk wr (w.heap.size + 1) 27 [.int .u64 0, .int .u64 0, .int .u64 0, .int .u64 0] ∧ Below w.heap.size w wr) (fun i _ => 8 - (intOf i).toNat)
    case atStart => exact ⟨0, by omega, rfl, kC0, kR0, hB0⟩
    clear kC0 kR0 hB0
    case round =>
      obtain ⟨k, hk, rfl, kC, kR, hB⟩ := hrel
      by_cases hlt : k < 8
      · have hlt' : (k : Int) < 8 := by omega
        have kL := (Blk.new wr 28 (rowB b (2 * k) 2))
        have hpart : ((rowB b (2 * k) 2).drop (j * 4)).take (ws (nw (b (2 * k + j)))).length = ws (nw (b (2 * k + j))) := by
          rw [ws_len, show j * 4 = 4 * j by omega, rowB_drop b (2 * k) 2 (by omega), show 4 = 4 * 1 from rfl, rowB_take b (2 * k + j) (2 - j) (by omega), rowB, rowB, List.append_nil]
        have HL := Lib.hid (load_part kL (j * 4) (ws (nw (b (2 * k + j)))) hpart 27 _ Tryz.underlying27 rfl (by kernel_rfl))
        have kC1 := kC.alloc (.cells (rowB b (2 * k) 2).toArray 28)
        have HS := Lib.hid (colB_set b j hlt)
        clear hpart kL
        go_wp2_with (first
          | ((with_reducible refine wpList_indexTo ?_ 30 (.tmp 13) (.tmp 14) ?_ (some 17) ?_ (.agg (rowB b (2 * k) 2).toArray) ?_ ?_); (· rfl); (· rfl); (· rfl); (· exact idx_row b _ hlt))
          | ((with_reducible refine wpList_storeN 28 (.tmp 8) (.tmp 17) (.agg (rowB b (2 * k) 2).toArray) (rowB b (2 * k) 2) ?_ ?_ ?_ ?_ ?_ ?_ ?_ ?_ ?_ ?_); (· rfl); (· rfl); (· kernel_rfl); (· exact rowB_one _ _ _); (· rfl); (· rfl); (· rfl); (· rfl); (· rfl))
          | ((with_reducible refine wpList_loadIf 27 (.tmp 20) ?_ (some 21) ?_ ?_ (wn (b (2 * k + j))) ?_ ?_); (· rfl); (· rfl); (· rfl); (· exact HL.out))
          | ((with_reducible refine wpList_store_part 27 (.tmp 22) (.tmp 21) (rowB (colB b j (k + 1)) 0 8) kC1 (k * 4) (wn (b (2 * k + j))) (ws (nw (b (2 * k + j)))) ?_ ?_ ?_ ?_ ?_ ?_ ?_ ?_ ?_ ?_ ?_); (· rfl); (· rfl); (· rfl); (· rfl); (· rfl); (· rfl); (· kernel_rfl); (· rw [ws_len, rowB_len]; omega); (· rfl); (· exact HS.out)))
        have kC2 := kC1.row (rowB (colB b j (k + 1)) 0 8)
        have kR2 := (kR.alloc (.cells (rowB b (2 * k) 2).toArray 28)).rowO (rowB (colB b j (k + 1)) 0 8).toArray (show w.heap.size + 1 ≠ w.heap.size + 1 + 1 by omega)
        have hB2 := (chainA hB (.cells (rowB b (2 * k) 2).toArray 28)).grown (grownBy_row _ (w.heap.size + 1 + 1) (rowB (colB b j (k + 1)) 0 8).toArray) (chainA hB (.cells (rowB b (2 * k) 2).toArray 28)).size (fun e he => by cases he; omega)
        go_roundw
        case rel => exact ⟨k + 1, by omega, by simp, kC2, kR2, hB2⟩
        case measure => simp [intOf]; omega
      · obtain rfl : k = 8 := by omega
        have HSl := Lib.hid (colW_lies kC wr.heap.size kC.lt 8)
        have hlen : (colW b j).length * 32 ≤ 140737488351232 := by rw [colW_len]; omega
        rw [← ws_no] at kR
        go_wp2_with fail
        refine (wideSum_any _ _ _ (colW b j) hlen _ HSl.out).mono ?_
        rw [HW.out]
        have HT2 := Lib.hid (HT.out _ rfl)
        rw [show ((j : Int)).toNat = j from rfl] at HT2
        clear HT HW
        generalize sumB b j = n at *
        rintro e w2 h2
        obtain ⟨rfl, hb2⟩ := retN_of_add (x := n) (y := 0) h2
        replace kR := kR.below hb2 kR.lt
        replace hB := chain hB hb2
        clear h2 hb2 HSl hlen kC
        generalize addN n 0 = m at *
        generalize fitB n 0 = f at *
        go_wp2_with ((refine wpList_store_wn (.tmp 4) (.tmp 26) kR m ?_ ?_ ?_ ?_ ?_ ?_); (· rfl); (· rfl); (· rfl); (· rfl); (· rfl))
        exact bodyPost_ret (v := .tuple #[wn m, .bool f]) (res_num rfl _ rfl rfl (kR.row _)) rfl ⟨by rw [HT2.out], hB.grown (grownBy_row _ _ _) hB.size (fun e he => by cases he; omega)⟩
  · have HP : Hid (assetB s = false) := Lib.hid (decide_eq_false h)
    have HT : Hid (totB b s = (0, false)) := Lib.hid (if_neg fun k => h k.1)
    clear h
    go_enter Tryz.func16, Tryz.ntmps16
    go_wp2_with (go_at_call 39; refine (isAsset_any _ _).mono ?_; rw [HP.out]; rintro e w1 ⟨rfl, rfl⟩)
    exact bodyPost_ret (v := .tuple #[wn 0, .bool false]) (res_num rfl _ rfl rfl (by rw [ws_no]; exact kR)) rfl ⟨by rw [HT.out], hB⟩
end Go.Proofs.YthhmdgmmeedhdaaGreat
