/-
  The law: two states that are alike; The law: does a list have it; the next nonce; what is there at all; The law: what is there at all; What all readings of arguments share; A wide number among the arguments is four words; A number and a text have one cell each; Sizes within an argument; A transfer, and a side's data, among the arguments; A transaction among the arguments; What a law knows of a led
-/
import Derived.Test.YtfoemkmoambagaaGreatRows
import Derived.ProofKit
import Derived.OpenShut
import Derived.Laws.IdiomArrays
import Derived.Lib.SmallJoins
import Derived.Below
import Derived.Deep.Slices
import Derived.SizedLaws
import Derived.Carry
import Derived.ChangeMaps5
import Derived.JoinedCond
import Derived.Deep.Fields
import Derived.Test.YtfoemkmoambagaaGreatK13
namespace Go.Proofs.YtfoemkmoambagaaGreat
open Go.RowKit Go.Shelf
attribute [local irreducible] wpFrom
theorem eq_bkS (b : Bk) (w : World) : (Op.equalIn 10000 31 (.agg (bkc b).toArray) (.agg (bkc b).toArray)).run Tryz.prog w = .ok true w := (run_eqK 9996 b b w).trans (by rw [eqK_refl])
theorem eq_lkS (d : Nat) (x : Lk) (w : World) : (Op.equalIn (d + 2) 91 (.agg (lkc x).toArray) (.agg (lkc x).toArray)).run Tryz.prog w = .ok true w := by
  rw [run_equalIn_struct w (d + 1) 91 _ _ (by kernel_rfl) (by kernel_rfl)]
  simp only [Program.fieldsOf, Tryz.underlying91]
  have hi : ∀ y : Int, (Op.equalIn (d + 1) 3 (.int .i64 y) (.int .i64 y)).run Tryz.prog w = .ok true w := fun y => (run_equalIn_int w d 3 .i64 .i64 y y Tryz.underlying3).trans (by rw [beq_self_eq_true])
  have hs : ∀ y : ByteArray, (Op.equalIn (d + 1) 9 (.string y) (.string y)).run Tryz.prog w = .ok true w := fun y => (run_equalIn_string w d 9 y y Tryz.underlying9).trans (by rw [beq_self_eq_true])
  refine eqF_cons (r := true) (s := true) (by decide) (part_str _ _ _ rfl w) (part_str _ _ _ rfl w) (hs _) ?_
  refine eqF_cons (r := true) (s := true) (by decide) (part_str _ _ _ rfl w) (part_str _ _ _ rfl w) (hs _) ?_
  refine eqF_cons (r := true) (s := true) (by decide) (part_int _ _ _ rfl w) (part_int _ _ _ rfl w) (hi _) ?_
  exact eqF_nil
set_option maxRecDepth 100000 in
set_option maxHeartbeats 4000000 in
theorem same13_any (s : Es) (v1 v2 : Value) (w : World) {lo1 hi1 lo2 hi2 : Nat} (hl1 : RSl lkc lo1 hi1 w v1 s.lk) (hh1 : hi1 ≤ w.heap.size) (hl2 : RSl lkc lo2 hi2 w v2 s.lk) (hh2 : hi2 ≤ w.heap.size) :
    Calls Tryz.prog 19 #[stv s v1, stv s v2] w fun e W' => e = .returned (.bool true) ∧ Below w.heap.size w W' := by
  have hmx : Tryz.prog.follows .mixedOrders = true := by kernel_rfl
  have HE1 := Lib.hid (fun k x (hx : s.lk[k]? = some x) => hl1.elem lkc_len hx Tryz.underlying33 (fun W => by kernel_rfl))
  have HE2 := Lib.hid (fun k x (hx : s.lk[k]? = some x) => hl2.elem lkc_len hx Tryz.underlying33 (fun W => by kernel_rfl))
  have hmax := hl1.len
  obtain ⟨p1, c1, rfl⟩ := hl1.slice
  obtain ⟨p2, c2, rfl⟩ := hl2.slice
  have HL1 := Lib.hid hl1
  have HL2 := Lib.hid hl2
  unfold maxLen at hmax
  have HMX := Lib.hid hmax
  have HH1 := Lib.hid hh1
  have HH2 := Lib.hid hh2
  clear hl1 hl2 hmax hh1 hh2
  have hM := Mem.start w
  go_enter Tryz.func19, Tryz.ntmps19
  go_upto_region 0 with fail
  refine wp_region_fromM (fun W => Mem w none [] W) hM ?_
  clear hM
  rintro Y1 hM
  refine rF (some 2) (pt Y1.heap.size 0) (Y1.alloc (.cells (stc s (.slice p1 s.lk.length c1)).toArray 35)) ?_
  replace hM := hM.alloc 35 (stc s (.slice p1 s.lk.length c1))
  generalize World.alloc _ _ = Y2 at *
  generalize hNe : Y1.heap.size = P1 at *
  clear hNe
  refine rF (some 3) (pt Y2.heap.size 0) (Y2.alloc (.cells (stc s (.slice p2 s.lk.length c2)).toArray 35)) ?_
  replace hM := hM.alloc 35 (stc s (.slice p2 s.lk.length c2))
  generalize World.alloc _ _ = Y3 at *
  generalize hNe : Y2.heap.size = P2 at *
  clear hNe
  refine tF 3 [.val 2 (some 4) (.bool false)] trivial ?_
  refine dF ?_
  try simp only [puts, Tk.put, Act.put, List.setIfInBounds_toArray, List.set_cons_zero, List.set_cons_succ]
  go_upto_region 1 with fail
  refine wp_region_fromM (fun W => Mem w none [(P2, 35, stc s (.slice p2 s.lk.length c2)), (P1, 35, stc s (.slice p1 s.lk.length c1))] W) hM ?_
  clear hM
  rintro Y4 hM
  refine tF 17 [.val 0 (some 6) (pt P1 0), .load 1 (some 7) 3 (pt P1 0) (.int .i64 s.sd), .val 2 (some 8) (pt P2 0), .load 3 (some 9) 3 (pt P2 0) (.int .i64 s.sd), .alt 4 (some 10) (.bool (s.sd != s.sd)) (.bool false), .val 5 (some 11) (.bool false), .val 6 (some 12) (pt P1 1), .load 7 (some 13) 3 (pt P1 1) (.int .i64 s.tm), .val 8 (some 14) (pt P2 1), .load 9 (some 15) 3 (pt P2 1) (.int .i64 s.tm), .alt 10 (some 16) (.bool (s.tm != s.tm)) (.bool false), .val 11 (some 17) (.bool false), .val 12 (some 18) (.bool false), .val 13 (some 19) (pt P1 2), .load 14 (some 20) 31 (pt P1 2) (bkv s.pu), .val 15 (some 21) (pt P2 2), .load 16 (some 22) 31 (pt P2 2) (bkv s.pu)] ⟨ld_int (hM.at 1 rfl) 0 rfl, ld_int (hM.at 0 rfl) 0 rfl, congrArg Value.bool (bne_self_eq_false s.sd), ld_int (hM.at 1 rfl) 1 rfl, ld_int (hM.at 0 rfl) 1 rfl, congrArg Value.bool (bne_self_eq_false s.tm), ld_pu (s := s) (hM.at 1 rfl), ld_pu (s := s) (hM.at 0 rfl), trivial⟩ ?_
  refine neA (.tmp 20) (.tmp 22) 31 (some 23) (bkc s.pu).toArray (bkc s.pu).toArray true (eq_bkS s.pu _) ?_
  refine tF 24 [.val 18 (some 24) (.bool false), .val 19 (some 25) (.bool false), .val 20 (some 26) (pt P1 66), .load 21 (some 27) 31 (pt P1 66) (bkv s.va), .val 22 (some 28) (pt P2 66), .load 23 (some 29) 31 (pt P2 66) (bkv s.va)] ⟨ld_va (s := s) (hM.at 1 rfl), ld_va (s := s) (hM.at 0 rfl), trivial⟩ ?_
  refine neA (.tmp 27) (.tmp 29) 31 (some 30) (bkc s.va).toArray (bkc s.va).toArray true (eq_bkS s.va _) ?_
  refine tF 31 [.val 25 (some 31) (.bool false), .val 26 (some 32) (.bool false), .val 27 (some 33) (pt P1 130), .load 28 (some 34) 32 (pt P1 130) (.agg (noc s.no).toArray), .val 29 (some 35) (pt P2 130), .load 30 (some 36) 32 (pt P2 130) (.agg (noc s.no).toArray)] ⟨ld_noA (s := s) (hM.at 1 rfl), ld_noA (s := s) (hM.at 0 rfl), trivial⟩ ?_
  refine neA (.tmp 34) (.tmp 36) 32 (some 37) (noc s.no).toArray (noc s.no).toArray true (eq_no Tryz.underlying32 9998 s.no _) ?_
  refine tF 38 [.val 32 (some 38) (.bool false), .val 33 (some 39) (.bool false), .val 34 (some 40) (pt P1 138), .load 35 (some 41) 29 (pt P1 138) (.agg (rowB s.he 0 2).toArray), .val 36 (some 42) (pt P2 138), .load 37 (some 43) 29 (pt P2 138) (.agg (rowB s.he 0 2).toArray)] ⟨ld_heA (s := s) (hM.at 1 rfl), ld_heA (s := s) (hM.at 0 rfl), trivial⟩ ?_
  refine neA (.tmp 41) (.tmp 43) 29 (some 44) (rowB s.he 0 2).toArray (rowB s.he 0 2).toArray true (eq_row (n := 2) Tryz.underlying29 9997 s.he _) ?_
  refine tF 45 [.val 39 (some 45) (.bool false), .val 40 (some 46) (.bool false), .val 41 (some 47) (pt P1 146), .load 42 (some 48) 28 (pt P1 146) (wn s.bu), .val 43 (some 49) (pt P2 146), .load 44 (some 50) 28 (pt P2 146) (wn s.bu)] ⟨ld_bu (s := s) (hM.at 1 rfl), ld_bu (s := s) (hM.at 0 rfl), trivial⟩ ?_
  refine neA (.tmp 48) (.tmp 50) 28 (some 51) (ws (nw s.bu)).toArray (ws (nw s.bu)).toArray true (eq_wn 9998 s.bu _) ?_
  refine tF 50 [.val 46 (some 52) (.bool false), .val 47 (some 53) (.bool false), .val 48 (some 54) (pt P1 150), .load 49 (some 55) 33 (pt P1 150) ((.slice p1 s.lk.length c1))] ⟨ld_lk (s := s) (hM.at 1 rfl), trivial⟩ ?_
  refine rF (some 56) (.int .i64 s.lk.length) (Y4) ?_
  refine tF 53 [.val 51 (some 57) (pt P2 150), .load 52 (some 58) 33 (pt P2 150) ((.slice p2 s.lk.length c2))] ⟨ld_lk (s := s) (hM.at 0 rfl), trivial⟩ ?_
  refine rF (some 59) (.int .i64 s.lk.length) (Y4) ?_
  refine tF 56 [.alt 54 (some 60) (.bool ((s.lk.length : Int) != (s.lk.length : Int))) (.bool false), .val 55 (some 61) (.bool false)] ⟨congrArg Value.bool (bne_self_eq_false _), trivial⟩ ?_
  refine dF ?_
  try simp only [puts, Tk.put, Act.put, List.setIfInBounds_toArray, List.set_cons_zero, List.set_cons_succ]
  go_wp2_with fail
  go_loopw [5] (fun i wr => ∃ k : Nat, k ≤ s.lk.length ∧ i = .int .i64 (k : Nat) ∧ Mem w none [(P2, 35, stc s (.slice p2 s.lk.length c2)), (P1, 35, stc s (.slice p1 s.lk.length c1))] wr) (fun i _ => s.lk.length - (intOf i).toNat)
  case atStart => exact ⟨0, Nat.zero_le _, rfl, hM⟩
  clear hM
  case round =>
    obtain ⟨k, hk, rfl, hM⟩ := hrel
    by_cases hlt : k < s.lk.length
    · obtain ⟨x, hx⟩ : ∃ x, s.lk[k]? = some x := ⟨_, List.getElem?_eq_getElem hlt⟩
      obtain ⟨b1, o1, _, _, hi1, hc1⟩ := HE1.out k x hx
      obtain ⟨b2, o2, _, _, hi2, hc2⟩ := HE2.out k x hx
      have HI1 := Lib.hid hi1
      have HC1 := Lib.hid hc1
      have HI2 := Lib.hid hi2
      have HC2 := Lib.hid hc2
      have hlt' : (k : Int) < (s.lk.length : Int) := by omega
      have HLT := Lib.hid hlt
      clear hx hi1 hc1 hi2 hc2 hlt
      go_upto_region 4 with fail
      refine wp_region_fromM (fun W => Mem w none [(P2, 35, stc s (.slice p2 s.lk.length c2)), (P1, 35, stc s (.slice p1 s.lk.length c1))] W) hM ?_
      clear hM
      rintro Y5 hM
      refine tF 3 [.val 0 (some 62) (.int .i64 (k : Int)), .val 1 (some 63) (pt P1 150), .load 2 (some 64) 33 (pt P1 150) ((.slice p1 s.lk.length c1))] ⟨ld_lk (s := s) (hM.at 1 rfl), trivial⟩ ?_
      refine rF (some 65) (.int .i64 s.lk.length) (Y5) ?_
      refine tF 5 [.alt 4 (some 66) (.bool (decide ((k : Int) < (s.lk.length : Int)))) (.bool true)] ⟨congrArg Value.bool (decide_eq_true hlt'), trivial⟩ ?_
      refine dF ?_
      try simp only [puts, Tk.put, Act.put, List.setIfInBounds_toArray, List.set_cons_zero, List.set_cons_succ]
      go_upto_region 6 with fail
      refine wp_region_M (fun W => Mem w none [(P2, 35, stc s (.slice p2 s.lk.length c2)), (P1, 35, stc s (.slice p1 s.lk.length c1))] W) (fun W => Mem w none [(P2, 35, stc s (.slice p2 s.lk.length c2)), (P1, 35, stc s (.slice p1 s.lk.length c1))] W) hmx hM.drew ?_
      clear hM
      rintro Y6 hM
      have hS := hM.sub (.cons_cons _ (.cons_cons _ .slnil))
      refine tD 1 [.val 0 (some 69) (pt P1 150), .load 1 (some 70) 33 (pt P1 150) ((.slice p1 s.lk.length c1)), .val 2 (some 71) (.int .i64 (k : Int)), .idx 3 (some 72) 33 ((.slice p1 s.lk.length c1)) (.int .i64 (k : Int)) (pt b1 o1), .load 4 (some 73) 91 (pt b1 o1) (.agg (lkc x).toArray), .val 5 (some 74) (pt P2 150), .load 6 (some 75) 33 (pt P2 150) ((.slice p2 s.lk.length c2)), .val 7 (some 76) (.int .i64 (k : Int)), .idx 8 (some 77) 33 ((.slice p2 s.lk.length c2)) (.int .i64 (k : Int)) (pt b2 o2), .load 9 (some 78) 91 (pt b2 o2) (.agg (lkc x).toArray)] ⟨fun W h => ld_lk (s := s) (h.at 1 rfl), fun W h => HI1.out _, fun W h => ld_lkS (HC1.out _ (HL1.out.below h.b HH1.out)), fun W h => ld_lk (s := s) (h.at 0 rfl), fun W h => HI2.out _, fun W h => ld_lkS (HC2.out _ (HL2.out.below h.b HH2.out)), trivial⟩ hS ?_
      refine oD 10 0 (neD (.tmp 73) (.tmp 78) 91 (some 79) (lkc x).toArray (eq_lkS 9998 x _) hS ?_)
      refine dD ?_
      try simp only [puts, Tk.put, Act.put, List.setIfInBounds_toArray, List.set_cons_zero, List.set_cons_succ]
      clear hS
      have hmx2 := HMX.out
      have hlt2 := HLT.out
      have hwr : IntKind.i64.wrap ((k : Int) + 1) = ((k + 1 : Nat) : Int) := (IntWalk.i64_in _ (by omega)).trans (by omega)
      go_wp2_with fail
      go_roundw
      case rel => exact ⟨k + 1, HLT.out, by go_num, hM⟩
      case measure => have := HLT.out; simp [intOf]; omega
    · obtain rfl : k = s.lk.length := by omega
      go_upto_region 4 with fail
      refine wp_region_fromM (fun W => Mem w none [(P2, 35, stc s (.slice p2 s.lk.length c2)), (P1, 35, stc s (.slice p1 s.lk.length c1))] W) hM ?_
      clear hM
      rintro Y7 hM
      refine tF 3 [.val 0 (some 62) (.int .i64 (s.lk.length : Int)), .val 1 (some 63) (pt P1 150), .load 2 (some 64) 33 (pt P1 150) ((.slice p1 s.lk.length c1))] ⟨ld_lk (s := s) (hM.at 1 rfl), trivial⟩ ?_
      refine rF (some 65) (.int .i64 s.lk.length) (Y7) ?_
      refine tF 5 [.alt 4 (some 66) (.bool (decide ((s.lk.length : Int) < (s.lk.length : Int)))) (.bool false)] ⟨congrArg Value.bool (decide_eq_false (by omega)), trivial⟩ ?_
      refine dF ?_
      try simp only [puts, Tk.put, Act.put, List.setIfInBounds_toArray, List.set_cons_zero, List.set_cons_succ]
      go_wp2_with fail
      go_ret
      exact ⟨rfl, hM.b⟩
end Go.Proofs.YtfoemkmoambagaaGreat
namespace Go.Proofs.YtfoemkmoambagaaGreat
open Go.RowKit Go.Shelf
attribute [local irreducible] wpFrom wpAnyH StepH
theorem ite_no {c : Prop} [Decidable c] {p q : Es × Int} {f : Nat → Int} (h1 : p.1.no = f) (h2 : q.1.no = f) : (if c then p else q).1.no = f := by
  by_cases h : c
  · rw [if_pos h]; exact h1
  · rw [if_neg h]; exact h2
theorem done_no (o : Orc) (s : Es) (t : Tr) : (doneE o s t).1.no = s.no := by
  unfold doneE plainE prepE fulE canE
  repeat' (first | apply ite_no | rfl)
theorem taken_no {s : Es} (hs : OkE s) {t : Tr} (h : (applyP s t).2.2 = true) : errT t = 0 ∧ t.no = s.no t.fr.toNat ∧ (applyP s t).1.no = fun i => if i = t.fr.toNat then s.no i + 1 else s.no i := by
  rw [apply_eq hs t] at h ⊢
  obtain ⟨⟨h1, h2, _, _⟩, h3⟩ := apply_yes h
  refine ⟨h1, h2, ?_⟩
  rcases h3 with ⟨_, h3⟩ | ⟨_, _, h3⟩
  · rw [h3]; rfl
  · rw [h3, done_no]; rfl
theorem submit_is {B : Nat} {r : Res} {c c' : Ch} {t : Tr} {b : Bool} {w W' : World} {e : Ending} (hb : submitB c t = b) (hc : submitC c t = c') (h : ChR B r (submitC c t) (.bool (submitB c t)) w e W') : ChR B r c' (.bool b) w e W' := by subst hb; subst hc; exact h
theorem incl_is {B : Nat} {r : Res} {c c' : Ch} {i : Int} {b : Bool} {w W' : World} {e : Ending} (hi : inclC c i = (c', b)) (h : ChR B r (inclC c i).1 (.bool (inclC c i).2) w e W') : ChR B r c' (.bool b) w e W' := by rw [hi] at h; exact h
theorem take_any {l : List Tr} {k : Nat} {x : Tr} {p : Tr → Bool} (hx : l[k]? = some x) : (l.take (k + 1)).any p = ((l.take k).any p || p x) := by
  obtain ⟨hk, rfl⟩ := List.getElem?_eq_some_iff.1 hx
  rw [List.take_succ_eq_append_getElem hk, List.any_append]
  simp
set_option maxRecDepth 100000 in
set_option maxHeartbeats 4000000 in
theorem has13_any (l : List Tr) (t : Tr) (lv : Value) (w : World) {lo hi : Nat} (hl : RSl (fun t => txc t) lo hi w lv l) (hhi : hi ≤ w.heap.size) : Calls Tryz.prog 11 #[lv, txv t] w fun e W' => e = .returned (.bool (l.any fun x => eqT x t)) ∧ Below w.heap.size w W' := by
  have hmx : Tryz.prog.follows .mixedOrders = true := by kernel_rfl
  have HET := Lib.hid (fun k x (hx : l[k]? = some x) => hl.elem txc_25 hx Tryz.underlying37 (fun W => by kernel_rfl))
  have hml := hl.len
  obtain ⟨pl, cl, rfl⟩ := hl.slice
  unfold maxLen at hml
  have HLT := Lib.hid hl
  have HHT := Lib.hid hhi
  have HML := Lib.hid hml
  clear hl hhi hml
  have hM := Sep.start w
  go_enter Tryz.func11, Tryz.ntmps11
  go_upto_region 0 with fail
  refine wp_region_fromM (fun W => Sep w [] [] W) hM ?_
  clear hM
  rintro Y1 hM
  refine rF (some 3) (pt Y1.heap.size 0) (Y1.alloc (.cells (txc t).toArray 44)) ?_
  replace hM := hM.alloc 44 (txc t)
  generalize World.alloc _ _ = Y2 at *
  generalize hNe : Y1.heap.size = T at *
  clear hNe
  refine tF 2 [.val 1 (some 4) (.bool false)] trivial ?_
  refine dF ?_
  try simp only [puts, Tk.put, Act.put, List.setIfInBounds_toArray, List.set_cons_zero, List.set_cons_succ]
  go_upto_region 1 with fail
  refine wp_region_fromM (fun W => Sep w [] [.blk T 44 (txc t)] W) hM ?_
  clear hM
  rintro Y3 hM
  refine tF 1 [.val 0 (some 5) (.int .i64 0)] trivial ?_
  refine dF ?_
  try simp only [puts, Tk.put, Act.put, List.setIfInBounds_toArray, List.set_cons_zero, List.set_cons_succ]
  go_wp2_with fail
  go_loopw [5] (fun i wr => ∃ k : Nat, k ≤ l.length ∧ i = .int .i64 (k : Nat) ∧ ((l.take k).any fun x => eqT x t) = false ∧ Sep w [] [.blk T 44 (txc t)] wr) (fun i _ => l.length - (intOf i).toNat)
  case atStart => exact ⟨0, Nat.zero_le _, rfl, rfl, hM⟩
  clear hM
  case round =>
    obtain ⟨k, hk, rfl, hno, hM⟩ := hrel
    have HN := Lib.hid hno
    clear hno
    by_cases hlt : k < l.length
    · obtain ⟨x, hx⟩ : ∃ x, l[k]? = some x := ⟨_, List.getElem?_eq_getElem hlt⟩
      obtain ⟨bt, ot, _, _, hit, hct⟩ := HET.out k x hx
      have HX := Lib.hid hx
      have HIT := Lib.hid hit
      have HCT := Lib.hid hct
      have HLTK := Lib.hid hlt
      have hlt' : (k : Int) < (l.length : Int) := by omega
      clear hx hit hct hlt
      go_upto_region 2 with fail
      refine wp_region_fromM (fun W => Sep w [] [.blk T 44 (txc t)] W) hM ?_
      clear hM
      rintro Y4 hM
      refine tF 2 [.val 0 (some 6) (.int .i64 (k : Int)), .val 1 (some 7) (.slice pl l.length cl)] trivial ?_
      refine rF (some 8) (.int .i64 l.length) (Y4) ?_
      refine tF 4 [.alt 3 (some 9) (.bool (decide ((k : Int) < (l.length : Int)))) (.bool true)] ⟨congrArg Value.bool (decide_eq_true hlt'), trivial⟩ ?_
      refine dF ?_
      try simp only [puts, Tk.put, Act.put, List.setIfInBounds_toArray, List.set_cons_zero, List.set_cons_succ]
      go_upto_region 4 with fail
      refine wp_region_M (fun W => Sep w [] [.blk T 44 (txc t)] W) (fun W => Sep w [] [.blk T 44 (txc t)] W) hmx hM.drew ?_
      clear hM
      rintro Y5 hM
      have hS := hM.sub (.cons_cons _ .slnil)
      refine tD 1 [.val 0 (some 12) (.slice pl l.length cl), .val 1 (some 13) (.int .i64 (k : Int)), .idx 2 (some 14) 37 (.slice pl l.length cl) (.int .i64 (k : Int)) (pt bt ot), .load 3 (some 15) 44 (pt bt ot) (txv x), .load 4 (some 16) 44 (pt T 0) (txv t)] ⟨fun W h => HIT.out _, fun W h => ld_txS (HCT.out _ (HLT.out.below h.b HHT.out)), fun W h => ld_tx (h.at 0 rfl), trivial⟩ hS ?_
      refine oD 5 0 (eqD (.tmp 15) (.tmp 16) 44 (some 17) (txc x).toArray (txc t).toArray (eqT x t) (run_eqT x t _) hS ?_)
      refine dD ?_
      try simp only [puts, Tk.put, Act.put, List.setIfInBounds_toArray, List.set_cons_zero, List.set_cons_succ]
      clear hS
      cases he : eqT x t with
      | true =>
        have HE := Lib.hid he
        clear he
        go_wp2_with fail
        go_ret
        refine ⟨?_, hM.b⟩
        rw [show (l.any fun x => eqT x t) = true from List.any_eq_true.2 ⟨x, List.mem_of_getElem? HX.out, HE.out⟩]
        rfl
      | false =>
        have HE := Lib.hid he
        have hml := HML.out
        have hlt2 := HLTK.out
        have hwr : IntKind.i64.wrap ((k : Int) + 1) = ((k + 1 : Nat) : Int) := (IntWalk.i64_in _ (by omega)).trans (by omega)
        clear he
        go_wp2_with fail
        go_roundw
        case rel => exact ⟨k + 1, HLTK.out, by go_num, by rw [take_any HX.out, HN.out, HE.out]; rfl, hM⟩
        case measure => have := HLTK.out; simp [intOf]; omega
    · obtain rfl : k = l.length := by omega
      go_upto_region 2 with fail
      refine wp_region_fromM (fun W => Sep w [] [.blk T 44 (txc t)] W) hM ?_
      clear hM
      rintro Y6 hM
      refine tF 2 [.val 0 (some 6) (.int .i64 (l.length : Int)), .val 1 (some 7) (.slice pl l.length cl)] trivial ?_
      refine rF (some 8) (.int .i64 l.length) (Y6) ?_
      refine tF 4 [.alt 3 (some 9) (.bool (decide ((l.length : Int) < (l.length : Int)))) (.bool false)] ⟨congrArg Value.bool (decide_eq_false (by omega)), trivial⟩ ?_
      refine dF ?_
      try simp only [puts, Tk.put, Act.put, List.setIfInBounds_toArray, List.set_cons_zero, List.set_cons_succ]
      go_wp2_with fail
      go_ret
      refine ⟨?_, hM.b⟩
      have h := HN.out
      rw [List.take_length] at h
      rw [h]
      rfl
set_option maxRecDepth 100000 in
set_option maxHeartbeats 4000000 in
theorem next13_out (s : Es) (v : Value) (l : List Tr) (a : Int) (ha : a < 0 ∨ 8 ≤ a) (lv : Value) (w : World) {lo hi : Nat} (hl : RSl (fun t => txc t) lo hi w lv l) (hhi : hi ≤ w.heap.size) : Calls Tryz.prog 23 #[stv s v, lv, .int .i64 a] w fun e W' => e = .returned (.int .i64 0) ∧ Below w.heap.size w W' := by
  have hmx : Tryz.prog.follows .mixedOrders = true := by kernel_rfl
  have HET := Lib.hid (fun k x (hx : l[k]? = some x) => hl.elem txc_25 hx Tryz.underlying37 (fun W => by kernel_rfl))
  have hml := hl.len
  obtain ⟨pl, cl, rfl⟩ := hl.slice
  unfold maxLen at hml
  have HLT := Lib.hid hl
  have HHT := Lib.hid hhi
  have HML := Lib.hid hml
  clear hl hhi hml
  have HA := Lib.hid ha
  clear ha
  have hM := Sep.start w
  go_enter Tryz.func23, Tryz.ntmps23
  go_upto_region 0 with fail
  refine wp_region_fromM (fun W => Sep w [] [] W) hM ?_
  clear hM
  rintro Y1 hM
  refine rF (some 3) (pt Y1.heap.size 0) (Y1.alloc (.cells (stc s v).toArray 35)) ?_
  replace hM := hM.alloc 35 (stc s v)
  generalize World.alloc _ _ = Y2 at *
  generalize hNe : Y1.heap.size = P at *
  clear hNe
  refine tF 2 [.val 1 (some 6) (.int .i64 0)] trivial ?_
  refine dF ?_
  try simp only [puts, Tk.put, Act.put, List.setIfInBounds_toArray, List.set_cons_zero, List.set_cons_succ]
  by_cases hq : a < 0
  · go_upto_region 1 with fail
    refine wp_region_fromM (fun W => Sep w [] [.blk P 35 (stc s v)] W) hM ?_
    clear hM
    rintro Y3 hM
    refine tF 6 [.val 0 (some 10) (.int .i64 a), .alt 1 (some 11) (.bool (decide (a < 0))) (.bool true), .val 2 (some 12) (.bool true), .skip 3 (some 13), .skip 4 (some 14), .val 5 (some 15) (.bool true)] ⟨congrArg Value.bool (decide_eq_true (by have := HA.out; omega)), trivial⟩ ?_
    refine dF ?_
    try simp only [puts, Tk.put, Act.put, List.setIfInBounds_toArray, List.set_cons_zero, List.set_cons_succ]
    go_wp2_with fail
    go_ret
    exact ⟨rfl, hM.b⟩
  · go_upto_region 1 with fail
    refine wp_region_fromM (fun W => Sep w [] [.blk P 35 (stc s v)] W) hM ?_
    clear hM
    rintro Y4 hM
    refine tF 6 [.val 0 (some 10) (.int .i64 a), .alt 1 (some 11) (.bool (decide (a < 0))) (.bool false), .val 2 (some 12) (.bool false), .val 3 (some 13) (.int .i64 a), .alt 4 (some 14) (.bool (decide (7 < a))) (.bool true), .val 5 (some 15) (.bool true)] ⟨congrArg Value.bool (decide_eq_false (by have := HA.out; omega)), congrArg Value.bool (decide_eq_true (by have := HA.out; omega)), trivial⟩ ?_
    refine dF ?_
    try simp only [puts, Tk.put, Act.put, List.setIfInBounds_toArray, List.set_cons_zero, List.set_cons_succ]
    go_wp2_with fail
    go_ret
    exact ⟨rfl, hM.b⟩
theorem take_one {l : List Tr} {k : Nat} {x : Tr} (hx : l[k]? = some x) : l.take (k + 1) = l.take k ++ [x] := by
  obtain ⟨hk, rfl⟩ := List.getElem?_eq_some_iff.1 hx
  exact List.take_succ_eq_append_getElem hk
set_option maxRecDepth 100000 in
set_option maxHeartbeats 4000000 in
theorem next13_in (s : Es) (v : Value) (l : List Tr) {a : Nat} (ha : a < 8) (htx : ∀ t ∈ l, errT t = 0) (hn8 : l.length ≤ 16384) (lv : Value) (w : World) {lo hi : Nat} (hl : RSl (fun t => txc t) lo hi w lv l) (hhi : hi ≤ w.heap.size) : Calls Tryz.prog 23 #[stv s v, lv, .int .i64 (a : Int)] w fun e W' => e = .returned (.int .i64 (passesN (a : Int) l (l.length + 1) (s.no a))) ∧ Below w.heap.size w W' := by
  have hmx : Tryz.prog.follows .mixedOrders = true := by kernel_rfl
  have HET := Lib.hid (fun k x (hx : l[k]? = some x) => hl.elem txc_25 hx Tryz.underlying37 (fun W => by kernel_rfl))
  have hml := hl.len
  obtain ⟨pl, cl, rfl⟩ := hl.slice
  unfold maxLen at hml
  have HLT := Lib.hid hl
  have HHT := Lib.hid hhi
  have HML := Lib.hid hml
  clear hl hhi hml
  have HA := Lib.hid ha
  have HTX := Lib.hid htx
  have HN8 := Lib.hid hn8
  clear htx hn8
  have hM := Sep.start w
  go_enter Tryz.func23, Tryz.ntmps23
  go_upto_region 0 with fail
  refine wp_region_fromM (fun W => Sep w [] [] W) hM ?_
  clear hM
  rintro Y1 hM
  refine rF (some 3) (pt Y1.heap.size 0) (Y1.alloc (.cells (stc s v).toArray 35)) ?_
  replace hM := hM.alloc 35 (stc s v)
  generalize World.alloc _ _ = Y2 at *
  generalize hNe : Y1.heap.size = P at *
  clear hNe
  refine tF 2 [.val 1 (some 6) (.int .i64 0)] trivial ?_
  refine dF ?_
  try simp only [puts, Tk.put, Act.put, List.setIfInBounds_toArray, List.set_cons_zero, List.set_cons_succ]
  go_upto_region 1 with fail
  refine wp_region_fromM (fun W => Sep w [] [.blk P 35 (stc s v)] W) hM ?_
  clear hM
  rintro Y3 hM
  refine tF 6 [.val 0 (some 10) (.int .i64 (a : Int)), .alt 1 (some 11) (.bool (decide ((a : Int) < 0))) (.bool false), .val 2 (some 12) (.bool false), .val 3 (some 13) (.int .i64 (a : Int)), .alt 4 (some 14) (.bool (decide (7 < (a : Int)))) (.bool false), .val 5 (some 15) (.bool false)] ⟨congrArg Value.bool (decide_eq_false (by have := HA.out; omega)), congrArg Value.bool (decide_eq_false (by have := HA.out; omega)), trivial⟩ ?_
  refine dF ?_
  try simp only [puts, Tk.put, Act.put, List.setIfInBounds_toArray, List.set_cons_zero, List.set_cons_succ]
  go_upto_region 3 with fail
  refine wp_region_fromM (fun W => Sep w [] [.blk P 35 (stc s v)] W) hM ?_
  clear hM
  rintro Y4 hM
  refine tF 5 [.val 0 (some 16) (.int .i64 (a : Int)), .val 1 (some 17) (pt P 130), .idx 2 (some 18) 32 (pt P 130) (.int .i64 (a : Int)) (pt P (130 + a)), .load 3 (some 19) 3 (pt P (130 + a)) (.int .i64 (s.no (a))), .val 4 (some 7) (.int .i64 (s.no (a)))] ⟨idx_no (by omega), ld_no (s := s) (hM.at 0 rfl) (by omega), trivial⟩ ?_
  refine dF ?_
  try simp only [puts, Tk.put, Act.put, List.setIfInBounds_toArray, List.set_cons_zero, List.set_cons_succ]
  go_upto_region 4 with fail
  refine wp_region_fromM (fun W => Sep w [] [.blk P 35 (stc s v)] W) hM ?_
  clear hM
  rintro Y5 hM
  refine tF 1 [.val 0 (some 8) (.int .i64 0)] trivial ?_
  refine dF ?_
  try simp only [puts, Tk.put, Act.put, List.setIfInBounds_toArray, List.set_cons_zero, List.set_cons_succ]
  go_wp2_with fail
  go_loopw [7, 8] (fun n k wr => ∃ j : Nat, j ≤ l.length + 1 ∧ k = .int .i64 (j : Nat) ∧ n = .int .i64 (passesN (a : Int) l j (s.no a)) ∧ Sep w [] [.blk P 35 (stc s v)] wr) (fun _ k _ => l.length + 1 - (intOf k).toNat)
  case atStart => exact ⟨0, Nat.zero_le _, rfl, rfl, hM⟩
  clear hM
  case round =>
    obtain ⟨j, hj, rfl, rfl, hM⟩ := hrel
    by_cases hjl : j ≤ l.length
    · have HJ := Lib.hid hjl
      have hjl' : (j : Int) ≤ (l.length : Int) := by omega
      go_upto_region 5 with fail
      refine wp_region_fromM (fun W => Sep w [] [.blk P 35 (stc s v)] W) hM ?_
      clear hM
      rintro Y6 hM
      refine tF 2 [.val 0 (some 20) (.int .i64 (j : Int)), .val 1 (some 21) (.slice pl l.length cl)] trivial ?_
      refine rF (some 22) (.int .i64 l.length) (Y6) ?_
      refine tF 4 [.alt 3 (some 23) (.bool (decide ((j : Int) ≤ (l.length : Int)))) (.bool true)] ⟨congrArg Value.bool (decide_eq_true (by omega)), trivial⟩ ?_
      refine dF ?_
      try simp only [puts, Tk.put, Act.put, List.setIfInBounds_toArray, List.set_cons_zero, List.set_cons_succ]
      generalize hpn : (passesN (a : Int) l j (s.no a)) = n0 at *
      have HPN := Lib.hid hpn
      clear hpn hjl
      go_upto_region 7 with fail
      refine wp_region_fromM (fun W => Sep w [] [.blk P 35 (stc s v)] W) hM ?_
      clear hM
      rintro Y7 hM
      refine tF 1 [.val 0 (some 9) (.int .i64 0)] trivial ?_
      refine dF ?_
      try simp only [puts, Tk.put, Act.put, List.setIfInBounds_toArray, List.set_cons_zero, List.set_cons_succ]
      go_wp2_with fail
      go_loopw [7, 9] (fun n i wr => ∃ m : Nat, m ≤ l.length ∧ i = .int .i64 (m : Nat) ∧ n = .int .i64 (passN (a : Int) (l.take m) n0) ∧ Sep w [] [.blk P 35 (stc s v)] wr) (fun _ i _ => l.length - (intOf i).toNat)
      case atStart => exact ⟨0, Nat.zero_le _, rfl, rfl, hM⟩
      clear hM
      case round =>
        obtain ⟨m, hm, rfl, rfl, hM⟩ := hrel
        by_cases hlt : m < l.length
        · obtain ⟨x, hx⟩ : ∃ x, l[m]? = some x := ⟨_, List.getElem?_eq_getElem hlt⟩
          obtain ⟨bt, ot, _, _, hit, hct⟩ := HET.out m x hx
          have HX := Lib.hid hx
          have HIT := Lib.hid hit
          have HCT := Lib.hid hct
          have HLTK := Lib.hid hlt
          have hlt' : (m : Int) < (l.length : Int) := by omega
          clear hx hit hct hlt
          go_upto_region 8 with fail
          refine wp_region_fromM (fun W => Sep w [] [.blk P 35 (stc s v)] W) hM ?_
          clear hM
          rintro Y8 hM
          refine tF 2 [.val 0 (some 26) (.int .i64 (m : Int)), .val 1 (some 27) (.slice pl l.length cl)] trivial ?_
          refine rF (some 28) (.int .i64 l.length) (Y8) ?_
          refine tF 4 [.alt 3 (some 29) (.bool (decide ((m : Int) < (l.length : Int)))) (.bool true)] ⟨congrArg Value.bool (decide_eq_true (by omega)), trivial⟩ ?_
          refine dF ?_
          try simp only [puts, Tk.put, Act.put, List.setIfInBounds_toArray, List.set_cons_zero, List.set_cons_succ]
          have HPS := Lib.hid (show (passN (a : Int) (l.take (m + 1)) n0) = if x.fr = (a : Int) ∧ x.no = (passN (a : Int) (l.take m) n0) then (passN (a : Int) (l.take m) n0) + 1 else (passN (a : Int) (l.take m) n0) by rw [take_one HX.out, pass_snoc])
          generalize (passN (a : Int) (l.take m) n0) = n at *
          by_cases hq : x.fr = (a : Int)
          · have HQ := Lib.hid hq
            clear hq
            by_cases hq2 : x.no = n
            · have HQ2 := Lib.hid hq2
              clear hq2
              go_upto_region 10 with fail
              refine wp_region_fromM (fun W => Sep w [] [.blk P 35 (stc s v)] W) hM ?_
              clear hM
              rintro Y9 hM
              refine tF 16 [.val 0 (some 32) (.slice pl l.length cl), .val 1 (some 33) (.int .i64 (m : Int)), .idx 2 (some 34) 37 (.slice pl l.length cl) (.int .i64 (m : Int)) (pt bt ot), .val 3 (some 35) (pt bt ot), .load 4 (some 36) 3 (pt bt ot) (.int .i64 x.fr), .val 5 (some 37) (.int .i64 (a : Int)), .alt 6 (some 38) (.bool (x.fr == (a : Int))) (.bool true), .val 7 (some 39) (.bool true), .val 8 (some 40) (.slice pl l.length cl), .val 9 (some 41) (.int .i64 (m : Int)), .idx 10 (some 42) 37 (.slice pl l.length cl) (.int .i64 (m : Int)) (pt bt ot), .val 11 (some 43) (pt bt (ot + 1)), .load 12 (some 44) 3 (pt bt (ot + 1)) (.int .i64 x.no), .val 13 (some 45) (.int .i64 n), .alt 14 (some 46) (.bool (x.no == n)) (.bool true), .val 15 (some 47) (.bool true)] ⟨HIT.out _, ld_cell _ _ Tryz.underlying3 rfl ((HCT.out _ (HLT.out.below hM.b HHT.out)) 0 _ rfl), congrArg Value.bool (beq_iff_eq.2 HQ.out), HIT.out _, ld_cell _ _ Tryz.underlying3 rfl ((HCT.out _ (HLT.out.below hM.b HHT.out)) 1 _ rfl), congrArg Value.bool (beq_iff_eq.2 HQ2.out), trivial⟩ ?_
              refine dF ?_
              try simp only [puts, Tk.put, Act.put, List.setIfInBounds_toArray, List.set_cons_zero, List.set_cons_succ]
              obtain ⟨_, _, hnn, _⟩ := errT_all (HTX.out x (List.mem_of_getElem? HX.out))
              rw [HQ2.out] at hnn
              go_upto_region 11 with fail
              refine wp_region_fromM (fun W => Sep w [] [.blk P 35 (stc s v)] W) hM ?_
              clear hM
              rintro Y10 hM
              refine tF 3 [.val 0 (some 48) (.int .i64 n), .alt 1 (some 49) (.int .i64 (IntKind.i64.wrap (n + 1))) (.int .i64 (n + 1)), .val 2 (some 7) (.int .i64 (n + 1))] ⟨congrArg (Value.int .i64) (IntWalk.i64_in _ (by omega)), trivial⟩ ?_
              refine dF ?_
              try simp only [puts, Tk.put, Act.put, List.setIfInBounds_toArray, List.set_cons_zero, List.set_cons_succ]
              have hml := HML.out
              have hlt2 := HLTK.out
              have hwr : IntKind.i64.wrap ((m : Int) + 1) = ((m + 1 : Nat) : Int) := (IntWalk.i64_in _ (by omega)).trans (by omega)
              go_wp2_with fail
              go_roundw
              case rel => exact ⟨m + 1, HLTK.out, by go_num, by rw [HPS.out, if_pos ⟨HQ.out, HQ2.out⟩], hM⟩
              case measure => have := HLTK.out; simp [intOf]; omega
            · have HQ2 := Lib.hid hq2
              clear hq2
              go_upto_region 10 with fail
              refine wp_region_fromM (fun W => Sep w [] [.blk P 35 (stc s v)] W) hM ?_
              clear hM
              rintro Y11 hM
              refine tF 16 [.val 0 (some 32) (.slice pl l.length cl), .val 1 (some 33) (.int .i64 (m : Int)), .idx 2 (some 34) 37 (.slice pl l.length cl) (.int .i64 (m : Int)) (pt bt ot), .val 3 (some 35) (pt bt ot), .load 4 (some 36) 3 (pt bt ot) (.int .i64 x.fr), .val 5 (some 37) (.int .i64 (a : Int)), .alt 6 (some 38) (.bool (x.fr == (a : Int))) (.bool true), .val 7 (some 39) (.bool true), .val 8 (some 40) (.slice pl l.length cl), .val 9 (some 41) (.int .i64 (m : Int)), .idx 10 (some 42) 37 (.slice pl l.length cl) (.int .i64 (m : Int)) (pt bt ot), .val 11 (some 43) (pt bt (ot + 1)), .load 12 (some 44) 3 (pt bt (ot + 1)) (.int .i64 x.no), .val 13 (some 45) (.int .i64 n), .alt 14 (some 46) (.bool (x.no == n)) (.bool false), .val 15 (some 47) (.bool false)] ⟨HIT.out _, ld_cell _ _ Tryz.underlying3 rfl ((HCT.out _ (HLT.out.below hM.b HHT.out)) 0 _ rfl), congrArg Value.bool (beq_iff_eq.2 HQ.out), HIT.out _, ld_cell _ _ Tryz.underlying3 rfl ((HCT.out _ (HLT.out.below hM.b HHT.out)) 1 _ rfl), congrArg Value.bool (beq_eq_false_iff_ne.2 HQ2.out), trivial⟩ ?_
              refine dF ?_
              try simp only [puts, Tk.put, Act.put, List.setIfInBounds_toArray, List.set_cons_zero, List.set_cons_succ]
              have hml := HML.out
              have hlt2 := HLTK.out
              have hwr : IntKind.i64.wrap ((m : Int) + 1) = ((m + 1 : Nat) : Int) := (IntWalk.i64_in _ (by omega)).trans (by omega)
              go_wp2_with fail
              go_roundw
              case rel => exact ⟨m + 1, HLTK.out, by go_num, by rw [HPS.out, if_neg (fun h => HQ2.out h.2)], hM⟩
              case measure => have := HLTK.out; simp [intOf]; omega
          · have HQ := Lib.hid hq
            clear hq
            go_upto_region 10 with fail
            refine wp_region_fromM (fun W => Sep w [] [.blk P 35 (stc s v)] W) hM ?_
            clear hM
            rintro Y12 hM
            refine tF 16 [.val 0 (some 32) (.slice pl l.length cl), .val 1 (some 33) (.int .i64 (m : Int)), .idx 2 (some 34) 37 (.slice pl l.length cl) (.int .i64 (m : Int)) (pt bt ot), .val 3 (some 35) (pt bt ot), .load 4 (some 36) 3 (pt bt ot) (.int .i64 x.fr), .val 5 (some 37) (.int .i64 (a : Int)), .alt 6 (some 38) (.bool (x.fr == (a : Int))) (.bool false), .val 7 (some 39) (.bool false), .skip 8 (some 40), .skip 9 (some 41), .skip 10 (some 42), .skip 11 (some 43), .skip 12 (some 44), .skip 13 (some 45), .skip 14 (some 46), .val 15 (some 47) (.bool false)] ⟨HIT.out _, ld_cell _ _ Tryz.underlying3 rfl ((HCT.out _ (HLT.out.below hM.b HHT.out)) 0 _ rfl), congrArg Value.bool (beq_eq_false_iff_ne.2 HQ.out), trivial⟩ ?_
            refine dF ?_
            try simp only [puts, Tk.put, Act.put, List.setIfInBounds_toArray, List.set_cons_zero, List.set_cons_succ]
            have hml := HML.out
            have hlt2 := HLTK.out
            have hwr : IntKind.i64.wrap ((m : Int) + 1) = ((m + 1 : Nat) : Int) := (IntWalk.i64_in _ (by omega)).trans (by omega)
            go_wp2_with fail
            go_roundw
            case rel => exact ⟨m + 1, HLTK.out, by go_num, by rw [HPS.out, if_neg (fun h => HQ.out h.1)], hM⟩
            case measure => have := HLTK.out; simp [intOf]; omega
        · obtain rfl : m = l.length := by omega
          go_upto_region 8 with fail
          refine wp_region_fromM (fun W => Sep w [] [.blk P 35 (stc s v)] W) hM ?_
          clear hM
          rintro Y13 hM
          refine tF 2 [.val 0 (some 26) (.int .i64 (l.length : Int)), .val 1 (some 27) (.slice pl l.length cl)] trivial ?_
          refine rF (some 28) (.int .i64 l.length) (Y13) ?_
          refine tF 4 [.alt 3 (some 29) (.bool (decide ((l.length : Int) < (l.length : Int)))) (.bool false)] ⟨congrArg Value.bool (decide_eq_false (by omega)), trivial⟩ ?_
          refine dF ?_
          try simp only [puts, Tk.put, Act.put, List.setIfInBounds_toArray, List.set_cons_zero, List.set_cons_succ]
          have hml := HML.out
          have h8 := HN8.out
          have hj2 := HJ.out
          have hwr : IntKind.i64.wrap ((j : Int) + 1) = ((j + 1 : Nat) : Int) := (IntWalk.i64_in _ (by omega)).trans (by omega)
          have HPE := Lib.hid (show passN (a : Int) (l.take l.length) n0 = (passesN (a : Int) l (j + 1) (s.no a)) by rw [List.take_length, ← HPN.out]; rfl)
          go_wp2_with fail
          go_roundw
          case rel => exact ⟨j + 1, Nat.succ_le_succ HJ.out, by go_num, by rw [HPE.out], hM⟩
          case measure => have := HJ.out; simp [intOf]; omega
    · obtain rfl : j = l.length + 1 := by omega
      go_upto_region 5 with fail
      refine wp_region_fromM (fun W => Sep w [] [.blk P 35 (stc s v)] W) hM ?_
      clear hM
      rintro Y14 hM
      refine tF 2 [.val 0 (some 20) (.int .i64 ((l.length + 1 : Nat) : Int)), .val 1 (some 21) (.slice pl l.length cl)] trivial ?_
      refine rF (some 22) (.int .i64 l.length) (Y14) ?_
      refine tF 4 [.alt 3 (some 23) (.bool (decide (((l.length + 1 : Nat) : Int) ≤ (l.length : Int)))) (.bool false)] ⟨congrArg Value.bool (decide_eq_false (by omega)), trivial⟩ ?_
      refine dF ?_
      try simp only [puts, Tk.put, Act.put, List.setIfInBounds_toArray, List.set_cons_zero, List.set_cons_succ]
      go_upto_region 12 with fail
      refine wp_region_fromM (fun W => Sep w [] [.blk P 35 (stc s v)] W) hM ?_
      clear hM
      rintro Y15 hM
      refine tF 2 [.val 0 (some 50) (.int .i64 (passesN (a : Int) l (l.length + 1) (s.no a))), .val 1 (some 6) (.int .i64 (passesN (a : Int) l (l.length + 1) (s.no a)))] trivial ?_
      refine dF ?_
      try simp only [puts, Tk.put, Act.put, List.setIfInBounds_toArray, List.set_cons_zero, List.set_cons_succ]
      go_wp2_with fail
      go_ret
      exact ⟨rfl, hM.b⟩
end Go.Proofs.YtfoemkmoambagaaGreat
namespace Go.Proofs.YtfoemkmoambagaaGreat
open Go.RowKit Go.Shelf
attribute [local irreducible] wpFrom wpAnyH StepH
theorem Sep.gain {w W W' : World} {F : List Nat} {l : List Res} {r : Res} (h : Sep w F l W) (h' : Sep W [] [r] W') : Sep w F (r :: l) W' :=
  h.add h'.b (h'.ok r (List.mem_singleton.2 rfl)) (fun k hk => (h'.new r (List.mem_singleton.2 rfl) k hk).elim (fun e => (List.not_mem_nil e).elim) id)
def alT : Tr := { noT with kd := 1, a0 := 1 }
theorem alT_ok : OkT alT := ⟨⟨by decide, by decide, by decide, by decide⟩, ⟨by decide, by decide, by decide, by decide⟩, ⟨by decide, by decide, by decide, by decide⟩⟩
theorem alT_err : errT alT = 0 := by decide
def alC0 : Ch := newC 0 7
def alC1 : Ch := ⟨genP 0 7, [alT], []⟩
def alC2 : Ch := tookC alC1 alT 0
theorem al_st : OkE (genP 0 7) := by
  have h1 := gen_ok 0 7
  have h2 := genP_eq 0 7
  rw [h2]
  exact h1
theorem al_sub : submitB alC0 alT = true := by
  unfold submitB
  rw [alT_err]
  rfl
theorem al_sub1 : submitC alC0 alT = alC1 := submit_yes al_sub
theorem al_again : submitB alC1 alT = false := by
  unfold submitB
  rw [show (alC1.po.any fun x => eqT x alT) = true by show ([alT].any fun x => eqT x alT) = true; simp [eqT_refl]]
  simp
theorem al_taken : (applyP (genP 0 7) alT).2.2 = true := by
  rw [apply_eq al_st]
  unfold applyE
  rw [if_neg (by rw [alT_err]; decide), if_neg (show ¬ alT.no ≠ (genP 0 7).no alT.fr.toNat from not_not_intro rfl), if_neg (fun e => e.elim (fun e => e (show 1 ≤ 1000 by decide)) (fun e => e (show 0 + 1 < M4 by decide)))]
  split <;> rfl
theorem al_in : inclC alC1 5 = (alC2, true) := by
  have h : alC1.po[atC 5 alC1.po.length]? = some alT := by
    have h0 : atC 5 alC1.po.length = 0 := by decide
    rw [h0]
    rfl
  exact (incl_of h (show applyP alC1.st alT = ((applyP (genP 0 7) alT).1, (applyP (genP 0 7) alT).2.1, true) from Prod.ext rfl (Prod.ext rfl al_taken))).trans (if_pos rfl)
theorem al_no : alC2.st.no 0 = 1 := by
  show (applyP (genP 0 7) alT).1.no 0 = 1
  rw [(taken_no al_st al_taken).2.2]
  rfl
theorem al_next {n : Int} (h : NextN alC2.po ((0 : Nat) : Int) (alC2.st.no ((0 : Nat) : Int).toNat) n) : n = 1 := by
  have h2 : NextN ([] : List Tr) ((0 : Nat) : Int) 1 n := by
    have h3 : alC2.st.no ((0 : Nat) : Int).toNat = 1 := al_no
    rw [h3] at h
    exact h
  exact nextN_one h2 ⟨Int.le_refl _, rfl, fun m h1 h4 => absurd h1 (by omega)⟩
theorem Sep.one {w W : World} {l : List Res} (h : Sep w [] l W) : Sep w [] [.join l] W := Sep.close (l := []) (by rw [List.append_nil]; exact h)
set_option maxRecDepth 100000 in
set_option maxHeartbeats 4000000 in
theorem alive13_any (w : World) : Calls Tryz.prog 7 #[] w fun e W' => e = .returned (.bool true) ∧ Below w.heap.size w W' := by
  have hmx : Tryz.prog.follows .mixedOrders = true := by kernel_rfl
  have hM := Sep.start w
  go_enter Tryz.func7, Tryz.ntmps7
  go_upto_region 1 with fail
  refine wp_region_fromM (fun W => Sep w [] [] W) hM ?_
  clear hM
  rintro Y1 hM
  refine cF (some 3) 8 #[.int .i64 0, .int .i64 7] ((chnNew_any 0 7 _).mono ?_)
  rintro e Y2 ⟨B, v0, pv0, q0, bs0, rfl, hN⟩
  replace hM := hM.gain hN.one
  clear hN
  refine tF 2 [.val 1 (some 1) (pt B 0)] trivial ?_
  refine dF ?_
  try simp only [puts, Tk.put, Act.put, List.setIfInBounds_toArray, List.set_cons_zero, List.set_cons_succ]
  replace hM : Sep w [] [.join (CHR B alC0 v0 pv0 q0 bs0)] _ := hM
  go_upto_region 2 with fail
  refine wp_region_fromM (fun W => Sep w [] [.join (CHR B alC0 v0 pv0 q0 bs0)] W) hM ?_
  clear hM
  rintro Y3 hM
  refine tF 2 [.val 0 (some 4) (wn 1), .val 1 (some 5) (txv alT)] trivial ?_
  refine rF (some 2) (pt Y3.heap.size 0) (Y3.alloc (.cells (txc noT).toArray 44)) ?_
  replace hM := hM.alloc 44 (txc noT)
  generalize World.alloc _ _ = Y4 at *
  generalize hNe : Y3.heap.size = T at *
  clear hNe
  refine sF 44 (pt T 0) (txv alT) (sto_txB (hM.at 0 rfl) alT) ?_
  replace hM := hM.set 0 (cs' := txc alT) rfl rfl
  generalize World.setRow _ _ _ = Y5 at *
  refine dF ?_
  try simp only [puts, Tk.put, Act.put, List.setIfInBounds_toArray, List.set_cons_zero, List.set_cons_succ]
  go_upto_region 3 with fail
  refine wp_region_fromM (fun W => Sep w [] [.blk T 44 (txc alT), .join (CHR B alC0 v0 pv0 q0 bs0)] W) hM ?_
  clear hM
  rintro Y6 hM
  refine tF 1 [.val 0 (some 6) (pt B 0)] trivial ?_
  refine cF (some 7) 14 #[pt B 0, .int .i64 0] ((((chnInclude_any 0 _ (hM.oka 1 rfl) al_st (fun _ h => (List.not_mem_nil h).elim) (by decide) (by decide) (by decide)).mono fun _ _ h => incl_is (incl_none 0 rfl) h)).mono ?_)
  rintro e Y7 ⟨rfl, v1, pv1, q1, bs1, hT⟩
  replace hM := hM.turn 1 rfl hT rfl
  clear hT
  refine tF 6 [.val 2 (some 8) (.bool true), .val 3 (some 9) (.bool true), .val 4 (some 10) (pt B 0), .load 5 (some 11) 44 (pt T 0) (txv alT)] ⟨ld_tx (hM.at 0 rfl), trivial⟩ ?_
  refine cF (some 12) 12 #[pt B 0, txv alT] ((((chnSubmit_any alT _ (hM.oka 1 rfl) (by decide)).mono fun _ _ h => submit_is al_sub al_sub1 h)).mono ?_)
  rintro e Y8 ⟨rfl, v2, pv2, q2, bs2, hT⟩
  replace hM := hM.turn 1 rfl hT rfl
  clear hT
  refine tF 11 [.val 7 (some 13) (.bool true), .val 8 (some 14) (.bool true), .val 9 (some 15) (pt B 0), .load 10 (some 16) 44 (pt T 0) (txv alT)] ⟨ld_tx (hM.at 0 rfl), trivial⟩ ?_
  refine cF (some 17) 12 #[pt B 0, txv alT] ((((chnSubmit_any alT _ (hM.oka 1 rfl) (by decide)).mono fun _ _ h => submit_is al_again (submit_no al_again) h)).mono ?_)
  rintro e Y9 ⟨rfl, v3, pv3, q3, bs3, hT⟩
  replace hM := hM.turn 1 rfl hT rfl
  clear hT
  refine tF 16 [.val 12 (some 18) (.bool true), .val 13 (some 19) (.bool true), .val 14 (some 20) (.bool true), .val 15 (some 21) (pt B 0)] trivial ?_
  refine cF (some 22) 14 #[pt B 0, .int .i64 5] ((((chnInclude_any 5 _ (hM.oka 1 rfl) al_st (fun t ht => by obtain rfl := List.mem_singleton.1 ht; exact ⟨alT_ok, alT_err⟩) (by decide) (by decide) (by decide)).mono fun _ _ h => incl_is al_in h)).mono ?_)
  rintro e Y10 ⟨rfl, v4, pv4, q4, bs4, hT⟩
  replace hM := hM.turn 1 rfl hT rfl
  clear hT
  refine tF 20 [.val 17 (some 23) (.bool true), .val 18 (some 24) (.bool true), .val 19 (some 25) (pt B 0)] trivial ?_
  refine cF (some 26) 18 #[pt B 0, .int .i64 0] ((chnEvents_any 0 _ (ChV.of (hM.oka 1 rfl)) (by decide)).mono ?_)
  rintro e Y11 ⟨ve, rfl, hR⟩
  replace hM := hM.gain hR
  clear hR
  obtain ⟨ae, ce, rfl⟩ := (hM.oka 0 rfl).slice evc_len
  refine rF (some 27) (.int .i64 (alC2.ev.drop (fromE 0 alC2.ev.length)).length) (Y11) ?_
  refine tF 26 [.alt 22 (some 28) (.bool (((alC2.ev.drop (fromE 0 alC2.ev.length)).length : Int) == 1)) (.bool true), .val 23 (some 29) (.bool true), .val 24 (some 30) (.bool true), .val 25 (some 31) (pt B 0)] ⟨rfl, trivial⟩ ?_
  refine cF (some 32) 22 #[pt B 0, .int .i64 0] ((chnNext_in (a := 0) (by decide) _ (ChV.of (hM.oka 2 rfl)) (fun _ h => (List.not_mem_nil h).elim)).mono ?_)
  rintro e Y12 ⟨n, rfl, hn, hb⟩
  obtain rfl := al_next hn
  replace hM := hM.below hb
  clear hb hn
  refine tF 30 [.val 27 (some 33) (.bool true), .val 28 (some 34) (.bool true), .val 29 (some 0) (.bool true)] trivial ?_
  refine dF ?_
  try simp only [puts, Tk.put, Act.put, List.setIfInBounds_toArray, List.set_cons_zero, List.set_cons_succ]
  go_wp2_with fail
  go_ret
  exact ⟨rfl, hM.b⟩
end Go.Proofs.YtfoemkmoambagaaGreat
namespace Go.Proofs.YtfoemkmoambagaaGreat
open Go.ChangeShapes Go.WideShapes Go.ChangeAt Go.RowKit
theorem Tryz.own : ownKnob Tryz.prog.godebug = none := by kernel_rfl
theorem Tryz.laidOut : laidOutB Tryz.prog = true := by kernel_rfl
theorem wf_i64 {x : Int} (h : (Lit.int .i64 x).wf = true) : -9223372036854775808 ≤ x ∧ x ≤ 9223372036854775807 := by
  simp [Lit.wf, IntKind.min, IntKind.max, IntKind.bits, IntKind.signed] at h
  omega
theorem list_of {α : Type} {Q : Nat → α → Prop} : ∀ {n : Nat}, (∀ i, i < n → ∃ x, Q i x) → ∃ l : List α, l.length = n ∧ ∀ k x, l[k]? = some x → Q k x
  | 0, _ => ⟨[], rfl, fun k x h => by simp at h⟩
  | n + 1, h => by
    obtain ⟨l, hl, hq⟩ := list_of (n := n) (fun i hi => h i (by omega))
    obtain ⟨y, hy⟩ := h n (by omega)
    refine ⟨l ++ [y], by simp [hl], fun k x hx => ?_⟩
    by_cases hk : k < n
    · rw [List.getElem?_append_left (by omega)] at hx
      exact hq k x hx
    · rw [List.getElem?_append_right (by omega)] at hx
      have : k = n := by
        have := (List.getElem?_eq_some_iff.1 hx).1
        simp at this
        omega
      subst this
      simp [hl] at hx
      rw [← hx]; exact hy
theorem add_plain (b off q : Nat) : (⟨b, off, none⟩ : Addr).add q = ⟨b, off + q, none⟩ := by cases q <;> simp [Addr.add]
end Go.Proofs.YtfoemkmoambagaaGreat
namespace Go.Proofs.YtfoemkmoambagaaGreat
open Go.ChangeShapes Go.WideShapes Go.ChangeAt Go.RowKit
theorem Tryz.cells24 : Tryz.prog.cellsOf 28 = 4 := by kernel_rfl
theorem Tryz.cells22 : Tryz.prog.cellsOf 26 = 1 := by kernel_rfl
theorem wf_u64 {x : Int} (h : (Lit.int .u64 x).wf = true) : ∃ n : Nat, x = (n : Int) ∧ n < M := by
  have h' : 0 ≤ x ∧ x < 18446744073709551616 := by
    simp [Lit.wf, IntKind.min, IntKind.max, IntKind.bits, IntKind.signed] at h
    omega
  obtain ⟨n, rfl⟩ := Int.eq_ofNat_of_zero_le h'.1
  exact ⟨n, rfl, by unfold M; omega⟩
end Go.Proofs.YtfoemkmoambagaaGreat
namespace Go.Proofs.YtfoemkmoambagaaGreat
theorem Tryz.cellsInt : Tryz.prog.cellsOf 3 = 1 := by kernel_rfl
theorem Tryz.cellsStr : Tryz.prog.cellsOf 9 = 1 := by kernel_rfl
end Go.Proofs.YtfoemkmoambagaaGreat
namespace Go.Proofs.YtfoemkmoambagaaGreat
open Go.ChangeShapes Go.WideShapes Go.ChangeAt Go.RowKit Go.Deep
theorem sized_in {H : Type} {P : Program} {ts : List TypeId} {ds : List (DataW H)} (h : (DataW.weightsEach P ts ds).all (· ≤ reachBytes) = true) {j : Nat} {t : TypeId} {d : DataW H} (ht : ts[j]? = some t) (hd : ds[j]? = some d) (n : Nat) (hn : n ∈ d.weights P t) : n ≤ 140737488351232 := by
  have := List.all_eq_true.1 h _ (DataW.weights_mem_each ht hd n hn)
  have h2 := of_decide_eq_true this
  simp only [reachBytes] at h2
  exact h2
theorem weightsAll_mem {H : Type} {P : Program} {e : TypeId} : ∀ {l : List (DataW H)} {d : DataW H}, d ∈ l → ∀ n ∈ d.weights P e, n ∈ DataW.weightsAll P e l
  | [], _, h, _, _ => by cases h
  | x :: l, d, h, n, hn => by
    simp only [DataW.weightsAll, List.mem_append]
    rcases List.mem_cons.1 h with rfl | h
    · exact .inl hn
    · exact .inr (weightsAll_mem h n hn)
end Go.Proofs.YtfoemkmoambagaaGreat
namespace Go.Proofs.YtfoemkmoambagaaGreat
open Go.ChangeShapes Go.WideShapes Go.ChangeAt Go.RowKit Go.Deep
theorem Tryz.cellsInv : Tryz.prog.cellsOf 40 = 7 := by kernel_rfl
theorem Tryz.cellsVar : Tryz.prog.cellsOf 42 = 5 := by kernel_rfl
set_option maxRecDepth 100000 in
theorem trod_inv {H : Type} {enc : TypeId × Value → H} {w : World} {base : Nat} {spare : Nat → Bool} {held : Bool} {fuel : Nat} {cs : List Value} {x : DataW H × List MemPlace}
    (h : DataW.trod enc Tryz.prog w base spare held fuel 40 cs = some x) :
    ∃ i : Trf, cs = ivc i ∧ i.rt.data.toList.length ∈ x.1.weights Tryz.prog 40 ∧ i.id.data.toList.length ∈ x.1.weights Tryz.prog 40 := by
  obtain ⟨xs, n, _, hx, hcl, hlen, hg⟩ := DataW.trod_struct Tryz.underlying40 h
  rw [Tryz.cellsInv] at hcl
  match cs, hcl with
  | [c0, c1, c2, c3, c4, c5, c6], _ =>
  match xs, hlen with
  | [y0, y1, y2, y3, y4, y5, y6], _ =>
  have h0 := hg 0 ⟨ "User", 3, 0, false, "", "", 0⟩ rfl
  have h1 := hg 1 ⟨ "Root", 9, 1, false, "", "", 8⟩ rfl
  have h2 := hg 2 ⟨ "Router", 3, 2, false, "", "", 24⟩ rfl
  have h3 := hg 3 ⟨ "Send", 3, 3, false, "", "", 32⟩ rfl
  have h4 := hg 4 ⟨ "Recv", 3, 4, false, "", "", 40⟩ rfl
  have h5 := hg 5 ⟨ "To", 3, 5, false, "", "", 48⟩ rfl
  have h6 := hg 6 ⟨ "Id", 9, 6, false, "", "", 56⟩ rfl
  dsimp only at h0 h1 h2 h3 h4 h5 h6
  rw [Tryz.cellsInt] at h0 h2 h3 h4 h5
  rw [Tryz.cellsStr] at h1 h6
  simp only [List.drop_succ_cons, List.drop_zero, List.take_succ_cons, List.take_zero, List.getElem?_cons_zero, List.getElem?_cons_succ] at h0 h1 h2 h3 h4 h5 h6
  obtain ⟨z0, e0, hx0, wf0⟩ := DataW.trod_int Tryz.underlying3 h0
  obtain ⟨s1, e1, hx1, _⟩ := DataW.trod_string Tryz.underlying9 h1
  obtain ⟨z2, e2, hx2, wf2⟩ := DataW.trod_int Tryz.underlying3 h2
  obtain ⟨z3, e3, hx3, wf3⟩ := DataW.trod_int Tryz.underlying3 h3
  obtain ⟨z4, e4, hx4, wf4⟩ := DataW.trod_int Tryz.underlying3 h4
  obtain ⟨z5, e5, hx5, wf5⟩ := DataW.trod_int Tryz.underlying3 h5
  obtain ⟨s6, e6, hx6, _⟩ := DataW.trod_string Tryz.underlying9 h6
  simp at e0 e1 e2 e3 e4 e5 e6
  subst e0 e1 e2 e3 e4 e5 e6
  refine ⟨⟨z0, s1, z2, z3, z4, z5, s6⟩, rfl, ?_, ?_⟩
  · rw [hx]
    have : y1.1 = .lit (.string s1.data.toList) := by rw [hx1]
    simp [DataW.weights, DataW.weightsEach, Tryz.underlying40, this]
  · rw [hx]
    have : y6.1 = .lit (.string s6.data.toList) := by rw [hx6]
    simp [DataW.weights, DataW.weightsEach, Tryz.underlying40, this]
set_option maxRecDepth 100000 in
theorem trod_var {H : Type} {enc : TypeId × Value → H} {w : World} {base : Nat} {spare : Nat → Bool} {held : Bool} {fuel : Nat} {cs : List Value} {x : DataW H × List MemPlace}
    (h : DataW.trod enc Tryz.prog w base spare held fuel 42 cs = some x) :
    ∃ v : Sid, cs = svc v ∧ Ok4 v.a0 v.a1 v.a2 v.a3 := by
  obtain ⟨xs, n, _, hx, hcl, hlen, hg⟩ := DataW.trod_struct Tryz.underlying42 h
  rw [Tryz.cellsVar] at hcl
  match cs, hcl with
  | [c0, c1, c2, c3, c4], _ =>
  match xs, hlen with
  | [y0, y1], _ =>
  have h0 := hg 0 ⟨ "Amount", 28, 0, false, "", "", 0⟩ rfl
  have h1 := hg 1 ⟨ "Expiry", 3, 4, false, "", "", 32⟩ rfl
  dsimp only at h0 h1
  rw [Tryz.cells24] at h0
  rw [Tryz.cellsInt] at h1
  simp only [List.drop_succ_cons, List.drop_zero, List.take_succ_cons, List.take_zero, List.getElem?_cons_zero, List.getElem?_cons_succ] at h0 h1
  obtain ⟨u0, u1, u2, u3, m, hx3, g0, g1, g2, g3⟩ := trod_array4 Tryz.underlying28 Tryz.cells22 h0
  obtain ⟨v0, k0, _, wg0⟩ := DataW.trod_int Tryz.underlying26 g0
  obtain ⟨v1, k1, _, wg1⟩ := DataW.trod_int Tryz.underlying26 g1
  obtain ⟨v2, k2, _, wg2⟩ := DataW.trod_int Tryz.underlying26 g2
  obtain ⟨v3, k3, _, wg3⟩ := DataW.trod_int Tryz.underlying26 g3
  obtain ⟨z1, e1, hx1, wf1⟩ := DataW.trod_int Tryz.underlying3 h1
  obtain ⟨a0, rfl, q0⟩ := wf_u64 wg0
  obtain ⟨a1, rfl, q1⟩ := wf_u64 wg1
  obtain ⟨a2, rfl, q2⟩ := wf_u64 wg2
  obtain ⟨a3, rfl, q3⟩ := wf_u64 wg3
  simp at e1 k0 k1 k2 k3
  subst e1 k0 k1 k2 k3
  exact ⟨⟨a0, a1, a2, a3, z1⟩, rfl, ⟨q0, q1, q2, q3⟩⟩
set_option maxRecDepth 100000 in
theorem agg_of {v : Value} {w : World} {r : Reach} {b0 t : Nat} {fs : Array Field} (hu : Tryz.prog.underlying t = some (.struct fs)) (hv : Value.okWide Tryz.prog w r b0 t v) : ∃ cs, v = .agg cs := by
  obtain ⟨cs, rfl, _⟩ : ∃ cs, v = .agg cs ∧ cs.size = Tryz.prog.cellsOf t ∧ Row.okWide Tryz.prog w r b0 t cs := by
    simpa [Value.okWide, hu] using hv
  exact ⟨cs, rfl⟩
end Go.Proofs.YtfoemkmoambagaaGreat
namespace Go.Proofs.YtfoemkmoambagaaGreat
open Go.ChangeShapes Go.WideShapes Go.ChangeAt Go.RowKit Go.Deep
theorem Tryz.cellsTx : Tryz.prog.cellsOf 44 = 25 := by kernel_rfl
theorem trod_wide4 {H : Type} {enc : TypeId × Value → H} {w : World} {base : Nat} {spare : Nat → Bool} {held : Bool} {fuel : Nat} {c0 c1 c2 c3 : Value} {x : DataW H × List MemPlace}
    (h : DataW.trod enc Tryz.prog w base spare held fuel 28 [c0, c1, c2, c3] = some x) :
    ∃ a0 a1 a2 a3 : Nat, c0 = .int .u64 (a0 : Int) ∧ c1 = .int .u64 (a1 : Int) ∧ c2 = .int .u64 (a2 : Int) ∧ c3 = .int .u64 (a3 : Int) ∧ Ok4 a0 a1 a2 a3 := by
  obtain ⟨u0, u1, u2, u3, m, hx3, g0, g1, g2, g3⟩ := trod_array4 Tryz.underlying28 Tryz.cells22 h
  obtain ⟨v0, k0, _, wg0⟩ := DataW.trod_int Tryz.underlying26 g0
  obtain ⟨v1, k1, _, wg1⟩ := DataW.trod_int Tryz.underlying26 g1
  obtain ⟨v2, k2, _, wg2⟩ := DataW.trod_int Tryz.underlying26 g2
  obtain ⟨v3, k3, _, wg3⟩ := DataW.trod_int Tryz.underlying26 g3
  obtain ⟨a0, rfl, q0⟩ := wf_u64 wg0
  obtain ⟨a1, rfl, q1⟩ := wf_u64 wg1
  obtain ⟨a2, rfl, q2⟩ := wf_u64 wg2
  obtain ⟨a3, rfl, q3⟩ := wf_u64 wg3
  simp at k0 k1 k2 k3
  exact ⟨a0, a1, a2, a3, k0, k1, k2, k3, ⟨q0, q1, q2, q3⟩⟩
set_option maxRecDepth 100000 in
set_option maxHeartbeats 1000000 in
theorem trod_tx {H : Type} {enc : TypeId × Value → H} {w : World} {base : Nat} {spare : Nat → Bool} {held : Bool} {fuel : Nat} {cs : List Value} {x : DataW H × List MemPlace}
    (h : DataW.trod enc Tryz.prog w base spare held fuel 44 cs = some x) :
    ∃ t : Tr, cs = txc t ∧ OkT t := by
  obtain ⟨xs, n, _, hx, hcl, hlen, hg⟩ := DataW.trod_struct Tryz.underlying44 h
  rw [Tryz.cellsTx] at hcl
  match cs, hcl with
  | [c0, c1, c2, c3, c4, c5, c6, c7, c8, c9, c10, c11, c12, c13, c14, c15, c16, c17, c18, c19, c20, c21, c22, c23, c24], _ =>
  match xs, hlen with
  | [y0, y1, y2, y3, y4, y5, y6, y7, y8], _ =>
  have h0 := hg 0 ⟨ "From", 3, 0, false, "", "", 0⟩ rfl
  have h1 := hg 1 ⟨ "Nonce", 3, 1, false, "", "", 8⟩ rfl
  have h2 := hg 2 ⟨ "Kind", 3, 2, false, "", "", 16⟩ rfl
  have h3 := hg 3 ⟨ "Asset", 3, 3, false, "", "", 24⟩ rfl
  have h4 := hg 4 ⟨ "Amount", 28, 4, false, "", "", 32⟩ rfl
  have h5 := hg 5 ⟨ "Inv", 40, 8, false, "", "", 64⟩ rfl
  have h6 := hg 6 ⟨ "Var", 42, 15, false, "", "", 136⟩ rfl
  have h7 := hg 7 ⟨ "Fee", 28, 20, false, "", "", 176⟩ rfl
  have h8 := hg 8 ⟨ "Sig", 9, 24, false, "", "", 208⟩ rfl
  dsimp only at h0 h1 h2 h3 h4 h5 h6 h7 h8
  rw [Tryz.cellsInt] at h0 h1 h2 h3
  rw [Tryz.cells24] at h4 h7
  rw [Tryz.cellsInv] at h5
  rw [Tryz.cellsVar] at h6
  rw [Tryz.cellsStr] at h8
  simp only [List.drop_succ_cons, List.drop_zero, List.take_succ_cons, List.take_zero, List.getElem?_cons_zero, List.getElem?_cons_succ] at h0 h1 h2 h3 h4 h5 h6 h7 h8
  obtain ⟨z0, e0, _, _⟩ := DataW.trod_int Tryz.underlying3 h0
  obtain ⟨z1, e1, _, _⟩ := DataW.trod_int Tryz.underlying3 h1
  obtain ⟨z2, e2, _, _⟩ := DataW.trod_int Tryz.underlying3 h2
  obtain ⟨z3, e3, _, _⟩ := DataW.trod_int Tryz.underlying3 h3
  obtain ⟨a0, a1, a2, a3, f0, f1, f2, f3, hk⟩ := trod_wide4 h4
  obtain ⟨i, hi, _, _⟩ := trod_inv h5
  obtain ⟨v, hv, hk2⟩ := trod_var h6
  obtain ⟨b0, b1, b2, b3, g0, g1, g2, g3, hk3⟩ := trod_wide4 h7
  obtain ⟨s8, e8, _, _⟩ := DataW.trod_string Tryz.underlying9 h8
  simp at e0 e1 e2 e3 e8
  simp only [ivc, List.cons.injEq, and_true] at hi
  simp only [svc, List.cons.injEq, and_true] at hv
  obtain ⟨q0, q1, q2, q3, q4, q5, q6⟩ := hi
  obtain ⟨r0, r1, r2, r3, r4⟩ := hv
  subst e0 e1 e2 e3 f0 f1 f2 f3 q0 q1 q2 q3 q4 q5 q6 r0 r1 r2 r3 r4 g0 g1 g2 g3 e8
  exact ⟨⟨z0, z1, z2, z3, a0, a1, a2, a3, i, v, b0, b1, b2, b3, s8⟩, rfl, ⟨hk, hk2, hk3⟩⟩
set_option maxRecDepth 100000 in
theorem open_tx {H : Type} {enc : TypeId × Value → H} {r : Reach} {w : World} {b0 base : Nat} {spare : Nat → Bool} {held : Bool} {v : Value} {d : DataW H} {p : List MemPlace}
    (hv : Value.okWide Tryz.prog w r b0 44 v) (h : DataW.Trod enc Tryz.prog w base spare held 44 v d p) :
    ∃ t : Tr, v = txv t ∧ OkT t := by
  obtain ⟨cs, rfl⟩ := agg_of Tryz.underlying44 hv
  obtain ⟨fuel, hf⟩ := h
  obtain ⟨t, hc, h1⟩ := trod_tx hf
  refine ⟨t, ?_, h1⟩
  have : cs.toList = txc t := hc
  rw [show cs = (txc t).toArray from by rw [← this]]
end Go.Proofs.YtfoemkmoambagaaGreat
namespace Go.Proofs.YtfoemkmoambagaaGreat
open Go.RowKit Go.Shelf
theorem from_zero (m : Nat) : fromE 0 m = 0 := by unfold fromE mxE mnE; split <;> (try split) <;> omega
theorem drop_from {l : List Ev} : l.drop (fromE 0 l.length) = l := by rw [from_zero]; rfl
theorem chnEvents0_any {B : Nat} {c : Ch} {v pv q : Value} {bs : List Nat} (w : World) (hv : ChV w B c v pv q bs) (hr : c.ev.length ≤ 100000000) : Calls Tryz.prog 18 #[.pointer (some ⟨B, 0, none⟩), .int .i64 0] w (RowE c.ev w) := by
  have h := chnEvents_any 0 w hv hr
  rw [drop_from] at h
  exact h
theorem incl_two {c : Ch} {n : Nat} (h : OkC c n) (i : Int) : inclC c i = (c, false) ∨ ∃ (S : Es) (E : Int) (t : Tr), c.po[atC i c.po.length]? = some t ∧ applyP c.st t = (S, E, true) ∧ inclC c i = (⟨S, c.po.eraseIdx (atC i c.po.length), c.ev ++ [⟨S.tm, E, t⟩]⟩, true) ∧ S.tm = c.st.tm ∧ errT t = 0 ∧ t.no = c.st.no t.fr.toNat ∧ S.no = fun i => if i = t.fr.toNat then c.st.no i + 1 else c.st.no i := by
  cases hx : c.po[atC i c.po.length]? with
  | none =>
    refine .inl ?_
    unfold inclC
    rw [hx]
  | some t =>
    cases hb : (applyP c.st t).2.2 with
    | false =>
      refine .inl ((incl_of (S := (applyP c.st t).1) (E := (applyP c.st t).2.1) (b := false) hx (Prod.ext rfl (Prod.ext rfl hb))).trans ?_)
      rfl
    | true =>
      obtain ⟨h1, h2, h3⟩ := taken_no h.st hb
      refine .inr ⟨(applyP c.st t).1, (applyP c.st t).2.1, t, rfl, Prod.ext rfl (Prod.ext rfl hb), ?_, (apply_okP h.st t).2.1, h1, h2, h3⟩
      exact (incl_of (S := (applyP c.st t).1) (E := (applyP c.st t).2.1) (b := true) hx (Prod.ext rfl (Prod.ext rfl hb))).trans (if_pos rfl)
theorem rise_okC {c : Ch} {n : Nat} (h : OkC c n) (z : Int) : OkC (riseC c z) n ∧ c.st.tm ≤ (riseC c z).st.tm := by
  have h0 := h.st.t0
  have h1 := h.st.t1
  have h2 : 0 ≤ nearI z (1099511627776 - c.st.tm) ∧ nearI z (1099511627776 - c.st.tm) ≤ 1099511627776 - c.st.tm := by unfold nearI; omega
  refine ⟨⟨⟨?_, ?_, h.st.d, h.st.p, h.st.v, h.st.h, h.st.b⟩, h.po, h.tx, h.ev, h.lk⟩, ?_⟩
  · show 0 ≤ c.st.tm + nearI z (1099511627776 - c.st.tm); omega
  · show c.st.tm + nearI z (1099511627776 - c.st.tm) ≤ 1099511627776; omega
  · show c.st.tm ≤ c.st.tm + nearI z (1099511627776 - c.st.tm); omega
theorem new_okC (a z : Int) : OkC (newC a z) 0 := by
  have h : OkE (genP a z) := by rw [genP_eq]; exact gen_ok a z
  exact ⟨h, Nat.zero_le _, fun _ h => (List.not_mem_nil h).elim, Nat.le_refl _, Nat.le_refl _⟩
theorem OkC.up {c : Ch} {n m : Nat} (h : OkC c n) (k : n ≤ m) : OkC c m := ⟨h.st, h.po, h.tx, Nat.le_trans h.ev k, Nat.le_trans h.lk k⟩
def eqE (a b : Ev) : Bool := (a.tm == b.tm) && ((a.cd == b.cd) && (eqT a.tx b.tx && true))
theorem eqE_refl (a : Ev) : eqE a a = true := by simp [eqE, eqT_refl]
theorem part_err (cs : Array Value) (o : Nat) (v : Value) (h : cs[o]? = some v) (w : World) : (part 47 cs o).run Tryz.prog w = .ok v w := by
  simp [part, isAgg, run_underlying Tryz.underlying47, h, go_sem]
theorem run_eqE (a b : Ev) (w : World) : (Op.equalIn 10000 54 (.agg (evc a).toArray) (.agg (evc b).toArray)).run Tryz.prog w = .ok (eqE a b) w := by
  rw [run_equalIn_struct w 9999 54 _ _ (by kernel_rfl) (by kernel_rfl)]
  simp only [Program.fieldsOf, Tryz.underlying54]
  have hi : ∀ x y : Int, (Op.equalIn 9999 3 (.int .i64 x) (.int .i64 y)).run Tryz.prog w = .ok (x == y) w := fun x y => run_equalIn_int w 9998 3 .i64 .i64 x y Tryz.underlying3
  have he : ∀ x y : Int, (Op.equalIn 9999 47 (.int .i64 x) (.int .i64 y)).run Tryz.prog w = .ok (x == y) w := fun x y => run_equalIn_int w 9998 47 .i64 .i64 x y Tryz.underlying47
  refine eqF_cons (by decide) (part_int _ _ _ rfl w) (part_int _ _ _ rfl w) (hi _ _) ?_
  refine eqF_cons (by decide) (part_err _ _ _ rfl w) (part_err _ _ _ rfl w) (he _ _) ?_
  refine eqF_cons (by decide) (part_row _ _ Tryz.underlying44 rfl 25 (by kernel_rfl) (evc a) (txc a.tx) _ rfl w) (part_row _ _ Tryz.underlying44 rfl 25 (by kernel_rfl) (evc b) (txc b.tx) _ rfl w) (run_eqT' 9995 a.tx b.tx w) ?_
  exact eqF_nil
section
variable {W : World} {b o : Nat} {x : Ev}
theorem ld_elE (ty : TypeId) (d : TypeDesc) (hu : Tryz.prog.underlying ty = some d) (hd : (match d with | .struct _ | .array _ _ => true | _ => false) = true) (hi : (Tryz.prog.info? ty).map (·.size) = some 27) (hc : ∀ j u, (evc x)[j]? = some u → W.cell? ⟨b, o + j, none⟩ = some u) : (Instr.loadAt ty (.pointer (some ⟨b, o, none⟩))).run Tryz.prog W = .ok (.agg (evc x).toArray) W :=
  ld_cells (evc x) ty d hu hd hi hc
theorem ld_elK (hc : ∀ j u, (evc x)[j]? = some u → W.cell? ⟨b, o + j, none⟩ = some u) : (Instr.loadAt 3 (.pointer (some ⟨b, o, none⟩))).run Tryz.prog W = .ok (.int .i64 x.tm) W := ld_cell _ _ Tryz.underlying3 rfl (hc 0 _ rfl)
theorem ld_elA (hc : ∀ j u, (evc x)[j]? = some u → W.cell? ⟨b, o + j, none⟩ = some u) : (Instr.loadAt 3 (.pointer (some ⟨b, o + 1, none⟩))).run Tryz.prog W = .ok (.int .i64 x.cd) W := ld_cell _ _ Tryz.underlying3 rfl (hc 1 _ rfl)
theorem ld_elT (hc : ∀ j u, (evc x)[j]? = some u → W.cell? ⟨b, o + j, none⟩ = some u) : (Instr.loadAt 44 (.pointer (some ⟨b, o + 2, none⟩))).run Tryz.prog W = .ok (txv x.tx) W :=
  ld_cells (txc x.tx) _ _ Tryz.underlying44 rfl (by kernel_rfl) (fun j u hj => by rw [Nat.add_assoc, Nat.add_comm 2 j]; exact hc (j + 2) u hj)
end
end Go.Proofs.YtfoemkmoambagaaGreat
namespace Go.Proofs.YtfoemkmoambagaaGreat
open Go.RowKit Go.Shelf
attribute [local irreducible] wpFrom wpAnyH StepH
section
variable {W : World} {b o : Nat} {x : Tr}
theorem ld_tlF (hc : ∀ j u, (txc x)[j]? = some u → W.cell? ⟨b, o + j, none⟩ = some u) : (Instr.loadAt 3 (.pointer (some ⟨b, o, none⟩))).run Tryz.prog W = .ok (.int .i64 x.fr) W := ld_cell _ _ Tryz.underlying3 rfl (hc 0 _ rfl)
theorem ld_tlK (hc : ∀ j u, (txc x)[j]? = some u → W.cell? ⟨b, o + j, none⟩ = some u) : (Instr.loadAt 3 (.pointer (some ⟨b, o + 2, none⟩))).run Tryz.prog W = .ok (.int .i64 x.kd) W := ld_cell _ _ Tryz.underlying3 rfl (hc 2 _ rfl)
theorem ld_tlI (hc : ∀ j u, (txc x)[j]? = some u → W.cell? ⟨b, o + j, none⟩ = some u) : (Instr.loadAt 40 (.pointer (some ⟨b, o + 8, none⟩))).run Tryz.prog W = .ok (ivv x.iv) W :=
  ld_cells (ivc x.iv) _ _ Tryz.underlying40 rfl (by kernel_rfl) (fun j u hj => by
    rw [Nat.add_assoc]
    refine hc (8 + j) u ?_
    have h7 : j < 7 := (List.getElem?_eq_some_iff.1 hj).1
    obtain rfl | rfl | rfl | rfl | rfl | rfl | rfl : j = 0 ∨ j = 1 ∨ j = 2 ∨ j = 3 ∨ j = 4 ∨ j = 5 ∨ j = 6 := by omega
    all_goals exact hj)
end
theorem remF {ops : Array Oper} {Q : Exit → Act → World → Prop} (x y : Operand) (T z : TypeId) (d : Option Tmp) (a b c : Int) {k : Nat} {A : Act} {w : World} (hb : b ≠ 0) (hc : Int.tmod a b = c) (h : wpFrom Tryz.prog ops Q (k + 1) (A.put d (.int .i64 c)) w)
    (hk : (ops[k]?).map (fun o => (Region.wanted o (yielded ops A.tmps), o.dst, o.op)) = some (true, d, .binOp .rem T x y z) := by kernel_rfl) (hx : A.eval x = .int .i64 a := by kernel_rfl) (hy : A.eval y = .int .i64 b := by kernel_rfl) : wpFrom Tryz.prog ops Q k A w := by
  subst hc
  obtain ⟨o, _, _, _, hop, hr⟩ := op_at (P := Tryz.prog) hk
  refine wpFrom_run ((hr w).trans ?_) h
  unfold execOp
  simp only [hop, hx, hy, Sem.run_bind, eqGuard_rem, binOp_rem, Op.intDiv, if_neg hb, Sem.run_pure, Result.andThen_ok]
def mxW (a : Int) : Int := if (0 : Int) > a then 0 else a
def mnW (m a : Int) : Int := if m < a then m else a
theorem from_len (n : Int) (m : Nat) : (m : Int) - mnW (m : Int) (mxW n) = ((m - fromE n m : Nat) : Int) := by
  have := fromE_le n m
  unfold mnW mxW
  unfold fromE mxE mnE at *
  repeat' split
  all_goals omega
def predW (a kd : Int) (K : ByteArray) (t : Tr) : Bool := decide (t.fr = a) && (decide (t.kd = kd) && decide (keyB t.iv = K))
theorem waits_no {C : Ch} {a kd : Int} {K : ByteArray} (h : C.po.any (predW a kd K) = false) : waitsC C a K kd = false := by
  unfold waitsC
  rw [show (C.po.any fun t => decide (t.fr = a) && (decide (t.kd = kd) && decide (keyB t.iv = K))) = false from h, Bool.and_false]
theorem waits_yes {C : Ch} {a kd : Int} {K : ByteArray} (h : C.po.any (predW a kd K) = true) : waitsC C a K kd = !K.toList.isEmpty := by
  unfold waitsC
  rw [show (C.po.any fun t => decide (t.fr = a) && (decide (t.kd = kd) && decide (keyB t.iv = K))) = true from h, Bool.and_true]
theorem bne_self_b (b : Bool) : (b != b) = false := by cases b <;> rfl
end Go.Proofs.YtfoemkmoambagaaGreat
namespace Go.Proofs.YtfoemkmoambagaaGreat
open Go.ChangeShapes Go.WideShapes Go.ChangeAt Go.RowKit Go.Deep
theorem open_rsl {α : Type} {f : α → List Value} {n : Nat} {T E : TypeId} {P : α → Prop} (hn : ∀ x, (f x).length = n) (h0n : 0 < n) (hu : Tryz.prog.underlying T = some (.slice E)) (hc : Tryz.prog.cellsOf E = n)
    {H : Type} {enc : TypeId × Value → H} {W : World} {base : Nat} {spare : Nat → Bool} {held : Bool} {a : Option Addr} {len cap : Nat} {d : DataW H} {p : List MemPlace}
    (hopen : ∀ (fuel : Nat) (cs : List Value) (x : DataW H × List MemPlace), DataW.trod enc Tryz.prog W base spare held fuel E cs = some x → (∀ m ∈ x.1.weights Tryz.prog E, m ≤ 140737488351232) → ∃ y, P y ∧ cs = f y)
    (h : DataW.Trod enc Tryz.prog W base spare held T (.slice a len cap) d p) (hw : ∀ m ∈ d.weights Tryz.prog T, m ≤ 140737488351232) :
    ∃ l : List α, RSl f 0 W.heap.size W (.slice a len cap) l ∧ ∀ x ∈ l, P x := by
  obtain ⟨fuel, hf⟩ := h
  rcases open_slice hu hf with h0 | ⟨ad, l, c, m, q, D, Pl, hcs, hb, hl, hm, hmm, hx, hi⟩
  · obtain ⟨hcs, _⟩ := h0
    simp [Value.cells] at hcs
    obtain ⟨rfl, rfl, rfl⟩ := hcs
    exact ⟨[], RSl.nil _ _ _, fun x hx => by simp at hx⟩
  · simp [Value.cells] at hcs
    obtain ⟨rfl, rfl, rfl⟩ := hcs
    have hlm : len ≤ m := by rw [hmm]; split <;> omega
    have hd : d = .slice ((List.range len).map D) ((List.range (m - len)).map fun j => D (len + j)) := (Prod.mk.inj hx).1
    have hwe : ∀ i, i < len → ∀ k ∈ (D i).weights Tryz.prog E, k ≤ 140737488351232 := fun i hil k hk => by
      refine hw k ?_
      rw [hd]
      simp only [DataW.weights, hu, List.mem_cons, List.mem_append]
      exact .inr (.inl (weightsAll_mem (List.mem_map.2 ⟨i, List.mem_range.2 hil, rfl⟩) k hk))
    have key : ∀ i, i < len → ∃ y : α, P y ∧ ∀ j v, (f y)[j]? = some v → W.cell? (ad.add (i * n + j)) = some v := fun i hil => by
      obtain ⟨cs', hcc, ht⟩ := hi i (by omega)
      rw [hc] at hcc
      obtain ⟨y, hy, rfl⟩ := hopen _ _ _ ht (hwe i hil)
      obtain ⟨_, hcl, hat⟩ := World.cells?_some hcc
      refine ⟨y, hy, fun j v hv => ?_⟩
      have hj : j < n := by have := (List.getElem?_eq_some_iff.1 hv).1; rwa [hn] at this
      have := hat j hj
      rw [add_add] at this
      rw [this, hv]
    obtain ⟨l, hl', hp⟩ := list_of key
    subst hl'
    refine ⟨l, ?_, fun x hx => ?_⟩
    · refine ⟨some ad, cap, rfl, hl, hm, ?_⟩
      by_cases hl0 : l = []
      · exact .inl hl0
      · obtain ⟨y0, l', rfl⟩ := List.exists_cons_of_ne_nil hl0
        obtain ⟨v0, hv0⟩ : ∃ v0, (f y0)[0]? = some v0 := ⟨_, List.getElem?_eq_getElem (by rw [hn]; exact h0n)⟩
        have h0 := (hp 0 y0 rfl).2 0 _ hv0
        obtain ⟨b, off, sp⟩ := ad
        have hsp : sp = none := by
          cases sp with
          | none => rfl
          | some _ => simp [Addr.add, World.cell?] at h0; split at h0 <;> simp at h0
        subst hsp
        rw [Nat.zero_mul, Nat.zero_add, add_plain] at h0
        refine .inr ⟨b, off, rfl, Nat.zero_le _, World.block_lt_of_cell? W _ h0, fun k v hk => ?_⟩
        have hkl : k < (y0 :: l').length * n := by have := (List.getElem?_eq_some_iff.1 hk).1; rwa [flat_len hn] at this
        have hq : k / n < (y0 :: l').length := Nat.div_lt_of_lt_mul (by rw [Nat.mul_comm]; exact hkl)
        have hy := List.getElem?_eq_getElem hq
        have hmod : k % n < n := Nat.mod_lt _ h0n
        have hcell := flat_cell hn hy hmod
        rw [show k / n * n + k % n = k by rw [Nat.mul_comm]; exact Nat.div_add_mod k n, hk] at hcell
        have := (hp (k / n) _ hy).2 (k % n) v hcell.symm
        rw [add_plain, show k / n * n + k % n = k by rw [Nat.mul_comm]; exact Nat.div_add_mod k n] at this
        exact this
    · obtain ⟨i, hi'⟩ := List.mem_iff_getElem?.1 hx
      exact (hp i x hi').1
end Go.Proofs.YtfoemkmoambagaaGreat
namespace Go.Proofs.YtfoemkmoambagaaGreat
open Go.ChangeShapes Go.WideShapes Go.ChangeAt Go.RowKit Go.Deep
set_option maxRecDepth 100000 in
theorem open_cells {α : Type} {f : α → List Value} {n : Nat} {T E : TypeId} {P : α → Prop} (hn : ∀ x, (f x).length = n) (h0n : 0 < n) (hu : Tryz.prog.underlying T = some (.slice E)) (hc : Tryz.prog.cellsOf E = n)
    {H : Type} {enc : TypeId × Value → H} {W : World} {base : Nat} {spare : Nat → Bool} {held : Bool} {fuel : Nat} {cs : List Value} {x : DataW H × List MemPlace}
    (hopen : ∀ (fuel : Nat) (cs : List Value) (x : DataW H × List MemPlace), DataW.trod enc Tryz.prog W base spare held fuel E cs = some x → (∀ m ∈ x.1.weights Tryz.prog E, m ≤ 140737488351232) → ∃ y, P y ∧ cs = f y)
    (h : DataW.trod enc Tryz.prog W base spare held fuel T cs = some x) (hw : ∀ m ∈ x.1.weights Tryz.prog T, m ≤ 140737488351232) :
    ∃ (sv : Value) (l : List α), cs = [sv] ∧ RSl f 0 W.heap.size W sv l ∧ (∀ x ∈ l, P x) ∧ l.length * Tryz.prog.bytesOf E ≤ 140737488351232 := by
  rcases open_slice hu h with ⟨rfl, rfl⟩ | ⟨ad, len, c, m, q, D, Pl, rfl, _, _, _, hmm, hx, _⟩
  · exact ⟨_, [], rfl, RSl.nil _ _ _, fun x hx => by simp at hx, by simp⟩
  · obtain ⟨l, hl, hp⟩ := open_rsl (d := x.1) (p := x.2) hn h0n hu hc hopen ⟨fuel, h⟩ hw
    have hlen : len = l.length := by
      have := hl.slice
      obtain ⟨a', c', e'⟩ := this
      cases e'
      rfl
    refine ⟨_, l, rfl, hl, hp, ?_⟩
    have := hw ((len + (m - len)) * Tryz.prog.bytesOf E) (by
      rw [hx]
      simp [DataW.weights, hu])
    rw [← hlen]
    exact Nat.le_trans (Nat.mul_le_mul_right _ (Nat.le_add_right _ _)) this
end Go.Proofs.YtfoemkmoambagaaGreat
namespace Go.Proofs.YtfoemkmoambagaaGreat
open Go.ChangeShapes Go.WideShapes Go.ChangeAt Go.RowKit Go.Deep
theorem cellsOp : Tryz.prog.cellsOf 46 = 27 := by kernel_rfl
theorem bytesTx : Tryz.prog.bytesOf 44 = 224 := by kernel_rfl
set_option maxRecDepth 100000 in
theorem trod_op {H : Type} {enc : TypeId × Value → H} {w : World} {base : Nat} {spare : Nat → Bool} {held : Bool} {fuel : Nat} {cs : List Value} {x : DataW H × List MemPlace}
    (h : DataW.trod enc Tryz.prog w base spare held fuel 46 cs = some x) :
    ∃ y : Ev, cs = evc y ∧ OkT y.tx := by
  obtain ⟨xs, n, _, hx, hcl, hlen, hg⟩ := DataW.trod_struct Tryz.underlying46 h
  rw [cellsOp] at hcl
  obtain ⟨c0, c1, r, rfl, hr⟩ : ∃ c0 c1 r, cs = c0 :: c1 :: r ∧ r.length = 25 := by
    match cs, hcl with
    | c0 :: c1 :: r, hcl => exact ⟨c0, c1, r, rfl, by simpa using hcl⟩
  match xs, hlen with
  | [y0, y1, y2], _ =>
  have h0 := hg 0 ⟨ "Kind", 3, 0, false, "", "", 0⟩ rfl
  have h1 := hg 1 ⟨ "A", 3, 1, false, "", "", 8⟩ rfl
  have h2 := hg 2 ⟨ "Tx", 44, 2, false, "", "", 16⟩ rfl
  dsimp only at h0 h1 h2
  rw [Tryz.cellsInt] at h0 h1
  rw [Tryz.cellsTx] at h2
  simp only [List.drop_succ_cons, List.drop_zero, List.take_succ_cons, List.take_zero, List.getElem?_cons_zero, List.getElem?_cons_succ] at h0 h1 h2
  rw [List.take_of_length_le (by omega)] at h2
  obtain ⟨z0, e0, _, _⟩ := DataW.trod_int Tryz.underlying3 h0
  obtain ⟨z1, e1, _, _⟩ := DataW.trod_int Tryz.underlying3 h1
  obtain ⟨t, ht, hk⟩ := trod_tx h2
  simp at e0 e1
  subst e0 e1 ht
  exact ⟨⟨z0, z1, t⟩, rfl, hk⟩
set_option maxRecDepth 100000 in
theorem open_ops {H : Type} {enc : TypeId × Value → H} {W : World} {base : Nat} {spare : Nat → Bool} {held : Bool} {a : Option Addr} {len cap : Nat} {d : DataW H} {p : List MemPlace}
    (h : DataW.Trod enc Tryz.prog W base spare held 22 (.slice a len cap) d p) (hw : ∀ m ∈ d.weights Tryz.prog 22, m ≤ 140737488351232) :
    ∃ l : List Ev, RSl evc 0 W.heap.size W (.slice a len cap) l ∧ ∀ x ∈ l, OkT x.tx :=
  open_rsl (n := 27) (P := fun x : Ev => OkT x.tx) evc_len (by omega) Tryz.underlying22 cellsOp (fun _ _ _ hq _ => by obtain ⟨t, e, hk⟩ := trod_op hq; exact ⟨t, hk, e⟩) h hw
set_option maxRecDepth 100000 in
theorem open_txn {H : Type} {enc : TypeId × Value → H} {W : World} {base : Nat} {spare : Nat → Bool} {held : Bool} {a : Option Addr} {len cap : Nat} {d : DataW H} {p : List MemPlace}
    (h : DataW.Trod enc Tryz.prog W base spare held 37 (.slice a len cap) d p) (hw : ∀ m ∈ d.weights Tryz.prog 37, m ≤ 140737488351232) :
    ∃ l : List Tr, RSl (fun t => txc t) 0 W.heap.size W (.slice a len cap) l ∧ (∀ x ∈ l, OkT x) ∧ l.length ≤ 140737488351232 := by
  obtain ⟨fuel, hf⟩ := h
  obtain ⟨sv, l, e, hr, ho, hl⟩ := open_cells (f := fun t => txc t) (n := 25) (P := OkT) (fun _ => rfl) (by omega) Tryz.underlying37 Tryz.cellsTx (fun _ _ _ hq _ => by obtain ⟨t, e, hk⟩ := trod_tx hq; exact ⟨t, hk, e⟩) hf hw
  rw [bytesTx] at hl
  have e2 : sv = .slice a len cap := by simpa [Value.cells] using e.symm
  subst e2
  exact ⟨l, hr, ho, by omega⟩
end Go.Proofs.YtfoemkmoambagaaGreat
namespace Go.Proofs.YtfoemkmoambagaaGreat
open Go.RowKit Go.ChangeShapes
section
variable {H : Type} {enc : TypeId × Value → H} {P : Program} {w : World} {base : Nat} {spare : Nat → Bool} {held : Bool}
theorem trodAll_five {t0 t1 t2 t3 t4 : TypeId} {args : Array Value} {ds : List (DataW H)} {ps : List MemPlace} (h : DataW.TrodAll enc P w base spare held [t0, t1, t2, t3, t4] args.toList ds ps) :
    ∃ v0 v1 v2 v3 v4 d0 d1 d2 d3 d4 p0 p1 p2 p3 p4, args = #[v0, v1, v2, v3, v4] ∧ ds = [d0, d1, d2, d3, d4] ∧ ps = p0 ++ p1 ++ p2 ++ p3 ++ p4 ∧ DataW.Trod enc P w base spare held t0 v0 d0 p0 ∧ DataW.Trod enc P w base spare held t1 v1 d1 p1 ∧ DataW.Trod enc P w base spare held t2 v2 d2 p2 ∧ DataW.Trod enc P w base spare held t3 v3 d3 p3 ∧ DataW.Trod enc P w base spare held t4 v4 d4 p4 := by
  obtain ⟨v0, vs0, d0, ds0, p0, q0, hargs, rfl, rfl, h0, r0⟩ := trodAll_cons h
  obtain ⟨v1, vs1, d1, ds1, p1, q1, rfl, rfl, rfl, h1, r1⟩ := trodAll_cons r0
  obtain ⟨v2, vs2, d2, ds2, p2, q2, rfl, rfl, rfl, h2, r2⟩ := trodAll_cons r1
  obtain ⟨v3, vs3, d3, ds3, p3, q3, rfl, rfl, rfl, h3, r3⟩ := trodAll_cons r2
  obtain ⟨v4, vs4, d4, ds4, p4, q4, rfl, rfl, rfl, h4, r4⟩ := trodAll_cons r3
  obtain ⟨rfl, rfl, rfl⟩ := trodAll_nil r4
  exact ⟨v0, v1, v2, v3, v4, d0, d1, d2, d3, d4, p0, p1, p2, p3, p4, by cases args; simp_all, rfl, by simp, h0, h1, h2, h3, h4⟩
theorem trodAll_mk5 {t0 t1 t2 t3 t4 : TypeId} {v0 v1 v2 v3 v4 : Value} {d0 d1 d2 d3 d4 : DataW H} {p0 p1 p2 p3 p4 : List MemPlace} (h0 : DataW.Trod enc P w base spare held t0 v0 d0 p0) (h1 : DataW.Trod enc P w base spare held t1 v1 d1 p1)
    (h2 : DataW.Trod enc P w base spare held t2 v2 d2 p2) (h3 : DataW.Trod enc P w base spare held t3 v3 d3 p3) (h4 : DataW.Trod enc P w base spare held t4 v4 d4 p4) : DataW.TrodAll enc P w base spare held [t0, t1, t2, t3, t4] [v0, v1, v2, v3, v4] [d0, d1, d2, d3, d4] (p0 ++ (p1 ++ (p2 ++ (p3 ++ p4)))) :=
  ⟨p0, p1 ++ (p2 ++ (p3 ++ p4)), h0, trodAll_mk4 h1 h2 h3 h4, rfl⟩
end
end Go.Proofs.YtfoemkmoambagaaGreat
