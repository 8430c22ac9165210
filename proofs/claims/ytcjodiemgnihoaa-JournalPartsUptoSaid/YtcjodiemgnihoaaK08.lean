/-
  A journal: Append, Load; What all readings of arguments share; A slice of octets among the arguments; A list of texts among the arguments; its bulk; Arguments of journals' laws, by bulk: slices of octets, lists of them; What becomes of disks of journals: facts for the laws
-/
import Derived.Test.YtcjodiemgnihoaaRows
import Derived.ProofKit
import Derived.OpenShut
import Derived.Laws.IdiomArrays
import Derived.Lib.SmallJoins
import Derived.Below
import Derived.Deep.Slices
import Derived.SizedLaws
import Derived.Carry
import Derived.JoinedCond
import Derived.Test.YtcjodiemgnihoaaK07
namespace Go.Proofs.Ytcjodiemgnihoaa
open Go.RowKit Go.Shelf
attribute [local irreducible] wpFrom wpAnyH StepH
theorem rsl_out {F : List Nat} {lo hi : Nat} {w W : World} {v : Value} {zs : List Zs} (h : RSl zsc lo hi w v zs) (h2 : hi ≤ w.heap.size) (h3 : ∀ k ∈ F, k < lo ∨ hi ≤ k) (ho : Out F w W) : RSl zsc lo hi W v zs := by
  obtain ⟨a, cap, e, hc, hm, h0⟩ := h
  refine ⟨a, cap, e, hc, hm, h0.imp id fun ⟨b, off, ha, hl, hh, hx⟩ => ⟨b, off, ha, hl, hh, fun k x hk => ?_⟩⟩
  refine (World.cell?_of_block (a := ⟨b, _, none⟩) (ho.block b (by omega) fun hF => ?_)).trans (hx k x hk)
  have := h3 b hF
  omega
theorem write_nil {D : Dk} : writeD D [] = (D, 0) := by
  unfold writeD
  rw [if_neg (by simp)]
  show ({ D with o := D.o ++ [] }, (0 : Int)) = (D, 0)
  rw [List.append_nil]
section
variable {B : Nat} {D : Dk} {v : Value}
theorem dkWriteNil (w : World) (h : ROk (.join (DKR B D v)) w) (ho : OkD D) : Calls Try.prog 29 #[.pointer (some ⟨B, 0, none⟩), .slice none 0 0] w (DkR B (.join (DKR B D v)) D (.int .i64 0) w) := by
  have hq := dkWrite_any [] w h ho (BF.nil _ _)
  rw [write_nil] at hq
  exact hq
theorem dkTrimN {n : Nat} (hn : n ≤ D.o.length) (w : World) (h : ROk (.join (DKR B D v)) w) (ho : OkD D) : Calls Try.prog 32 #[.pointer (some ⟨B, 0, none⟩), .int .i64 (n : Int)] w (DkR B (.join (DKR B D v)) (leaveD D n) (.int .i64 0) w) := by
  have hq := dkTrim_any (n : Int) w h ho
  have e : trimD D (n : Int) = (leaveD D n, 0) := by
    unfold trimD
    rw [if_neg (by omega), Int.toNat_natCast]
  rw [e] at hq
  exact hq
end
theorem Sep.asOct {w W : World} {F : List Nat} {l : List Res} {e : TypeId} {v : Value} {x : List UInt8} (h : Sep w F (.own oc e 1 v x :: l) W) : Sep w F (.oct v x :: l) W := by
  refine h.conv (fun _ => ⟨_, (h.oka 0 rfl).bsl⟩) (fun k hk => ?_)
  unfold Res.oct at hk
  dsimp only at hk
  split at hk
  · exact (List.not_mem_nil hk).elim
  · exact hk
theorem err_nz {l : List UInt8} (h : (errJ l != 0) = true) : errJ l = 5 ∧ 1024 < l.length := by
  unfold errJ at h ⊢
  split
  · exact ⟨rfl, by assumption⟩
  · next hh => rw [if_neg hh] at h; exact absurd h (by decide)
theorem err_z {l : List UInt8} (h : (errJ l != 0) = false) : l.length ≤ 1024 ∧ frmO l = frameL l := by
  have hn : ¬ 1024 < l.length := fun hn => by unfold errJ at h; rw [if_pos hn] at h; exact absurd h (by decide)
  exact ⟨by omega, if_neg hn⟩
theorem zs_next {zs : List Zs} {j : Nat} {z : Zs} (hx : zs[j]? = some z) : textsZ (zs.take (j + 1)) = textsZ (zs.take j) ++ [z.l] := by
  rw [take_oneG hx, textsZ_app]
  rfl
theorem app_next {zs : List Zs} {j : Nat} {z : Zs} (hx : zs[j]? = some z) (he : (errJ z.l != 0) = false) (hj : longB (textsZ (zs.take j)) = false) :
    framesL (textsZ (zs.take j)) ++ frmO z.l = framesL (textsZ (zs.take (j + 1))) ∧ longB (textsZ (zs.take (j + 1))) = false := by
  obtain ⟨h1, h2⟩ := err_z he
  rw [zs_next hx, frames_snoc, h2]
  refine ⟨rfl, ?_⟩
  have h3 : longB [z.l] = false := long_of fun r hr => by rw [List.mem_singleton.1 hr]; exact h1
  unfold longB at hj h3 ⊢
  rw [List.any_append, hj, h3]
  rfl
theorem frames_take_le (ls : List (List UInt8)) (k : Nat) : (framesL (ls.take k)).length ≤ (framesL ls).length := by
  have h : framesL ls = framesL (ls.take k) ++ framesL (ls.drop k) := by rw [← frames_app, List.take_append_drop]
  rw [h, List.length_append]
  omega
theorem app_bound {zs : List Zs} {j : Nat} {z : Zs} (hx : zs[j]? = some z) (he : (errJ z.l != 0) = false) (hj : longB (textsZ (zs.take j)) = false) (hs : (framesL (textsZ zs)).length ≤ 100000000) : (framesL (textsZ (zs.take j))).length + (frmO z.l).length ≤ 140737488355328 := by
  have h1 := (app_next hx he hj).1
  have h2 := frames_take_le (textsZ zs) (j + 1)
  rw [← textsZ_take, ← h1, List.length_append] at h2
  omega
theorem app_long {D : Dk} {zs : List Zs} {j : Nat} {z : Zs} (hx : zs[j]? = some z) (he : (errJ z.l != 0) = true) : appJ D (textsZ zs) = (D, 5) := by
  have h : longB (textsZ zs) = true := List.any_eq_true.2 ⟨z.l, List.mem_of_getElem? (textsZ_at hx), decide_eq_true (err_nz he).2⟩
  unfold appJ
  rw [h]
  rfl
theorem app_all {D : Dk} {zs : List Zs} (h : longB (textsZ zs) = false) : appJ D (textsZ zs) = writeD D (framesL (textsZ zs)) := by
  unfold appJ
  rw [h]
  rfl
set_option maxRecDepth 100000 in
set_option maxHeartbeats 4000000 in
theorem append_any {B : Nat} {D : Dk} {v lv : Value} {zs : List Zs} (w : World) (h : ROk (.join (DKR B D v)) w) (ho : OkD D) (hl0 : RF (Res.join (DKR B D v)).foot w lv zs) (hz : HF (Res.join (DKR B D v)).foot w zs) (hsm : (framesL (textsZ zs)).length ≤ 100000000) : Calls Try.prog 16 #[.pointer (some ⟨B, 0, none⟩), lv] w (DkR B (.join (DKR B D v)) (appJ D (textsZ zs)).1 (.int .i64 (appJ D (textsZ zs)).2) w) := by
  have hmx : Try.prog.follows .mixedOrders = true := by kernel_rfl
  obtain ⟨lo, hi, hl, hh, hf⟩ := hl0
  have HEl := Lib.hid (fun k x (hx : zs[k]? = some x) => hl.elem zsc_len hx Try.underlying27 (fun W => by kernel_rfl))
  obtain ⟨pl, cl, rfl⟩ := hl.slice
  have HLl := Lib.hid hl
  have HHl := Lib.hid hh
  have HLENl := Lib.hid (show zs.length ≤ 9223372036854775807 from by have h := hl.len; unfold maxLen at h; omega)
  have HFl := Lib.hid hf
  clear hl hh hf
  have HZF := Lib.hid hz
  have HS := Lib.hid hsm
  have HO := Lib.hid ho
  have hM := Sep.begin1 h
  clear hz hsm ho h
  go_enter Try.func16, Try.ntmps16
  go_upto_region 0 with fail
  refine wp_region_fromM (fun W => Sep w (Res.join (DKR B D v)).foot [.join (DKR B D v)] W) hM ?_
  clear hM
  rintro Y1 hM
  refine tF 1 [.val 0 (some 4) (.int .i64 0)] trivial ?_
  refine dF ?_
  try simp only [puts, Tk.put, Act.put, List.setIfInBounds_toArray, List.set_cons_zero, List.set_cons_succ]
  go_upto_region 1 with fail
  refine wp_region_fromM (fun W => Sep w (Res.join (DKR B D v)).foot [.join (DKR B D v)] W) hM ?_
  clear hM
  rintro Y2 hM
  refine tF 1 [.val 0 (some 11) (pt B 0)] trivial ?_
  have hq := dkWriteNil _ (hM.oka 0 rfl) HO.out
  refine cF (some 12) 29 #[pt B 0, .slice none 0 0] ((hq).mono ?_)
  rintro e Y3 ⟨rfl, v3, hT⟩
  clear hq
  replace hM := hM.turn 0 rfl hT rfl
  clear hT
  refine tF 3 [.val 2 (some 5) (.int .i64 0)] trivial ?_
  refine dF ?_
  try simp only [puts, Tk.put, Act.put, List.setIfInBounds_toArray, List.set_cons_zero, List.set_cons_succ]
  go_upto_region 2 with fail
  refine wp_region_fromM (fun W => Sep w (Res.join (DKR B D v)).foot [.join (DKR B D v3)] W) hM ?_
  clear hM
  rintro Y4 hM
  refine tF 2 [.val 0 (some 13) (.int .i64 0), .val 1 (some 14) (.bool false)] trivial ?_
  refine dF ?_
  try simp only [puts, Tk.put, Act.put, List.setIfInBounds_toArray, List.set_cons_zero, List.set_cons_succ]
  go_upto_region 4 with fail
  refine wp_region_fromM (fun W => Sep w (Res.join (DKR B D v)).foot [.join (DKR B D v3)] W) hM ?_
  clear hM
  rintro Y5 hM
  refine tF 1 [.val 0 (some 6) (.slice none 0 0)] trivial ?_
  refine dF ?_
  try simp only [puts, Tk.put, Act.put, List.setIfInBounds_toArray, List.set_cons_zero, List.set_cons_succ]
  go_upto_region 5 with fail
  refine wp_region_fromM (fun W => Sep w (Res.join (DKR B D v)).foot [.join (DKR B D v3)] W) hM ?_
  clear hM
  rintro Y6 hM
  refine tF 3 [.val 0 (some 16) (.slice pl zs.length cl), .val 1 (some 17) (.int .i64 (zs.length : Int)), .val 2 (some 18) (.int .i64 0)] trivial ?_
  refine dF ?_
  try simp only [puts, Tk.put, Act.put, List.setIfInBounds_toArray, List.set_cons_zero, List.set_cons_succ]
  replace hM := hM.nil oc 5 1
  go_wp2_with fail
  go_loopw [6, 18] (fun u6 u18 wr => ∃ j : Nat, j ≤ zs.length ∧ u18 = .int .i64 (j : Int) ∧ longB (textsZ (zs.take j)) = false ∧ Sep w (Res.join (DKR B D v)).foot [.own oc 5 1 u6 (framesL (textsZ (zs.take j))), .join (DKR B D v3)] wr) (fun u6 u18 _ => zs.length - (intOf u18).toNat)
  case atStart => exact ⟨0, Nat.zero_le _, rfl, rfl, hM⟩
  clear hM
  case round =>
    obtain ⟨j, hj, rfl, hnl, hM⟩ := hrel
    have HNL := Lib.hid hnl
    clear hnl
    by_cases hlt : j < zs.length
    case pos =>
      have HJ := Lib.hid hlt
      have hlt' : (j : Int) < (zs.length : Int) := by omega
      have HLT := Lib.hid hlt'
      obtain ⟨z, hx⟩ : ∃ z, zs[j]? = some z := ⟨_, List.getElem?_eq_getElem hlt⟩
      obtain ⟨bl, ol, _, _, hit, hct⟩ := HEl.out j z hx
      have HXl := Lib.hid hx
      have HIl := Lib.hid hit
      have HCl := Lib.hid hct
      clear hx hit hct
      clear hlt hlt'
      go_upto_region 6 with fail
      refine wp_region_fromM (fun W => Sep w (Res.join (DKR B D v)).foot [.own oc 5 1 (u6) ((framesL (textsZ (zs.take j)))), .join (DKR B D v3)] W) hM ?_
      clear hM
      rintro Y7 hM
      refine tF 1 [.alt 0 (some 19) (.bool (decide ((j : Int) < (zs.length : Int)))) (.bool true)] ⟨congrArg Value.bool (decide_eq_true HLT.out), trivial⟩ ?_
      refine dF ?_
      try simp only [puts, Tk.put, Act.put, List.setIfInBounds_toArray, List.set_cons_zero, List.set_cons_succ]
      go_upto_region 7 with fail
      refine wp_region_fromM (fun W => Sep w (Res.join (DKR B D v)).foot [.own oc 5 1 (u6) ((framesL (textsZ (zs.take j)))), .join (DKR B D v3)] W) hM ?_
      clear hM
      rintro Y8 hM
      refine tF 3 [.idx 0 (some 20) 27 (.slice pl zs.length cl) (.int .i64 (j : Int)) (pt bl ol), .load 1 (some 21) 22 (pt bl ol) (.slice z.a z.l.length z.c), .val 2 (some 8) (.slice z.a z.l.length z.c)] ⟨HIl.out _, ld_cell _ _ Try.underlying22 rfl (HCl.out _ (rsl_out HLl.out HHl.out HFl.out hM.out) 0 _ rfl), trivial⟩ ?_
      refine dF ?_
      try simp only [puts, Tk.put, Act.put, List.setIfInBounds_toArray, List.set_cons_zero, List.set_cons_succ]
      go_upto_region 8 with fail
      refine wp_region_fromM (fun W => Sep w (Res.join (DKR B D v)).foot [.own oc 5 1 (u6) ((framesL (textsZ (zs.take j)))), .join (DKR B D v3)] W) hM ?_
      clear hM
      rintro Y9 hM
      refine tF 1 [.val 0 (some 23) (.slice z.a z.l.length z.c)] trivial ?_
      refine cF (some 24) 8 #[.slice z.a z.l.length z.c] ((frame_any z.l _ (((HZF.out.get HXl.out).out hM.out).bsl)).mono ?_)
      rintro e Y11 ⟨v9o, rfl, hO, hb⟩
      replace hM := hM.octN hO hb
      clear hO hb
      obtain ⟨a9o, c9o, rfl, _⟩ := (hM.oka 0 rfl).octs.slice
      refine tF 7 [.val 2 (some 22) (.tuple #[.slice a9o (frmO z.l).length c9o, .int .i64 (errJ z.l)]), .val 3 (some 25) (.slice a9o (frmO z.l).length c9o), .val 4 (some 26) (.int .i64 (errJ z.l)), .val 5 (some 9) (.slice a9o (frmO z.l).length c9o), .val 6 (some 10) (.int .i64 (errJ z.l))] trivial ?_
      refine dF ?_
      try simp only [puts, Tk.put, Act.put, List.setIfInBounds_toArray, List.set_cons_zero, List.set_cons_succ]
      go_upto_region 9 with fail
      refine wp_region_fromM (fun W => Sep w (Res.join (DKR B D v)).foot [.oct (.slice a9o (frmO z.l).length c9o) (frmO z.l), .own oc 5 1 (u6) ((framesL (textsZ (zs.take j)))), .join (DKR B D v3)] W) hM ?_
      clear hM
      rintro Y12 hM
      refine tF 2 [.val 0 (some 27) (.int .i64 (errJ z.l)), .val 1 (some 28) (.bool ((errJ z.l) != 0))] trivial ?_
      refine dF ?_
      try simp only [puts, Tk.put, Act.put, List.setIfInBounds_toArray, List.set_cons_zero, List.set_cons_succ]
      cases hb1 : (errJ z.l) != 0 with
      | false =>
        have Hhb1 := Lib.hid hb1
        clear hb1
        go_upto_region 11 with fail
        refine wp_region_fromM (fun W => Sep w (Res.join (DKR B D v)).foot [.oct (.slice a9o (frmO z.l).length c9o) (frmO z.l), .own oc 5 1 (u6) ((framesL (textsZ (zs.take j)))), .join (DKR B D v3)] W) hM ?_
        clear hM
        rintro Y13 hM
        refine tF 2 [.val 0 (some 30) (u6), .val 1 (some 31) (.slice a9o (frmO z.l).length c9o)] trivial ?_
        have hbd := app_bound HXl.out Hhb1.out HNL.out HS.out
        obtain ⟨v14, Y14, hrun, ht⟩ := own_appO (hM.oka 1 rfl) ((hM.oka 0 rfl).octs) hbd 22
        clear hbd
        replace hM := hM.turn 1 rfl ht rfl
        clear ht
        refine wpFrom_append (d := some 32) (t := 22) (t' := 22) (ty := 22) (v := u6) (x := .slice a9o (frmO z.l).length c9o) (by kernel_rfl) hrun ?_
        clear hrun
        refine tF 4 [.val 3 (some 6) (v14)] trivial ?_
        refine dF ?_
        try simp only [puts, Tk.put, Act.put, List.setIfInBounds_toArray, List.set_cons_zero, List.set_cons_succ]
        go_upto_region 12 with fail
        refine wp_region_fromM (fun W => Sep w (Res.join (DKR B D v)).foot [.oct (.slice a9o (frmO z.l).length c9o) (frmO z.l), .own oc 5 1 (v14) ((framesL (textsZ (zs.take j))) ++ frmO z.l), .join (DKR B D v3)] W) hM ?_
        clear hM
        rintro Y15 hM
        refine tF 2 [.alt 0 (some 33) (.int .i64 (IntKind.i64.wrap ((j : Int) + 1))) (.int .i64 ((j + 1 : Nat) : Int)), .val 1 (some 18) (.int .i64 ((j + 1 : Nat) : Int))] ⟨congrArg (Value.int .i64) ((IntWalk.i64_in _ (by have := HLENl.out; have := HJ.out; omega)).trans (by omega)), trivial⟩ ?_
        refine dF ?_
        try simp only [puts, Tk.put, Act.put, List.setIfInBounds_toArray, List.set_cons_zero, List.set_cons_succ]
        have hQ : Sep w (Res.join (DKR B D v)).foot [.own oc 5 1 (v14) ((framesL (textsZ (zs.take j))) ++ frmO z.l), .join (DKR B D v3)] Y15 := hM.pick [1, 2] (by decide) rfl
        have hq := app_next HXl.out Hhb1.out HNL.out
        rw [hq.1] at hQ
        have HQ := Lib.hid hQ
        have HQ2 := Lib.hid hq.2
        clear hM hQ hq
        go_wp2_with fail
        go_roundw
        case rel => exact ⟨j + 1, HJ.out, rfl, HQ2.out, HQ.out⟩
        case measure => have := HJ.out; simp [intOf]; omega
      | true =>
        have Hhb1 := Lib.hid hb1
        clear hb1
        go_upto_region 10 with fail
        refine wp_region_fromM (fun W => Sep w (Res.join (DKR B D v)).foot [.oct (.slice a9o (frmO z.l).length c9o) (frmO z.l), .own oc 5 1 (u6) ((framesL (textsZ (zs.take j)))), .join (DKR B D v3)] W) hM ?_
        clear hM
        rintro Y16 hM
        refine tF 2 [.val 0 (some 29) (.int .i64 (errJ z.l)), .val 1 (some 4) (.int .i64 (errJ z.l))] trivial ?_
        refine dF ?_
        try simp only [puts, Tk.put, Act.put, List.setIfInBounds_toArray, List.set_cons_zero, List.set_cons_succ]
        have hQ : Sep w (Res.join (DKR B D v)).foot [.join (DKR B D v3)] Y16 := hM.pick [2] (by decide) rfl
        go_wp2_with fail
        go_ret
        rw [app_long HXl.out Hhb1.out]
        exact ⟨by rw [(err_nz Hhb1.out).1]; rfl, _, hQ.fin1⟩
    case neg =>
      obtain rfl : j = zs.length := by omega
      rw [List.take_length] at hM
      replace HNL : Hid (longB (textsZ zs) = false) := Lib.hid (by have h := HNL.out; rw [List.take_length] at h; exact h)
      replace hM := hM.asOct
      go_upto_region 6 with fail
      refine wp_region_fromM (fun W => Sep w (Res.join (DKR B D v)).foot [.oct u6 (framesL (textsZ zs)), .join (DKR B D v3)] W) hM ?_
      clear hM
      rintro Y17 hM
      refine tF 1 [.alt 0 (some 19) (.bool (decide ((zs.length : Int) < (zs.length : Int)))) (.bool false)] ⟨congrArg Value.bool (decide_eq_false (by omega)), trivial⟩ ?_
      refine dF ?_
      try simp only [puts, Tk.put, Act.put, List.setIfInBounds_toArray, List.set_cons_zero, List.set_cons_succ]
      go_upto_region 13 with fail
      refine wp_region_fromM (fun W => Sep w (Res.join (DKR B D v)).foot [.oct u6 (framesL (textsZ zs)), .join (DKR B D v3)] W) hM ?_
      clear hM
      rintro Y18 hM
      refine tF 2 [.val 0 (some 34) (pt B 0), .val 1 (some 35) (u6)] trivial ?_
      have hq := dkWrite_any (framesL (textsZ zs)) _ (hM.oka 1 rfl) HO.out (BF.mine hM (i := 0) (j := 1) rfl rfl (by decide))
      refine cF (some 36) 29 #[pt B 0, u6] ((hq).mono ?_)
      rintro e Y19 ⟨rfl, v19, hT⟩
      clear hq
      replace hM := hM.turn 1 rfl hT rfl
      clear hT
      refine tF 4 [.val 3 (some 4) (.int .i64 (writeD D (framesL (textsZ zs))).2)] trivial ?_
      refine dF ?_
      try simp only [puts, Tk.put, Act.put, List.setIfInBounds_toArray, List.set_cons_zero, List.set_cons_succ]
      have hQ : Sep w (Res.join (DKR B D v)).foot [.join (DKR B (writeD D (framesL (textsZ zs))).1 v19)] Y19 := hM.pick [1] (by decide) rfl
      go_wp2_with fail
      go_ret
      rw [app_all HNL.out]
      exact ⟨rfl, _, hQ.fin1⟩
def LdR (B : Nat) (r : Res) (D : Dk) (w : World) (e : Ending) (W' : World) : Prop :=
  ∃ v zs v' n, e = .returned (.tuple #[v, .int .i64 0]) ∧ Spl D.o (textsZ zs) n ∧ RTurn r (.join [.join (DKR B (leaveD D n) v'), .own zsc 22 1 v zs, .octs zs]) w W'
set_option maxRecDepth 100000 in
set_option maxHeartbeats 4000000 in
theorem load_any {B : Nat} {D : Dk} {v : Value} (w : World) (h : ROk (.join (DKR B D v)) w) (ho : OkD D) : Calls Try.prog 20 #[.pointer (some ⟨B, 0, none⟩)] w (LdR B (.join (DKR B D v)) D w) := by
  have hmx : Try.prog.follows .mixedOrders = true := by kernel_rfl
  have HO := Lib.hid ho
  have hM := Sep.begin1 h
  clear h ho
  go_enter Try.func20, Try.ntmps20
  go_upto_region 0 with fail
  refine wp_region_fromM (fun W => Sep w (Res.join (DKR B D v)).foot [.join (DKR B D v)] W) hM ?_
  clear hM
  rintro Y1 hM
  refine tF 2 [.val 0 (some 2) (.slice none 0 0), .val 1 (some 3) (.int .i64 0)] trivial ?_
  refine dF ?_
  try simp only [puts, Tk.put, Act.put, List.setIfInBounds_toArray, List.set_cons_zero, List.set_cons_succ]
  go_upto_region 1 with fail
  refine wp_region_fromM (fun W => Sep w (Res.join (DKR B D v)).foot [.join (DKR B D v)] W) hM ?_
  clear hM
  rintro Y2 hM
  refine tF 1 [.val 0 (some 8) (pt B 0)] trivial ?_
  refine cF (some 9) 21 #[pt B 0] ((dkOctets_any _ (DkV.of (hM.oka 0 rfl)) HO.out).mono ?_)
  rintro e Y3 ⟨v3, rfl, hR⟩
  replace hM := hM.gain hR
  clear hR
  refine cF (some 10) 9 #[v3] ((split_any D.o _ (by have h1 := HO.out.room; have h2 := HO.out.len; omega) ((hM.oka 0 rfl).octs)).mono ?_)
  rintro e Y5 ⟨v3s, zs3, n3, rfl, hs, hR⟩
  have HS3 := Lib.hid hs
  clear hs
  replace hM := (hM.gain (Sep.close (ps := [.own zsc 22 1 (v3s) (zs3), .octs zs3]) (l := []) hR)).part
  clear hR
  replace hM : Sep w (Res.join (DKR B D v)).foot [.own zsc 22 1 (v3s) (zs3), .octs zs3, .oct v3 D.o, .join (DKR B D v)] Y5 := hM
  refine tF 8 [.val 3 (some 7) (.tuple #[v3s, .int .i64 (n3 : Int)]), .val 4 (some 11) (v3s), .val 5 (some 12) (.int .i64 (n3 : Int)), .val 6 (some 4) (v3s), .val 7 (some 5) (.int .i64 (n3 : Int))] trivial ?_
  refine dF ?_
  try simp only [puts, Tk.put, Act.put, List.setIfInBounds_toArray, List.set_cons_zero, List.set_cons_succ]
  go_upto_region 2 with fail
  refine wp_region_fromM (fun W => Sep w (Res.join (DKR B D v)).foot [.own zsc 22 1 (v3s) (zs3), .octs zs3, .oct v3 D.o, .join (DKR B D v)] W) hM ?_
  clear hM
  rintro Y6 hM
  refine tF 2 [.val 0 (some 13) (pt B 0), .val 1 (some 14) (.int .i64 (n3 : Int))] trivial ?_
  have hq := dkTrimN HS3.out.le _ (hM.oka 3 rfl) HO.out
  refine cF (some 15) 32 #[pt B 0, .int .i64 (n3 : Int)] ((hq).mono ?_)
  rintro e Y7 ⟨rfl, v7, hT⟩
  clear hq
  replace hM := hM.turn 3 rfl hT rfl
  clear hT
  refine tF 4 [.val 3 (some 6) (.int .i64 0)] trivial ?_
  refine dF ?_
  try simp only [puts, Tk.put, Act.put, List.setIfInBounds_toArray, List.set_cons_zero, List.set_cons_succ]
  go_upto_region 3 with fail
  refine wp_region_fromM (fun W => Sep w (Res.join (DKR B D v)).foot [.own zsc 22 1 (v3s) (zs3), .octs zs3, .oct v3 D.o, .join (DKR B (leaveD D n3) v7)] W) hM ?_
  clear hM
  rintro Y8 hM
  refine tF 2 [.val 0 (some 16) (.int .i64 0), .val 1 (some 17) (.bool false)] trivial ?_
  refine dF ?_
  try simp only [puts, Tk.put, Act.put, List.setIfInBounds_toArray, List.set_cons_zero, List.set_cons_succ]
  go_upto_region 5 with fail
  refine wp_region_fromM (fun W => Sep w (Res.join (DKR B D v)).foot [.own zsc 22 1 (v3s) (zs3), .octs zs3, .oct v3 D.o, .join (DKR B (leaveD D n3) v7)] W) hM ?_
  clear hM
  rintro Y9 hM
  refine tF 3 [.val 0 (some 19) (v3s), .val 1 (some 2) (v3s), .val 2 (some 3) (.int .i64 0)] trivial ?_
  refine dF ?_
  try simp only [puts, Tk.put, Act.put, List.setIfInBounds_toArray, List.set_cons_zero, List.set_cons_succ]
  have hQ : Sep w (Res.join (DKR B D v)).foot ([.join (DKR B (leaveD D n3) v7), .own zsc 22 1 (v3s) (zs3), .octs zs3] ++ []) Y9 := hM.pick [3, 0, 1] (by decide) rfl
  go_wp2_with fail
  go_ret2
  exact ⟨v3s, zs3, v7, n3, rfl, HS3.out, hQ.close.fin1⟩
set_option maxRecDepth 100000 in
set_option maxHeartbeats 4000000 in
theorem append_no {p lv : Value} (w : World) (h : NoD w p) : Calls Try.prog 16 #[p, lv] w fun e W' => e = .returned (.int .i64 9) ∧ W' = w := by
  have HN := Lib.hid h
  clear h
  go_enter Try.func16, Try.ntmps16
  go_wp2_with (go_at_call 29; refine (dkWrite_no _ _ HN.out).mono ?_; rintro e w' ⟨rfl, rfl⟩)
  go_ret
  exact ⟨rfl, rfl⟩
set_option maxRecDepth 100000 in
set_option maxHeartbeats 4000000 in
theorem load_no {p : Value} (w : World) (h : NoD w p) : Calls Try.prog 20 #[p] w fun e W' => e = .returned (.tuple #[.slice none 0 0, .int .i64 9]) ∧ Below w.heap.size w W' := by
  have hmx : Try.prog.follows .mixedOrders = true := by kernel_rfl
  have HN := Lib.hid h
  have hM := Sep.start w
  clear h
  go_enter Try.func20, Try.ntmps20
  go_upto_region 0 with fail
  refine wp_region_fromM (fun W => Sep w [] [] W) hM ?_
  clear hM
  rintro Y1 hM
  refine tF 2 [.val 0 (some 2) (.slice none 0 0), .val 1 (some 3) (.int .i64 0)] trivial ?_
  refine dF ?_
  try simp only [puts, Tk.put, Act.put, List.setIfInBounds_toArray, List.set_cons_zero, List.set_cons_succ]
  go_upto_region 1 with fail
  refine wp_region_fromM (fun W => Sep w [] [] W) hM ?_
  clear hM
  rintro Y2 hM
  refine tF 1 [.val 0 (some 8) (p)] trivial ?_
  refine cF (some 9) 21 #[p] ((dkOctets_no _ (HN.out.below hM.b)).mono ?_)
  rintro e Y3 ⟨rfl, rfl⟩
  refine cF (some 10) 9 #[.slice none 0 0] ((split_any ([]) _ (by decide) ((BSl.nil 0 _ _))).mono ?_)
  rintro e Y5 ⟨v3s, zs3, n3, rfl, hs, hR⟩
  have HS3 := Lib.hid hs
  clear hs
  replace hM := (hM.gain (Sep.close (ps := [.own zsc 22 1 (v3s) (zs3), .octs zs3]) (l := []) hR)).part
  clear hR
  replace hM : Sep w [] [.own zsc 22 1 (v3s) (zs3), .octs zs3] Y5 := hM
  refine tF 8 [.val 3 (some 7) (.tuple #[v3s, .int .i64 (n3 : Int)]), .val 4 (some 11) (v3s), .val 5 (some 12) (.int .i64 (n3 : Int)), .val 6 (some 4) (v3s), .val 7 (some 5) (.int .i64 (n3 : Int))] trivial ?_
  refine dF ?_
  try simp only [puts, Tk.put, Act.put, List.setIfInBounds_toArray, List.set_cons_zero, List.set_cons_succ]
  go_upto_region 2 with fail
  refine wp_region_fromM (fun W => Sep w [] [.own zsc 22 1 (v3s) (zs3), .octs zs3] W) hM ?_
  clear hM
  rintro Y6 hM
  refine tF 2 [.val 0 (some 13) (p), .val 1 (some 14) (.int .i64 (n3 : Int))] trivial ?_
  refine cF (some 15) 32 #[p, .int .i64 (n3 : Int)] ((dkTrim_no (n3 : Int) _ (HN.out.below hM.b)).mono ?_)
  rintro e Y7 ⟨rfl, rfl⟩
  refine tF 4 [.val 3 (some 6) (.int .i64 9)] trivial ?_
  refine dF ?_
  try simp only [puts, Tk.put, Act.put, List.setIfInBounds_toArray, List.set_cons_zero, List.set_cons_succ]
  go_upto_region 3 with fail
  refine wp_region_fromM (fun W => Sep w [] [.own zsc 22 1 (v3s) (zs3), .octs zs3] W) hM ?_
  clear hM
  rintro Y8 hM
  refine tF 2 [.val 0 (some 16) (.int .i64 9), .val 1 (some 17) (.bool true)] trivial ?_
  refine dF ?_
  try simp only [puts, Tk.put, Act.put, List.setIfInBounds_toArray, List.set_cons_zero, List.set_cons_succ]
  go_upto_region 4 with fail
  refine wp_region_fromM (fun W => Sep w [] [.own zsc 22 1 (v3s) (zs3), .octs zs3] W) hM ?_
  clear hM
  rintro Y9 hM
  refine tF 3 [.val 0 (some 18) (.int .i64 9), .val 1 (some 2) (.slice none 0 0), .val 2 (some 3) (.int .i64 9)] trivial ?_
  refine dF ?_
  try simp only [puts, Tk.put, Act.put, List.setIfInBounds_toArray, List.set_cons_zero, List.set_cons_succ]
  go_wp2_with fail
  go_ret2
  exact ⟨rfl, hM.b⟩
end Go.Proofs.Ytcjodiemgnihoaa
namespace Go.Proofs.Ytcjodiemgnihoaa
open Go.ChangeShapes Go.WideShapes Go.ChangeAt Go.RowKit
theorem Try.own : ownKnob Try.prog.godebug = none := by kernel_rfl
theorem Try.laidOut : laidOutB Try.prog = true := by kernel_rfl
theorem list_of {α : Type} {Q : Nat → α → Prop} : ∀ {n : Nat}, (∀ i, i < n → ∃ x, Q i x) → ∃ l : List α, l.length = n ∧ ∀ k x, l[k]? = some x → Q k x
  | 0, _ => ⟨[], rfl, fun k x h => by simp at h⟩
  | n + 1, h => by
    obtain ⟨l, hl, hq⟩ := list_of (n := n) (fun i hi => h i (by omega))
    obtain ⟨y, hy⟩ := h n (by omega)
    refine ⟨l ++ [y], by simp [hl], fun k x hx => ?_⟩
    by_cases hk : k < n
    · rw [List.getElem?_append_left (by omega)] at hx
      exact hq k x hx
    · rw [List.getElem?_append_right (by omega)] at hx
      have : k = n := by
        have := (List.getElem?_eq_some_iff.1 hx).1
        simp at this
        omega
      subst this
      simp [hl] at hx
      rw [← hx]; exact hy
theorem add_plain (b off q : Nat) : (⟨b, off, none⟩ : Addr).add q = ⟨b, off + q, none⟩ := by cases q <;> simp [Addr.add]
end Go.Proofs.Ytcjodiemgnihoaa
namespace Go.Proofs.Ytcjodiemgnihoaa
open Go.ChangeShapes Go.WideShapes Go.ChangeAt Go.RowKit Go.Deep
theorem Try.cells8 : Try.prog.cellsOf 5 = 1 := by kernel_rfl
theorem wf_u8 {x : Int} (h : (Lit.int .u8 x).wf = true) : ∃ b : UInt8, x = (b.toNat : Int) := by
  have h' : 0 ≤ x ∧ x < 256 := by
    simp [Lit.wf, IntKind.min, IntKind.max, IntKind.bits, IntKind.signed] at h
    omega
  refine ⟨UInt8.ofNat x.toNat, ?_⟩
  rw [UInt8.toNat_ofNat']
  omega
end Go.Proofs.Ytcjodiemgnihoaa
namespace Go.Proofs.Ytcjodiemgnihoaa
open Go.ChangeShapes Go.WideShapes Go.ChangeAt Go.RowKit Go.Deep
theorem bulk_pos {H : Type} (d : DataW H) : 0 < Rows.uptoBulk d := by
  cases d with
  | lit l => cases l <;> simp [Rows.uptoBulk]
  | _ => simp [Rows.uptoBulk]
theorem bulk_len {H : Type} : ∀ l : List (DataW H), l.length ≤ Rows.uptoBulkAll l
  | [] => Nat.zero_le _
  | d :: l => by have h1 := bulk_pos d; have h2 := bulk_len l; simp only [Rows.uptoBulkAll, List.length_cons]; omega
theorem Try.cellsB : Try.prog.cellsOf 22 = 1 := by kernel_rfl
theorem open_bytes1 {H : Type} {enc : TypeId × Value → H} {W : World} {base : Nat} {spare : Nat → Bool} {held : Bool} {fuel : Nat} {v : Value} {d : DataW H} {p : List MemPlace}
    (hf : DataW.trod enc Try.prog W base spare held fuel 22 [v] = some (d, p)) : ∃ zs : List UInt8, BSl 0 W.heap.size W v zs ∧ zs.length ≤ Rows.uptoBulk d := by
  rcases open_slice1 Try.underlying22 Try.cells8 hf with h0 | ⟨ad, len, cap, m, n, V, D, Pl, hcs, hb, hl, hm, hmm, hx, hi⟩
  · obtain ⟨hcs, _⟩ := h0
    cases hcs
    exact ⟨[], BSl.nil _ _ _, Nat.zero_le _⟩
  · cases hcs
    have hlm : len ≤ m := by rw [hmm]; split <;> omega
    have key : ∀ i, i < len → ∃ x : UInt8, W.cell? (ad.add i) = some (bv x) := fun i hil => by
      obtain ⟨hc, ht⟩ := hi i (by omega)
      obtain ⟨x, e, _, w0⟩ := DataW.trod_int Try.underlying5 ht
      simp at e
      obtain ⟨b, rfl⟩ := wf_u8 w0
      exact ⟨b, by rw [hc, e]⟩
    obtain ⟨zs, hz, hq⟩ := list_of key
    have hd : d = .slice ((List.range len).map D) ((List.range (m - len)).map fun j => D (len + j)) := (Prod.mk.inj hx).1
    refine ⟨zs, ⟨some ad, cap, by rw [hz], by rw [hz]; exact hl, ?_⟩, ?_⟩
    · by_cases hlen : len = 0
      · exact .inl (List.length_eq_zero_iff.1 (by omega))
      · obtain ⟨x, h0⟩ := key 0 (by omega)
        obtain ⟨b, off, sp⟩ := ad
        have hsp : sp = none := by
          cases sp with
          | none => rfl
          | some _ => simp [Addr.add, World.cell?] at h0; split at h0 <;> simp at h0
        subst hsp
        refine .inr ⟨b, off, rfl, Nat.zero_le _, World.block_lt_of_cell? W _ h0, fun k x hx => ?_⟩
        have := hq k x hx
        rwa [add_plain] at this
    · rw [hd]
      have := bulk_len ((List.range len).map D)
      simp only [Rows.uptoBulk]
      simp at this
      omega
theorem bulk_flat {H : Type} {o n : Nat} {w : World} (D : Nat → DataW H) : ∀ (zs : List (SX o n w)) (i : Nat), (∀ k x, zs[k]? = some x → x.1.2.length ≤ Rows.uptoBulk (D (i + k))) → (flat zs).length ≤ Rows.uptoBulkAll ((List.range' i zs.length).map D)
  | [], _, _ => by simp [flat]
  | x :: zs, i, h => by
    have h0 := h 0 x rfl
    have ih := bulk_flat D zs (i + 1) (fun k y hy => by have := h (k + 1) y (by simpa using hy); rwa [show i + (k + 1) = i + 1 + k by omega] at this)
    have e : flat (x :: zs) = x.1.2 ++ flat zs := by simp [flat]
    rw [e, List.length_append, List.length_cons, List.range'_succ, List.map_cons]
    simp only [Rows.uptoBulkAll]
    simp only [Nat.add_zero] at h0
    omega
theorem open_bytess {H : Type} {enc : TypeId × Value → H} {W : World} {base : Nat} {spare : Nat → Bool} {held : Bool} {a : Option Addr} {len cap : Nat} {d : DataW H} {p : List MemPlace}
    (h : DataW.Trod enc Try.prog W base spare held 27 (.slice a len cap) d p) (hk : Rows.uptoBulk d ≤ 1048576) :
    ∃ zs : List (SX 1048576 W.heap.size W), SSl W.heap.size W (.slice a len cap) zs ∧ zs.length ≤ 1048576 ∧ (flat zs).length ≤ 1048576 := by
  obtain ⟨fuel, hf⟩ := h
  rcases open_slice1 Try.underlying27 Try.cellsB hf with h0 | ⟨ad, l, c, m, n, V, D, Pl, hcs, hb, hl, hm, hmm, hx, hi⟩
  · obtain ⟨hcs, _⟩ := h0
    simp [Value.cells] at hcs
    obtain ⟨rfl, rfl, rfl⟩ := hcs
    exact ⟨[], ⟨none, 0, rfl, .inl rfl⟩, by simp, by simp [flat]⟩
  · simp [Value.cells] at hcs
    obtain ⟨rfl, rfl, rfl⟩ := hcs
    have hlm : len ≤ m := by rw [hmm]; split <;> omega
    have hd : d = .slice ((List.range len).map D) ((List.range (m - len)).map fun j => D (len + j)) := (Prod.mk.inj hx).1
    have hall : Rows.uptoBulkAll ((List.range len).map D) ≤ 1048576 := by
      rw [hd] at hk
      simp only [Rows.uptoBulk] at hk
      omega
    have hone : ∀ (l : List (DataW H)) (x : DataW H), x ∈ l → Rows.uptoBulk x ≤ Rows.uptoBulkAll l := fun l => by
      induction l with
      | nil => intro x hx; cases hx
      | cons y l ih =>
        intro x hx
        simp only [Rows.uptoBulkAll]
        rcases List.mem_cons.1 hx with rfl | hx
        · omega
        · have := ih x hx; omega
    have key : ∀ i, i < len → ∃ x : SX 1048576 W.heap.size W, W.cell? (ad.add i) = some x.1.1 ∧ x.1.2.length ≤ Rows.uptoBulk (D i) := fun i hil => by
      obtain ⟨hc, ht⟩ := hi i (by omega)
      obtain ⟨zs, hz, hzl⟩ := open_bytes1 ht
      have hle := hone _ (D i) (List.mem_map.2 ⟨i, List.mem_range.2 hil, rfl⟩)
      exact ⟨⟨(V i, zs), hz, by dsimp only; omega⟩, hc, hzl⟩
    obtain ⟨zs, hz, hq⟩ := list_of key
    have hlen : zs.length ≤ 1048576 := by
      have := bulk_len ((List.range len).map D)
      simp at this
      omega
    have hfl := bulk_flat D zs 0 (fun k x hx => by rw [Nat.zero_add]; exact (hq k x hx).2)
    rw [hz, ← List.range_eq_range'] at hfl
    refine ⟨zs, ⟨some ad, cap, by rw [hz], ?_⟩, hlen, by omega⟩
    by_cases hl0 : len = 0
    · exact .inl (List.length_eq_zero_iff.1 (by omega))
    · obtain ⟨x, h0, _⟩ := key 0 (by omega)
      obtain ⟨b, off, sp⟩ := ad
      have hsp : sp = none := by
        cases sp with
        | none => rfl
        | some _ => simp [Addr.add, World.cell?] at h0; split at h0 <;> simp at h0
      subst hsp
      refine .inr ⟨b, off, rfl, World.block_lt_of_cell? W _ h0, fun k x hx => ?_⟩
      have := (hq k x hx).1
      rwa [add_plain] at this
end Go.Proofs.Ytcjodiemgnihoaa
namespace Go.Proofs.Ytcjodiemgnihoaa
open Go.ChangeShapes Go.WideShapes Go.ChangeAt Go.RowKit Go.Deep
theorem bulk_all {H : Type} {ds : List (DataW H)} (hk : Rows.uptoSmall H ds = true) : Rows.uptoBulkAll ds ≤ 1048576 := of_decide_eq_true hk
theorem open_zs {H : Type} {enc : TypeId × Value → H} {W : World} {base : Nat} {spare : Nat → Bool} {held : Bool} {a : Option Addr} {len cap : Nat} {d : DataW H} {p : List MemPlace}
    (h : DataW.Trod enc Try.prog W base spare held 27 (.slice a len cap) d p) (hk : Rows.uptoBulk d ≤ 1048576) :
    ∃ zs : List Zs, RSl zsc 0 W.heap.size W (.slice a len cap) zs ∧ W.heap.size ≤ W.heap.size ∧ Holds W.heap.size W zs ∧ zs.length ≤ 1048576 ∧ (textsZ zs).flatten.length ≤ 1048576 := by
  obtain ⟨xs, hs, hl, hf⟩ := open_bytess h hk
  have hw : ∀ a' len' cap', Value.slice a len cap = .slice a' len' cap' → len' ≤ cap' ∧ cap' ≤ maxLen := by
    intro a' len' cap' e
    cases e
    obtain ⟨fuel, hfu⟩ := h
    rcases open_slice1 Try.underlying27 Try.cellsB hfu with h0 | ⟨ad, l, c, m, n, V, D, Pl, hcs, hb, hl, hm, hmm, hx, hi⟩
    · obtain ⟨hcs, _⟩ := h0
      simp [Value.cells] at hcs
      obtain ⟨rfl, rfl, rfl⟩ := hcs
      exact ⟨Nat.le_refl _, Nat.zero_le _⟩
    · simp [Value.cells] at hcs
      obtain ⟨rfl, rfl, rfl⟩ := hcs
      exact ⟨hl, hm⟩
  obtain ⟨zs, h1, h2, h3, h4⟩ := ssl_rsl hs hl hw
  refine ⟨zs, h3, Nat.le_refl _, h4, by omega, ?_⟩
  rw [h2]
  exact hf
theorem open_bytesU {H : Type} {enc : TypeId × Value → H} {W : World} {base : Nat} {spare : Nat → Bool} {held : Bool} {a : Option Addr} {len cap : Nat} {d : DataW H} {p : List MemPlace}
    (h : DataW.Trod enc Try.prog W base spare held 22 (.slice a len cap) d p) : ∃ zs : List UInt8, BSl 0 W.heap.size W (.slice a len cap) zs ∧ zs.length ≤ Rows.uptoBulk d := by
  obtain ⟨fuel, hf⟩ := h
  have hf' : DataW.trod enc Try.prog W base spare held fuel 22 [.slice a len cap] = some (d, p) := hf
  exact open_bytes1 hf'
end Go.Proofs.Ytcjodiemgnihoaa
namespace Go.Proofs.Ytcjodiemgnihoaa
open Go.RowKit Go.Shelf
theorem app_facts {D D1 : Dk} {e : Int} {ls : List (List UInt8)} (h : OkD D) (h1 : (appJ D ls).1 = D1) (h2 : (appJ D ls).2 = e) :
    OkD D1 ∧ ((Fits ls ∧ D.o.length + (framesL ls).length ≤ D.rm ∧ e = 0 ∧ D1.o = D.o ++ framesL ls ∧ D1.su = D.su ∧ D1.rm = D.rm) ∨ (D1 = D ∧ (e = 5 ∨ e = 10))) := by
  subst h1 h2
  refine ⟨app_ok h ls, ?_⟩
  rcases app_cases h ls with ⟨a, b, c⟩ | ⟨a, b⟩
  · rw [c]
    exact .inl ⟨a, b, rfl, rfl, rfl, rfl⟩
  · exact .inr ⟨a, b⟩
theorem app_yes {D D1 : Dk} {e : Int} {ls : List (List UInt8)} (h : OkD D1 ∧ ((Fits ls ∧ D.o.length + (framesL ls).length ≤ D.rm ∧ e = 0 ∧ D1.o = D.o ++ framesL ls ∧ D1.su = D.su ∧ D1.rm = D.rm) ∨ (D1 = D ∧ (e = 5 ∨ e = 10)))) (he : (e != 0) = false) :
    Fits ls ∧ D.o.length + (framesL ls).length ≤ D.rm ∧ e = 0 ∧ D1.o = D.o ++ framesL ls ∧ D1.su = D.su ∧ D1.rm = D.rm := by
  rcases h.2 with h | ⟨_, rfl | rfl⟩
  · exact h
  · exact absurd he (by decide)
  · exact absurd he (by decide)
theorem app_no {D D1 : Dk} {e : Int} {ls : List (List UInt8)} (h : OkD D1 ∧ ((Fits ls ∧ D.o.length + (framesL ls).length ≤ D.rm ∧ e = 0 ∧ D1.o = D.o ++ framesL ls ∧ D1.su = D.su ∧ D1.rm = D.rm) ∨ (D1 = D ∧ (e = 5 ∨ e = 10)))) (he : (e != 0) = true) : D1 = D := by
  rcases h.2 with ⟨_, _, rfl, _⟩ | ⟨h, _⟩
  · exact absurd he (by decide)
  · exact h
theorem fresh_z {D : Dk} (h1 : D.o = []) (h2 : D.su = 0) : (((D.o.length : Int) - (D.su : Int)) == 0) = true := by rw [h1, h2]; rfl
theorem load_facts {D D1 : Dk} {zs : List Zs} {n : Nat} (h : OkD D) (hs : Spl D.o (textsZ zs) n) (h1 : leaveD D n = D1) : OkD D1 ∧ D1.o = framesL (textsZ zs) ∧ D1.su = n ∧ D1.rm = D.rm := by
  subst h1
  exact ⟨leave_ok h hs.le, hs.is, rfl, rfl⟩
theorem lasts_load {A B rs : List (List UInt8)} {D : Dk} {k : Int} {n : Nat} (ha : Fits A) (hb : Fits B) (hc : D.o = framesL A ++ framesL B) (hs : D.su = (framesL A).length) (h : Spl (leaveD D (keepN D k)).o rs n) :
    A.length ≤ rs.length ∧ rs.length ≤ A.length + B.length ∧ rs = (A ++ B).take rs.length := by
  have hf : Fits (A ++ B) := fun r hr => (List.mem_append.1 hr).elim (ha r) (hb r)
  obtain ⟨j, hj, hsp, hq⟩ := spl_cut (A ++ B) (keepN D k) hf
  have e : (leaveD D (keepN D k)).o = (framesL (A ++ B)).take (keepN D k) := by
    show D.o.take _ = _
    rw [hc, frames_app]
  rw [e] at h
  have hone := (spl_one h hsp).1
  have hk := keep_ge D k
  have hA := hq A.length (by rw [List.length_append]; omega) (by rw [List.take_left' rfl]; omega)
  have hl : rs.length = j := by rw [hone, List.length_take, Nat.min_eq_left hj]
  rw [List.length_append] at hj
  refine ⟨by omega, by omega, ?_⟩
  rw [hl]
  exact hone
theorem lasts_more {zs zs2 : List Zs} {D : Dk} {c : List UInt8} {n : Nat} (h1 : Fits (textsZ zs)) (h2 : Fits [c]) (ho : D.o = framesL (textsZ zs) ++ framesL [c]) (h : Spl (sureD D).o (textsZ zs2) n) :
    textsZ zs2 = textsZ zs ++ [c] ∧ zs2.length = zs.length + 1 ∧ (∃ y, zs2[zs.length]? = some y ∧ y.l = c) ∧ textsZ (zs2.take zs.length) = textsZ zs := by
  have hf : Fits (textsZ zs ++ [c]) := fun r hr => (List.mem_append.1 hr).elim (h1 r) (h2 r)
  have e : (sureD D).o = framesL (textsZ zs ++ [c]) := by
    show D.o = _
    rw [ho, frames_app]
  rw [e] at h
  have hone := (spl_one h (spl_all hf)).1
  have hl : zs2.length = zs.length + 1 := by
    have := congrArg List.length hone
    rwa [textsZ_len, List.length_append, textsZ_len] at this
  refine ⟨hone, hl, ?_, ?_⟩
  · obtain ⟨y, hy⟩ : ∃ y, zs2[zs.length]? = some y := ⟨_, List.getElem?_eq_getElem (by omega)⟩
    refine ⟨y, hy, ?_⟩
    have h3 := textsZ_at hy
    rw [hone, List.getElem?_append_right (by rw [textsZ_len]; omega), textsZ_len, Nat.sub_self] at h3
    exact (Option.some.inj h3).symm
  · rw [textsZ_take, hone, List.take_left' (textsZ_len zs)]
theorem new_facts {n : Nat} (h : n ≤ 65536) : (newD (n : Int)).rm = n ∧ (newD (n : Int)).o = [] ∧ (newD (n : Int)).su = 0 := by
  refine ⟨?_, rfl, rfl⟩
  show roomN (n : Int) = n
  unfold roomN
  omega
theorem flat_small {zs : List Zs} (h1 : zs.length ≤ 1048576) (h2 : (textsZ zs).flatten.length ≤ 1048576) : (framesL (textsZ zs)).length ≤ 100000000 := by
  rw [frames_len, textsZ_len]
  omega
theorem one_small {c : List UInt8} {z : Zs} (hc : c.length ≤ 1048576) (hz : z.l = c := by rfl) : (framesL (textsZ [z])).length ≤ 100000000 := by
  subst hz
  show (framesL [z.l]).length ≤ _
  rw [frames_one, frame_len]
  omega
structure PartI (zs : List Zs) (k : Nat) (D : Dk) : Prop where
  ok : OkD D
  o : D.o = framesL (textsZ (zs.take k))
  rm : D.rm = 65536
theorem part_next {zs : List Zs} {k : Nat} {z : Zs} {D D1 : Dk} {e : Int} (hi : PartI zs k D) (hz : zs[k]? = some z) (hf : Fits (textsZ zs)) (hr : (framesL (textsZ zs)).length ≤ 65536)
    (h : OkD D1 ∧ ((Fits [z.l] ∧ D.o.length + (framesL [z.l]).length ≤ D.rm ∧ e = 0 ∧ D1.o = D.o ++ framesL [z.l] ∧ D1.su = D.su ∧ D1.rm = D.rm) ∨ (D1 = D ∧ (e = 5 ∨ e = 10)))) (h1 : (appJ D [z.l]).2 = e) : (e != 0) = false ∧ PartI zs (k + 1) D1 := by
  have hzl : z.l.length ≤ 1024 := hf _ (List.mem_of_getElem? (textsZ_at hz))
  have hn : textsZ (zs.take (k + 1)) = textsZ (zs.take k) ++ [z.l] := zs_next hz
  have hle := frames_take_le (textsZ zs) (k + 1)
  rw [← textsZ_take, hn, frames_snoc, List.length_append] at hle
  have he : e = 0 := by
    rw [← h1]
    unfold appJ
    rw [long_of (fun r hr => by rw [List.mem_singleton.1 hr]; exact hzl)]
    show (writeD D (framesL [z.l])).2 = 0
    unfold writeD
    rw [if_neg (by rw [hi.rm, hi.o, frames_one]; omega)]
  subst he
  refine ⟨rfl, h.1, ?_, ?_⟩
  · rcases h.2 with h | ⟨_, h | h⟩
    · rw [h.2.2.2.1, hi.o, hn, frames_app]
    · cases h
    · cases h
  · rcases h.2 with h | ⟨_, h | h⟩
    · rw [h.2.2.2.2.2, hi.rm]
    · cases h
    · cases h
theorem len_next {zs : List Zs} {k : Nat} {z : Zs} (hz : zs[k]? = some z) : (framesL (textsZ (zs.take (k + 1)))).length = (framesL (textsZ (zs.take k))).length + 6 + z.l.length := by
  rw [zs_next hz, frames_snoc, List.length_append, frame_len]
  omega
theorem long_next {zs : List Zs} {k : Nat} {z : Zs} (hz : zs[k]? = some z) : longB (textsZ (zs.take (k + 1))) = (longB (textsZ (zs.take k)) || decide ((1024 : Int) < (z.l.length : Int))) := by
  rw [zs_next hz]
  unfold longB
  rw [List.any_append]
  congr 1
  simp
  omega
-- HERE
end Go.Proofs.Ytcjodiemgnihoaa
