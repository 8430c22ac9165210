/-
  The laws' deals, release, alive; Rows of slices of octets: the slices as elements of one cell, what they hold as parts of memory; slices of octets cut anywhere; A relayer that nobody made looks at nothing; the laws' alive; Frames with many slots: what is forgotten at a cut or a loop is ONE function of the slot's number (not a variable a slot): the kernel's work is linear in the number of slots; Wh
-/
import Derived.Deep.Cut
import Derived.Deep.CutBlock
import Derived.LoopTactic
import Derived.Test.YtechcdkakgpnkaaGreatRows
import Derived.ProofKit
import Derived.OpenShut
import Derived.Laws.IdiomArrays
import Derived.Lib.SmallJoins
import Derived.Below
import Derived.Deep.Slices
import Derived.SizedLaws
import Derived.Carry
import Derived.ChangeMaps5
import Derived.JoinedCond
import Derived.Deep.Fields
import Derived.Test.YtechcdkakgpnkaaGreatK13
namespace Go.Proofs.YtechcdkakgpnkaaGreat
open Go.RowKit Go.Shelf
attribute [local irreducible] wpFrom wpAnyH StepH
theorem rlCountJ {B : Nat} {l : List Ms} {v : Value} {w : World} (h : ROk (.join (RLR B l v)) w) : Calls Tryz.prog 10 #[.pointer (some ⟨B, 0, none⟩)] w fun e W' => e = .returned (.int .i64 (l.length : Int)) ∧ Below w.heap.size w W' := by
  have hM := Sep.begin h
  obtain ⟨p, c, rfl⟩ := (hM.oka 1 rfl).slice msc_len
  exact rlCount_any w (hM.at 0 rfl)
theorem lv_iv {W : World} {B : Nat} {T : TypeId} {x : Trf} (h : Blk W B T (ivc x)) : (loadVar 30 ⟨B, 0, none⟩).run Tryz.prog W = .ok (ivv x) W := run_loadVar_row W B T _ (ivc x).toArray (0, 0) _ h Tryz.underlying30 rfl (by kernel_rfl)
theorem res_one {fn : Func} {p : Tmp} {ty : TypeId} (h : fn.results = #[.cell p ty]) (tmps : Array Value) {w : World} {g : Nat} {c : Value} (hp : tmps.getD p undef = .pointer (some ⟨g, 0, none⟩)) (hl : (loadVar ty ⟨g, 0, none⟩).run Tryz.prog w = .ok c w) :
    (results fn tmps).run Tryz.prog w = .ok c w := by
  have hp' : tmps[p]?.getD undef = .pointer (some ⟨g, 0, none⟩) := by simpa using hp
  simp [results, h, hp', asAddr, hl]
set_option maxRecDepth 100000 in
set_option maxHeartbeats 4000000 in
theorem deals22_any (w : World) : Calls Tryz.prog 14 #[] w fun e W' => e = .returned (ivv relI) ∧ Below w.heap.size w W' := by
  have hmx : Tryz.prog.follows .mixedOrders = true := by kernel_rfl
  have hM := Sep.start w
  go_enter Tryz.func14, Tryz.ntmps14
  go_upto_region 0 with fail
  refine wp_region_fromM (fun W => Sep w [] [] W) hM ?_
  clear hM
  rintro Y1 hM
  refine rF (some 0) (pt Y1.heap.size 0) (Y1.alloc (.cells (ivc noI).toArray 30)) ?_
  replace hM := hM.alloc 30 (ivc noI)
  generalize World.alloc _ _ = Y2 at *
  generalize hNe : Y1.heap.size = N2 at *
  clear hNe
  refine dF ?_
  try simp only [Act.put, List.setIfInBounds_toArray, List.set_cons_zero]
  go_upto_region 1 with fail
  refine wp_region_fromM (fun W => Sep w [] [.blk N2 30 (ivc noI)] W) hM ?_
  clear hM
  rintro Y3 hM
  refine cF (some 1) 45 #[.string ⟨#[117]⟩] ((root_any (⟨#[117]⟩) (by decide) _).mono ?_)
  rintro e Y4 ⟨rfl, hb⟩
  replace hM := hM.below hb
  clear hb
  refine tF 2 [.val 1 (some 2) (ivv relI)] trivial ?_
  have hst := sto_part (ivc relI) (hM.at 0 rfl) 0 30 (ivv relI) (ivc relI) rfl (by kernel_rfl) (Nat.le_of_ble_eq_true rfl) rfl rfl
  refine sF 30 (pt N2 0) (ivv relI) (hst) ?_
  clear hst
  replace hM := hM.set 0 (cs' := ivc relI) rfl rfl
  generalize World.setRow _ _ _ = Y5 at *
  refine dF ?_
  try simp only [puts, Tk.put, Act.put, List.setIfInBounds_toArray, List.set_cons_zero, List.set_cons_succ]
  go_wp2_with fail
  exact bodyPost_ret (v := ivv relI) (res_one rfl _ rfl (lv_iv (hM.at 0 rfl))) rfl ⟨rfl, hM.b⟩
theorem oct_own {w W : World} {L : List Res} (h : Sep w [] L W) (i : Nat) {v : Value} {l : List UInt8} (hi : L[i]? = some (.oct v l)) : BSl w.heap.size W.heap.size W v l := by
  have ho := h.oka i hi
  have hn := h.new _ (List.mem_of_getElem? hi)
  obtain ⟨hi', a, cap, e, hc, h0⟩ := ho.h
  subst e
  cases l with
  | nil => exact ⟨a, cap, rfl, hc, .inl rfl⟩
  | cons x l =>
    rcases h0 with h0 | ⟨b, off, ha, _, _, hx⟩
    · cases h0
    · subst ha
      have hb : b ∈ (Res.oct (.slice (some ⟨b, off, none⟩) (x :: l).length cap) (x :: l)).foot := by simp [Res.oct, Value.ownBlock]
      exact ⟨_, cap, rfl, hc, .inr ⟨b, off, rfl, (hn b hb).elim (fun e => (List.not_mem_nil e).elim) id, ho.lt b hb, hx⟩⟩
theorem pay_leR (act : Int) (key : ByteArray) (a0 a1 a2 a3 : Nat) : (payL act key a0 a1 a2 a3).length ≤ 8192 := by
  unfold payL
  split
  · exact (okS_pay act key a0 a1 a2 a3).2
  · exact Nat.zero_le _
set_option maxRecDepth 100000 in
set_option maxHeartbeats 4000000 in
theorem release22_any (fee leaf : Nat) (hf : fee < M) (hl : leaf < 8) (w : World) : Calls Tryz.prog 17 #[.int .u64 (fee : Nat), .int .i64 (leaf : Nat)] w (ByW (encG (relM fee leaf)) w) := by
  have hmx : Tryz.prog.follows .mixedOrders = true := by kernel_rfl
  have HF := Lib.hid hf
  have HLF := Lib.hid hl
  clear hf hl
  have hM := Sep.start w
  go_enter Tryz.func17, Tryz.ntmps17
  go_upto_region 0 with fail
  refine wp_region_fromM (fun W => Sep w [] [] W) hM ?_
  clear hM
  rintro Y1 hM
  refine tF 1 [.val 0 (some 4) (.slice none 0 0)] trivial ?_
  refine dF ?_
  try simp only [puts, Tk.put, Act.put, List.setIfInBounds_toArray, List.set_cons_zero, List.set_cons_succ]
  go_upto_region 1 with fail
  refine wp_region_fromM (fun W => Sep w [] [] W) hM ?_
  clear hM
  rintro Y2 hM
  refine cF (some 13) 14 #[] ((deals22_any _).mono ?_)
  rintro e Y3 ⟨rfl, hb⟩
  replace hM := hM.below hb
  clear hb
  refine rF (some 5) (pt Y3.heap.size 0) (Y3.alloc (.cells (ivc noI).toArray 30)) ?_
  replace hM := hM.alloc 30 (ivc noI)
  generalize World.alloc _ _ = Y4 at *
  generalize hNe : Y3.heap.size = N4 at *
  clear hNe
  have hst := sto_part (ivc relI) (hM.at 0 rfl) 0 30 (ivv relI) (ivc relI) rfl (by kernel_rfl) (Nat.le_of_ble_eq_true rfl) rfl rfl
  refine sF 30 (pt N4 0) (ivv relI) (hst) ?_
  clear hst
  replace hM := hM.set 0 (cs' := ivc relI) rfl rfl
  generalize World.setRow _ _ _ = Y5 at *
  refine dF ?_
  try simp only [Act.put, List.setIfInBounds_toArray, List.set_cons_zero, List.set_cons_succ]
  go_upto_region 2 with fail
  refine wp_region_fromM (fun W => Sep w [] [.blk N4 30 (ivc relI)] W) hM ?_
  clear hM
  rintro Y6 hM
  refine tF 2 [.val 0 (some 14) (wv 50 0 0 0), .val 1 (some 15) (svv (Sid.mk 50 0 0 0 150))] trivial ?_
  refine rF (some 6) (pt Y6.heap.size 0) (Y6.alloc (.cells (svc noV).toArray 32)) ?_
  replace hM := hM.alloc 32 (svc noV)
  generalize World.alloc _ _ = Y7 at *
  generalize hNe : Y6.heap.size = N7 at *
  clear hNe
  have hst := sto_part (svc (Sid.mk 50 0 0 0 150)) (hM.at 0 rfl) 0 32 (svv (Sid.mk 50 0 0 0 150)) (svc (Sid.mk 50 0 0 0 150)) rfl (by kernel_rfl) (Nat.le_of_ble_eq_true rfl) rfl rfl
  refine sF 32 (pt N7 0) (svv (Sid.mk 50 0 0 0 150)) (hst) ?_
  clear hst
  replace hM := hM.set 0 (cs' := svc (Sid.mk 50 0 0 0 150)) rfl rfl
  generalize World.setRow _ _ _ = Y8 at *
  refine dF ?_
  try simp only [puts, Tk.put, Act.put, List.setIfInBounds_toArray, List.set_cons_zero, List.set_cons_succ]
  go_upto_region 3 with fail
  refine wp_region_fromM (fun W => Sep w [] [.blk N7 32 (svc (Sid.mk 50 0 0 0 150)), .blk N4 30 (ivc relI)] W) hM ?_
  clear hM
  rintro Y9 hM
  refine tF 2 [.val 0 (some 16) (.int .u64 (fee : Nat)), .val 1 (some 17) (wv fee 0 0 0)] trivial ?_
  refine rF (some 7) (pt Y9.heap.size 0) (Y9.alloc (.cells ([.int .u64 ((0 : Nat) : Int), .int .u64 ((0 : Nat) : Int), .int .u64 ((0 : Nat) : Int), .int .u64 ((0 : Nat) : Int)]).toArray 24)) ?_
  replace hM := hM.alloc 24 ([.int .u64 ((0 : Nat) : Int), .int .u64 ((0 : Nat) : Int), .int .u64 ((0 : Nat) : Int), .int .u64 ((0 : Nat) : Int)])
  generalize World.alloc _ _ = Y10 at *
  generalize hNe : Y9.heap.size = N10 at *
  clear hNe
  have hst := sto_part ([.int .u64 (fee : Nat), .int .u64 ((0 : Nat) : Int), .int .u64 ((0 : Nat) : Int), .int .u64 ((0 : Nat) : Int)]) (hM.at 0 rfl) 0 24 (wv fee 0 0 0) ([.int .u64 (fee : Nat), .int .u64 ((0 : Nat) : Int), .int .u64 ((0 : Nat) : Int), .int .u64 ((0 : Nat) : Int)]) rfl (by kernel_rfl) (Nat.le_of_ble_eq_true rfl) rfl rfl
  refine sF 24 (pt N10 0) (wv fee 0 0 0) (hst) ?_
  clear hst
  replace hM := hM.set 0 (cs' := [.int .u64 (fee : Nat), .int .u64 ((0 : Nat) : Int), .int .u64 ((0 : Nat) : Int), .int .u64 ((0 : Nat) : Int)]) rfl rfl
  generalize World.setRow _ _ _ = Y11 at *
  refine dF ?_
  try simp only [puts, Tk.put, Act.put, List.setIfInBounds_toArray, List.set_cons_zero, List.set_cons_succ]
  go_upto_region 4 with fail
  refine wp_region_M (fun W => Sep w [] [.blk N10 24 ([.int .u64 (fee : Nat), .int .u64 ((0 : Nat) : Int), .int .u64 ((0 : Nat) : Int), .int .u64 ((0 : Nat) : Int)]), .blk N7 32 (svc (Sid.mk 50 0 0 0 150)), .blk N4 30 (ivc relI)] W) (fun W => Sep w [] [.blk N10 24 ([.int .u64 (fee : Nat), .int .u64 ((0 : Nat) : Int), .int .u64 ((0 : Nat) : Int), .int .u64 ((0 : Nat) : Int)]), .blk N7 32 (svc (Sid.mk 50 0 0 0 150)), .blk N4 30 (ivc relI)] W) hmx hM.drew ?_
  clear hM
  rintro Y12 hM
  have hS := hM.sub (.cons_cons _ (.cons_cons _ (.cons_cons _ .slnil)))
  refine tD 11 [.val 0 (some 19) (.int .i64 (leaf : Nat)), .val 1 (some 20) (.agg #[.string ⟨#[117]⟩, .int .i64 (leaf : Nat)]), .load 2 (some 21) 30 (pt N4 0) (ivv relI), .load 4 (some 23) 24 (pt N10 0) (wv fee 0 0 0)] ⟨fun W h => load_part (h.at 2 rfl) 0 (ivc relI) rfl _ _ Tryz.underlying30 rfl (by kernel_rfl), fun W h => load_part (h.at 0 rfl) 0 ([.int .u64 (fee : Nat), .int .u64 ((0 : Nat) : Int), .int .u64 ((0 : Nat) : Int), .int .u64 ((0 : Nat) : Int)]) rfl _ _ Tryz.underlying24 rfl (by kernel_rfl), trivial⟩ hS ?_
  refine oT 3 11 10 ?_ ?_
  · refine cD (some 22) 20 #[ivv relI] ((key_any relI _).mono ?_)
    rintro e Y13 ⟨rfl, hb⟩
    refine And.intro (hS.below hb) ?_
    replace hS := hS.below hb
    replace hM := hM.below hb
    clear hb
    refine oT 5 11 9 ?_ ?_
    · refine cD (some 24) 56 #[.int .i64 1, .string (keyB relI), wv fee 0 0 0] ((payload_own 1 (keyB relI) ⟨HF.out, M_pos, M_pos, M_pos⟩ _).mono ?_)
      rintro e Y14 ⟨v14o, rfl, hO, hb⟩
      refine And.intro (hS.below hb) ?_
      replace hS := hS.below hb
      replace hM := hM.octN hO hb
      clear hO hb
      obtain ⟨a14o, c14o, rfl, _⟩ := (hM.oka 0 rfl).octs.slice
      refine oT 6 11 8 ?_ ?_
      · refine cD (some 25) 55 #[.agg #[.string ⟨#[117]⟩, .int .i64 (leaf : Nat)], .slice a14o (payL 1 (keyB relI) fee 0 0 0).length c14o] ((mssSign_any ⟨#[117]⟩ (by decide) leaf HLF.out (payL 1 (keyB relI) fee 0 0 0) _ _ (Nat.le_trans (pay_leR _ _ _ _ _ _) (by decide)) (hM.oka 0 rfl).octs).mono ?_)
        rintro e Y16 ⟨rfl, hb⟩
        refine And.intro (hS.below hb) ?_
        replace hS := hS.below hb
        replace hM := hM.below hb
        clear hb
        refine tD 4 [.val 7 (some 18) (.tuple #[.string (sigB ⟨#[117]⟩ leaf (payL 1 (keyB relI) fee 0 0 0)), .agg #[.string ⟨#[117]⟩, .int .i64 ((leaf : Int) + 1)], .int .i64 0]), .val 8 (some 26) (.string (sigB ⟨#[117]⟩ leaf (payL 1 (keyB relI) fee 0 0 0))), .val 9 (some 27) (.agg #[.string ⟨#[117]⟩, .int .i64 ((leaf : Int) + 1)]), .val 10 (some 28) (.int .i64 0)] trivial hS ?_
        refine oD 11 3 (rD (some 9) (pt Y16.heap.size 0) (Y16.alloc (.cells ([.string ⟨#[]⟩, .int .i64 0]).toArray 119)) (hS.other _) ?_)
        replace hS := hS.other (.cells ([.string ⟨#[]⟩, .int .i64 0]).toArray 119)
        replace hM := hM.alloc 119 ([.string ⟨#[]⟩, .int .i64 0])
        generalize World.alloc _ _ = Y17 at *
        generalize hNe : Y16.heap.size = N17 at *
        clear hNe
        refine tD 2 [.val 12 (some 8) (.string (sigB ⟨#[117]⟩ leaf (payL 1 (keyB relI) fee 0 0 0)))] trivial hS ?_
        have hst := sto_part ([.string ⟨#[117]⟩, .int .i64 ((leaf : Int) + 1)]) (hM.at 0 rfl) 0 119 (.agg ([.string ⟨#[117]⟩, .int .i64 ((leaf : Int) + 1)]).toArray) ([.string ⟨#[117]⟩, .int .i64 ((leaf : Int) + 1)]) rfl (by kernel_rfl) (Nat.le_of_ble_eq_true rfl) rfl rfl
        have hM1 := hM.set 0 (cs' := [.string ⟨#[117]⟩, .int .i64 ((leaf : Int) + 1)]) rfl rfl
        refine oD 13 1 (sD 119 (pt N17 0) (.agg #[.string ⟨#[117]⟩, .int .i64 ((leaf : Int) + 1)]) (hst) (hM1.sub (.cons _ (.cons _ (.cons_cons _ (.cons_cons _ (.cons_cons _ .slnil)))))) ?_)
        clear hst
        replace hS := hM1.sub (.cons _ (.cons _ (.cons_cons _ (.cons_cons _ (.cons_cons _ .slnil)))))
        replace hM := hM1
        clear hM1
        generalize World.setRow _ _ _ = Y18 at *
        refine tD 0 [.val 14 (some 10) (.int .i64 0)] trivial hS ?_
        refine dD ?_
        try simp only [puts, Tk.put, Act.put, List.setIfInBounds_toArray, List.set_cons_zero, List.set_cons_succ]
        clear hS
        go_upto_region 5 with fail
        refine wp_region_fromM (fun W => Sep w [] [.blk N17 119 ([.string ⟨#[117]⟩, .int .i64 ((leaf : Int) + 1)]), .oct (.slice a14o (payL 1 (keyB relI) fee 0 0 0).length c14o) (payL 1 (keyB relI) fee 0 0 0), .blk N10 24 ([.int .u64 (fee : Nat), .int .u64 ((0 : Nat) : Int), .int .u64 ((0 : Nat) : Int), .int .u64 ((0 : Nat) : Int)]), .blk N7 32 (svc (Sid.mk 50 0 0 0 150)), .blk N4 30 (ivc relI)] W) hM ?_
        clear hM
        rintro Y19 hM
        refine tF 5 [.load 0 (some 30) 30 (pt N4 0) (ivv relI), .load 1 (some 31) 32 (pt N7 0) (svv (Sid.mk 50 0 0 0 150)), .load 2 (some 32) 24 (pt N10 0) (wv fee 0 0 0), .val 3 (some 33) (.string (sigB ⟨#[117]⟩ leaf (payL 1 (keyB relI) fee 0 0 0))), .val 4 (some 34) (msv (relM fee leaf))] ⟨load_part (hM.at 4 rfl) 0 (ivc relI) rfl _ _ Tryz.underlying30 rfl (by kernel_rfl), load_part (hM.at 3 rfl) 0 (svc (Sid.mk 50 0 0 0 150)) rfl _ _ Tryz.underlying32 rfl (by kernel_rfl), load_part (hM.at 2 rfl) 0 ([.int .u64 (fee : Nat), .int .u64 ((0 : Nat) : Int), .int .u64 ((0 : Nat) : Int), .int .u64 ((0 : Nat) : Int)]) rfl _ _ Tryz.underlying24 rfl (by kernel_rfl), trivial⟩ ?_
        have hq := mailPut_own (relM fee leaf) (relM_ok HF.out) Y19
        rw [(msg_back (relM_err HLF.out) (relM_ok HF.out)).1] at hq
        refine cF (some 35) 8 #[msv (relM fee leaf)] ((hq).mono ?_)
        rintro e Y20 ⟨v20o, rfl, hO, hb⟩
        clear hq
        replace hM := hM.octN hO hb
        clear hO hb
        obtain ⟨a20o, c20o, rfl, _⟩ := (hM.oka 0 rfl).octs.slice
        refine tF 11 [.val 6 (some 29) (.tuple #[.slice a20o (encG (relM fee leaf)).length c20o, .int .i64 0]), .val 7 (some 36) (.slice a20o (encG (relM fee leaf)).length c20o), .val 8 (some 37) (.int .i64 0), .val 9 (some 11) (.slice a20o (encG (relM fee leaf)).length c20o), .val 10 (some 12) (.int .i64 0)] trivial ?_
        refine dF ?_
        try simp only [puts, Tk.put, Act.put, List.setIfInBounds_toArray, List.set_cons_zero, List.set_cons_succ]
        go_upto_region 6 with fail
        refine wp_region_fromM (fun W => Sep w [] [.oct (.slice a20o (encG (relM fee leaf)).length c20o) (encG (relM fee leaf)), .blk N17 119 ([.string ⟨#[117]⟩, .int .i64 ((leaf : Int) + 1)]), .oct (.slice a14o (payL 1 (keyB relI) fee 0 0 0).length c14o) (payL 1 (keyB relI) fee 0 0 0), .blk N10 24 ([.int .u64 (fee : Nat), .int .u64 ((0 : Nat) : Int), .int .u64 ((0 : Nat) : Int), .int .u64 ((0 : Nat) : Int)]), .blk N7 32 (svc (Sid.mk 50 0 0 0 150)), .blk N4 30 (ivc relI)] W) hM ?_
        clear hM
        rintro Y22 hM
        refine tF 2 [.val 0 (some 38) (.slice a20o (encG (relM fee leaf)).length c20o), .val 1 (some 4) (.slice a20o (encG (relM fee leaf)).length c20o)] trivial ?_
        refine dF ?_
        try simp only [puts, Tk.put, Act.put, List.setIfInBounds_toArray, List.set_cons_zero, List.set_cons_succ]
        have hb := oct_own hM 0 rfl
        go_wp2_with fail
        go_ret
        exact ⟨_, rfl, hb, hM.b⟩
      · refine rD (some 9) (pt Y14.heap.size 0) (Y14.alloc (.cells ([.string ⟨#[]⟩, .int .i64 0]).toArray 119)) (hS.other _) ?_
        replace hS := hS.other (.cells ([.string ⟨#[]⟩, .int .i64 0]).toArray 119)
        replace hM := hM.alloc 119 ([.string ⟨#[]⟩, .int .i64 0])
        generalize World.alloc _ _ = Y23 at *
        generalize hNe : Y14.heap.size = N23 at *
        clear hNe
        refine oD 6 7 (cD (some 25) 55 #[.agg #[.string ⟨#[117]⟩, .int .i64 (leaf : Nat)], .slice a14o (payL 1 (keyB relI) fee 0 0 0).length c14o] ((mssSign_any ⟨#[117]⟩ (by decide) leaf HLF.out (payL 1 (keyB relI) fee 0 0 0) _ _ (Nat.le_trans (pay_leR _ _ _ _ _ _) (by decide)) (hM.oka 1 rfl).octs).mono ?_))
        rintro e Y24 ⟨rfl, hb⟩
        refine And.intro (hS.below hb) ?_
        replace hS := hS.below hb
        replace hM := hM.below hb
        clear hb
        refine tD 2 [.val 7 (some 18) (.tuple #[.string (sigB ⟨#[117]⟩ leaf (payL 1 (keyB relI) fee 0 0 0)), .agg #[.string ⟨#[117]⟩, .int .i64 ((leaf : Int) + 1)], .int .i64 0]), .val 8 (some 26) (.string (sigB ⟨#[117]⟩ leaf (payL 1 (keyB relI) fee 0 0 0))), .val 9 (some 27) (.agg #[.string ⟨#[117]⟩, .int .i64 ((leaf : Int) + 1)]), .val 10 (some 28) (.int .i64 0), .val 12 (some 8) (.string (sigB ⟨#[117]⟩ leaf (payL 1 (keyB relI) fee 0 0 0)))] trivial hS ?_
        have hst := sto_part ([.string ⟨#[117]⟩, .int .i64 ((leaf : Int) + 1)]) (hM.at 0 rfl) 0 119 (.agg ([.string ⟨#[117]⟩, .int .i64 ((leaf : Int) + 1)]).toArray) ([.string ⟨#[117]⟩, .int .i64 ((leaf : Int) + 1)]) rfl (by kernel_rfl) (Nat.le_of_ble_eq_true rfl) rfl rfl
        have hM1 := hM.set 0 (cs' := [.string ⟨#[117]⟩, .int .i64 ((leaf : Int) + 1)]) rfl rfl
        refine oD 13 1 (sD 119 (pt N23 0) (.agg #[.string ⟨#[117]⟩, .int .i64 ((leaf : Int) + 1)]) (hst) (hM1.sub (.cons _ (.cons _ (.cons_cons _ (.cons_cons _ (.cons_cons _ .slnil)))))) ?_)
        clear hst
        replace hS := hM1.sub (.cons _ (.cons _ (.cons_cons _ (.cons_cons _ (.cons_cons _ .slnil)))))
        replace hM := hM1
        clear hM1
        generalize World.setRow _ _ _ = Y25 at *
        refine tD 0 [.val 14 (some 10) (.int .i64 0)] trivial hS ?_
        refine dD ?_
        try simp only [puts, Tk.put, Act.put, List.setIfInBounds_toArray, List.set_cons_zero, List.set_cons_succ]
        clear hS
        go_upto_region 5 with fail
        refine wp_region_fromM (fun W => Sep w [] [.blk N23 119 ([.string ⟨#[117]⟩, .int .i64 ((leaf : Int) + 1)]), .oct (.slice a14o (payL 1 (keyB relI) fee 0 0 0).length c14o) (payL 1 (keyB relI) fee 0 0 0), .blk N10 24 ([.int .u64 (fee : Nat), .int .u64 ((0 : Nat) : Int), .int .u64 ((0 : Nat) : Int), .int .u64 ((0 : Nat) : Int)]), .blk N7 32 (svc (Sid.mk 50 0 0 0 150)), .blk N4 30 (ivc relI)] W) hM ?_
        clear hM
        rintro Y26 hM
        refine tF 5 [.load 0 (some 30) 30 (pt N4 0) (ivv relI), .load 1 (some 31) 32 (pt N7 0) (svv (Sid.mk 50 0 0 0 150)), .load 2 (some 32) 24 (pt N10 0) (wv fee 0 0 0), .val 3 (some 33) (.string (sigB ⟨#[117]⟩ leaf (payL 1 (keyB relI) fee 0 0 0))), .val 4 (some 34) (msv (relM fee leaf))] ⟨load_part (hM.at 4 rfl) 0 (ivc relI) rfl _ _ Tryz.underlying30 rfl (by kernel_rfl), load_part (hM.at 3 rfl) 0 (svc (Sid.mk 50 0 0 0 150)) rfl _ _ Tryz.underlying32 rfl (by kernel_rfl), load_part (hM.at 2 rfl) 0 ([.int .u64 (fee : Nat), .int .u64 ((0 : Nat) : Int), .int .u64 ((0 : Nat) : Int), .int .u64 ((0 : Nat) : Int)]) rfl _ _ Tryz.underlying24 rfl (by kernel_rfl), trivial⟩ ?_
        have hq := mailPut_own (relM fee leaf) (relM_ok HF.out) Y26
        rw [(msg_back (relM_err HLF.out) (relM_ok HF.out)).1] at hq
        refine cF (some 35) 8 #[msv (relM fee leaf)] ((hq).mono ?_)
        rintro e Y27 ⟨v27o, rfl, hO, hb⟩
        clear hq
        replace hM := hM.octN hO hb
        clear hO hb
        obtain ⟨a27o, c27o, rfl, _⟩ := (hM.oka 0 rfl).octs.slice
        refine tF 11 [.val 6 (some 29) (.tuple #[.slice a27o (encG (relM fee leaf)).length c27o, .int .i64 0]), .val 7 (some 36) (.slice a27o (encG (relM fee leaf)).length c27o), .val 8 (some 37) (.int .i64 0), .val 9 (some 11) (.slice a27o (encG (relM fee leaf)).length c27o), .val 10 (some 12) (.int .i64 0)] trivial ?_
        refine dF ?_
        try simp only [puts, Tk.put, Act.put, List.setIfInBounds_toArray, List.set_cons_zero, List.set_cons_succ]
        go_upto_region 6 with fail
        refine wp_region_fromM (fun W => Sep w [] [.oct (.slice a27o (encG (relM fee leaf)).length c27o) (encG (relM fee leaf)), .blk N23 119 ([.string ⟨#[117]⟩, .int .i64 ((leaf : Int) + 1)]), .oct (.slice a14o (payL 1 (keyB relI) fee 0 0 0).length c14o) (payL 1 (keyB relI) fee 0 0 0), .blk N10 24 ([.int .u64 (fee : Nat), .int .u64 ((0 : Nat) : Int), .int .u64 ((0 : Nat) : Int), .int .u64 ((0 : Nat) : Int)]), .blk N7 32 (svc (Sid.mk 50 0 0 0 150)), .blk N4 30 (ivc relI)] W) hM ?_
        clear hM
        rintro Y29 hM
        refine tF 2 [.val 0 (some 38) (.slice a27o (encG (relM fee leaf)).length c27o), .val 1 (some 4) (.slice a27o (encG (relM fee leaf)).length c27o)] trivial ?_
        refine dF ?_
        try simp only [puts, Tk.put, Act.put, List.setIfInBounds_toArray, List.set_cons_zero, List.set_cons_succ]
        have hb := oct_own hM 0 rfl
        go_wp2_with fail
        go_ret
        exact ⟨_, rfl, hb, hM.b⟩
    · refine rD (some 9) (pt Y13.heap.size 0) (Y13.alloc (.cells ([.string ⟨#[]⟩, .int .i64 0]).toArray 119)) (hS.other _) ?_
      replace hS := hS.other (.cells ([.string ⟨#[]⟩, .int .i64 0]).toArray 119)
      replace hM := hM.alloc 119 ([.string ⟨#[]⟩, .int .i64 0])
      generalize World.alloc _ _ = Y30 at *
      generalize hNe : Y13.heap.size = N30 at *
      clear hNe
      refine oD 5 8 (cD (some 24) 56 #[.int .i64 1, .string (keyB relI), wv fee 0 0 0] ((payload_own 1 (keyB relI) ⟨HF.out, M_pos, M_pos, M_pos⟩ _).mono ?_))
      rintro e Y31 ⟨v31o, rfl, hO, hb⟩
      refine And.intro (hS.below hb) ?_
      replace hS := hS.below hb
      replace hM := hM.octN hO hb
      clear hO hb
      obtain ⟨a31o, c31o, rfl, _⟩ := (hM.oka 0 rfl).octs.slice
      refine oD 6 7 (cD (some 25) 55 #[.agg #[.string ⟨#[117]⟩, .int .i64 (leaf : Nat)], .slice a31o (payL 1 (keyB relI) fee 0 0 0).length c31o] ((mssSign_any ⟨#[117]⟩ (by decide) leaf HLF.out (payL 1 (keyB relI) fee 0 0 0) _ _ (Nat.le_trans (pay_leR _ _ _ _ _ _) (by decide)) (hM.oka 0 rfl).octs).mono ?_))
      rintro e Y33 ⟨rfl, hb⟩
      refine And.intro (hS.below hb) ?_
      replace hS := hS.below hb
      replace hM := hM.below hb
      clear hb
      refine tD 2 [.val 7 (some 18) (.tuple #[.string (sigB ⟨#[117]⟩ leaf (payL 1 (keyB relI) fee 0 0 0)), .agg #[.string ⟨#[117]⟩, .int .i64 ((leaf : Int) + 1)], .int .i64 0]), .val 8 (some 26) (.string (sigB ⟨#[117]⟩ leaf (payL 1 (keyB relI) fee 0 0 0))), .val 9 (some 27) (.agg #[.string ⟨#[117]⟩, .int .i64 ((leaf : Int) + 1)]), .val 10 (some 28) (.int .i64 0), .val 12 (some 8) (.string (sigB ⟨#[117]⟩ leaf (payL 1 (keyB relI) fee 0 0 0)))] trivial hS ?_
      have hst := sto_part ([.string ⟨#[117]⟩, .int .i64 ((leaf : Int) + 1)]) (hM.at 1 rfl) 0 119 (.agg ([.string ⟨#[117]⟩, .int .i64 ((leaf : Int) + 1)]).toArray) ([.string ⟨#[117]⟩, .int .i64 ((leaf : Int) + 1)]) rfl (by kernel_rfl) (Nat.le_of_ble_eq_true rfl) rfl rfl
      have hM1 := hM.set 1 (cs' := [.string ⟨#[117]⟩, .int .i64 ((leaf : Int) + 1)]) rfl rfl
      refine oD 13 1 (sD 119 (pt N30 0) (.agg #[.string ⟨#[117]⟩, .int .i64 ((leaf : Int) + 1)]) (hst) (hM1.sub (.cons _ (.cons _ (.cons_cons _ (.cons_cons _ (.cons_cons _ .slnil)))))) ?_)
      clear hst
      replace hS := hM1.sub (.cons _ (.cons _ (.cons_cons _ (.cons_cons _ (.cons_cons _ .slnil)))))
      replace hM := hM1
      clear hM1
      generalize World.setRow _ _ _ = Y34 at *
      refine tD 0 [.val 14 (some 10) (.int .i64 0)] trivial hS ?_
      refine dD ?_
      try simp only [puts, Tk.put, Act.put, List.setIfInBounds_toArray, List.set_cons_zero, List.set_cons_succ]
      clear hS
      go_upto_region 5 with fail
      refine wp_region_fromM (fun W => Sep w [] [.oct (.slice a31o (payL 1 (keyB relI) fee 0 0 0).length c31o) (payL 1 (keyB relI) fee 0 0 0), .blk N30 119 ([.string ⟨#[117]⟩, .int .i64 ((leaf : Int) + 1)]), .blk N10 24 ([.int .u64 (fee : Nat), .int .u64 ((0 : Nat) : Int), .int .u64 ((0 : Nat) : Int), .int .u64 ((0 : Nat) : Int)]), .blk N7 32 (svc (Sid.mk 50 0 0 0 150)), .blk N4 30 (ivc relI)] W) hM ?_
      clear hM
      rintro Y35 hM
      refine tF 5 [.load 0 (some 30) 30 (pt N4 0) (ivv relI), .load 1 (some 31) 32 (pt N7 0) (svv (Sid.mk 50 0 0 0 150)), .load 2 (some 32) 24 (pt N10 0) (wv fee 0 0 0), .val 3 (some 33) (.string (sigB ⟨#[117]⟩ leaf (payL 1 (keyB relI) fee 0 0 0))), .val 4 (some 34) (msv (relM fee leaf))] ⟨load_part (hM.at 4 rfl) 0 (ivc relI) rfl _ _ Tryz.underlying30 rfl (by kernel_rfl), load_part (hM.at 3 rfl) 0 (svc (Sid.mk 50 0 0 0 150)) rfl _ _ Tryz.underlying32 rfl (by kernel_rfl), load_part (hM.at 2 rfl) 0 ([.int .u64 (fee : Nat), .int .u64 ((0 : Nat) : Int), .int .u64 ((0 : Nat) : Int), .int .u64 ((0 : Nat) : Int)]) rfl _ _ Tryz.underlying24 rfl (by kernel_rfl), trivial⟩ ?_
      have hq := mailPut_own (relM fee leaf) (relM_ok HF.out) Y35
      rw [(msg_back (relM_err HLF.out) (relM_ok HF.out)).1] at hq
      refine cF (some 35) 8 #[msv (relM fee leaf)] ((hq).mono ?_)
      rintro e Y36 ⟨v36o, rfl, hO, hb⟩
      clear hq
      replace hM := hM.octN hO hb
      clear hO hb
      obtain ⟨a36o, c36o, rfl, _⟩ := (hM.oka 0 rfl).octs.slice
      refine tF 11 [.val 6 (some 29) (.tuple #[.slice a36o (encG (relM fee leaf)).length c36o, .int .i64 0]), .val 7 (some 36) (.slice a36o (encG (relM fee leaf)).length c36o), .val 8 (some 37) (.int .i64 0), .val 9 (some 11) (.slice a36o (encG (relM fee leaf)).length c36o), .val 10 (some 12) (.int .i64 0)] trivial ?_
      refine dF ?_
      try simp only [puts, Tk.put, Act.put, List.setIfInBounds_toArray, List.set_cons_zero, List.set_cons_succ]
      go_upto_region 6 with fail
      refine wp_region_fromM (fun W => Sep w [] [.oct (.slice a36o (encG (relM fee leaf)).length c36o) (encG (relM fee leaf)), .oct (.slice a31o (payL 1 (keyB relI) fee 0 0 0).length c31o) (payL 1 (keyB relI) fee 0 0 0), .blk N30 119 ([.string ⟨#[117]⟩, .int .i64 ((leaf : Int) + 1)]), .blk N10 24 ([.int .u64 (fee : Nat), .int .u64 ((0 : Nat) : Int), .int .u64 ((0 : Nat) : Int), .int .u64 ((0 : Nat) : Int)]), .blk N7 32 (svc (Sid.mk 50 0 0 0 150)), .blk N4 30 (ivc relI)] W) hM ?_
      clear hM
      rintro Y38 hM
      refine tF 2 [.val 0 (some 38) (.slice a36o (encG (relM fee leaf)).length c36o), .val 1 (some 4) (.slice a36o (encG (relM fee leaf)).length c36o)] trivial ?_
      refine dF ?_
      try simp only [puts, Tk.put, Act.put, List.setIfInBounds_toArray, List.set_cons_zero, List.set_cons_succ]
      have hb := oct_own hM 0 rfl
      go_wp2_with fail
      go_ret
      exact ⟨_, rfl, hb, hM.b⟩
  · refine rD (some 9) (pt Y12.heap.size 0) (Y12.alloc (.cells ([.string ⟨#[]⟩, .int .i64 0]).toArray 119)) (hS.other _) ?_
    replace hS := hS.other (.cells ([.string ⟨#[]⟩, .int .i64 0]).toArray 119)
    replace hM := hM.alloc 119 ([.string ⟨#[]⟩, .int .i64 0])
    generalize World.alloc _ _ = Y39 at *
    generalize hNe : Y12.heap.size = N39 at *
    clear hNe
    refine oD 3 9 (cD (some 22) 20 #[ivv relI] ((key_any relI _).mono ?_))
    rintro e Y40 ⟨rfl, hb⟩
    refine And.intro (hS.below hb) ?_
    replace hS := hS.below hb
    replace hM := hM.below hb
    clear hb
    refine oD 5 8 (cD (some 24) 56 #[.int .i64 1, .string (keyB relI), wv fee 0 0 0] ((payload_own 1 (keyB relI) ⟨HF.out, M_pos, M_pos, M_pos⟩ _).mono ?_))
    rintro e Y41 ⟨v41o, rfl, hO, hb⟩
    refine And.intro (hS.below hb) ?_
    replace hS := hS.below hb
    replace hM := hM.octN hO hb
    clear hO hb
    obtain ⟨a41o, c41o, rfl, _⟩ := (hM.oka 0 rfl).octs.slice
    refine oD 6 7 (cD (some 25) 55 #[.agg #[.string ⟨#[117]⟩, .int .i64 (leaf : Nat)], .slice a41o (payL 1 (keyB relI) fee 0 0 0).length c41o] ((mssSign_any ⟨#[117]⟩ (by decide) leaf HLF.out (payL 1 (keyB relI) fee 0 0 0) _ _ (Nat.le_trans (pay_leR _ _ _ _ _ _) (by decide)) (hM.oka 0 rfl).octs).mono ?_))
    rintro e Y43 ⟨rfl, hb⟩
    refine And.intro (hS.below hb) ?_
    replace hS := hS.below hb
    replace hM := hM.below hb
    clear hb
    refine tD 2 [.val 7 (some 18) (.tuple #[.string (sigB ⟨#[117]⟩ leaf (payL 1 (keyB relI) fee 0 0 0)), .agg #[.string ⟨#[117]⟩, .int .i64 ((leaf : Int) + 1)], .int .i64 0]), .val 8 (some 26) (.string (sigB ⟨#[117]⟩ leaf (payL 1 (keyB relI) fee 0 0 0))), .val 9 (some 27) (.agg #[.string ⟨#[117]⟩, .int .i64 ((leaf : Int) + 1)]), .val 10 (some 28) (.int .i64 0), .val 12 (some 8) (.string (sigB ⟨#[117]⟩ leaf (payL 1 (keyB relI) fee 0 0 0)))] trivial hS ?_
    have hst := sto_part ([.string ⟨#[117]⟩, .int .i64 ((leaf : Int) + 1)]) (hM.at 1 rfl) 0 119 (.agg ([.string ⟨#[117]⟩, .int .i64 ((leaf : Int) + 1)]).toArray) ([.string ⟨#[117]⟩, .int .i64 ((leaf : Int) + 1)]) rfl (by kernel_rfl) (Nat.le_of_ble_eq_true rfl) rfl rfl
    have hM1 := hM.set 1 (cs' := [.string ⟨#[117]⟩, .int .i64 ((leaf : Int) + 1)]) rfl rfl
    refine oD 13 1 (sD 119 (pt N39 0) (.agg #[.string ⟨#[117]⟩, .int .i64 ((leaf : Int) + 1)]) (hst) (hM1.sub (.cons _ (.cons _ (.cons_cons _ (.cons_cons _ (.cons_cons _ .slnil)))))) ?_)
    clear hst
    replace hS := hM1.sub (.cons _ (.cons _ (.cons_cons _ (.cons_cons _ (.cons_cons _ .slnil)))))
    replace hM := hM1
    clear hM1
    generalize World.setRow _ _ _ = Y44 at *
    refine tD 0 [.val 14 (some 10) (.int .i64 0)] trivial hS ?_
    refine dD ?_
    try simp only [puts, Tk.put, Act.put, List.setIfInBounds_toArray, List.set_cons_zero, List.set_cons_succ]
    clear hS
    go_upto_region 5 with fail
    refine wp_region_fromM (fun W => Sep w [] [.oct (.slice a41o (payL 1 (keyB relI) fee 0 0 0).length c41o) (payL 1 (keyB relI) fee 0 0 0), .blk N39 119 ([.string ⟨#[117]⟩, .int .i64 ((leaf : Int) + 1)]), .blk N10 24 ([.int .u64 (fee : Nat), .int .u64 ((0 : Nat) : Int), .int .u64 ((0 : Nat) : Int), .int .u64 ((0 : Nat) : Int)]), .blk N7 32 (svc (Sid.mk 50 0 0 0 150)), .blk N4 30 (ivc relI)] W) hM ?_
    clear hM
    rintro Y45 hM
    refine tF 5 [.load 0 (some 30) 30 (pt N4 0) (ivv relI), .load 1 (some 31) 32 (pt N7 0) (svv (Sid.mk 50 0 0 0 150)), .load 2 (some 32) 24 (pt N10 0) (wv fee 0 0 0), .val 3 (some 33) (.string (sigB ⟨#[117]⟩ leaf (payL 1 (keyB relI) fee 0 0 0))), .val 4 (some 34) (msv (relM fee leaf))] ⟨load_part (hM.at 4 rfl) 0 (ivc relI) rfl _ _ Tryz.underlying30 rfl (by kernel_rfl), load_part (hM.at 3 rfl) 0 (svc (Sid.mk 50 0 0 0 150)) rfl _ _ Tryz.underlying32 rfl (by kernel_rfl), load_part (hM.at 2 rfl) 0 ([.int .u64 (fee : Nat), .int .u64 ((0 : Nat) : Int), .int .u64 ((0 : Nat) : Int), .int .u64 ((0 : Nat) : Int)]) rfl _ _ Tryz.underlying24 rfl (by kernel_rfl), trivial⟩ ?_
    have hq := mailPut_own (relM fee leaf) (relM_ok HF.out) Y45
    rw [(msg_back (relM_err HLF.out) (relM_ok HF.out)).1] at hq
    refine cF (some 35) 8 #[msv (relM fee leaf)] ((hq).mono ?_)
    rintro e Y46 ⟨v46o, rfl, hO, hb⟩
    clear hq
    replace hM := hM.octN hO hb
    clear hO hb
    obtain ⟨a46o, c46o, rfl, _⟩ := (hM.oka 0 rfl).octs.slice
    refine tF 11 [.val 6 (some 29) (.tuple #[.slice a46o (encG (relM fee leaf)).length c46o, .int .i64 0]), .val 7 (some 36) (.slice a46o (encG (relM fee leaf)).length c46o), .val 8 (some 37) (.int .i64 0), .val 9 (some 11) (.slice a46o (encG (relM fee leaf)).length c46o), .val 10 (some 12) (.int .i64 0)] trivial ?_
    refine dF ?_
    try simp only [puts, Tk.put, Act.put, List.setIfInBounds_toArray, List.set_cons_zero, List.set_cons_succ]
    go_upto_region 6 with fail
    refine wp_region_fromM (fun W => Sep w [] [.oct (.slice a46o (encG (relM fee leaf)).length c46o) (encG (relM fee leaf)), .oct (.slice a41o (payL 1 (keyB relI) fee 0 0 0).length c41o) (payL 1 (keyB relI) fee 0 0 0), .blk N39 119 ([.string ⟨#[117]⟩, .int .i64 ((leaf : Int) + 1)]), .blk N10 24 ([.int .u64 (fee : Nat), .int .u64 ((0 : Nat) : Int), .int .u64 ((0 : Nat) : Int), .int .u64 ((0 : Nat) : Int)]), .blk N7 32 (svc (Sid.mk 50 0 0 0 150)), .blk N4 30 (ivc relI)] W) hM ?_
    clear hM
    rintro Y48 hM
    refine tF 2 [.val 0 (some 38) (.slice a46o (encG (relM fee leaf)).length c46o), .val 1 (some 4) (.slice a46o (encG (relM fee leaf)).length c46o)] trivial ?_
    refine dF ?_
    try simp only [puts, Tk.put, Act.put, List.setIfInBounds_toArray, List.set_cons_zero, List.set_cons_succ]
    have hb := oct_own hM 0 rfl
    go_wp2_with fail
    go_ret
    exact ⟨_, rfl, hb, hM.b⟩
end Go.Proofs.YtechcdkakgpnkaaGreat
namespace Go.Proofs.YtechcdkakgpnkaaGreat
open Go.RowKit Go.Shelf
structure Zs where
  a : Option Addr
  c : Nat
  l : List UInt8
abbrev Zs.v (z : Zs) : Value := .slice z.a z.l.length z.c
def zsc (z : Zs) : List Value := [.slice z.a z.l.length z.c]
def Holds (n : Nat) (W : World) (zs : List Zs) : Prop := ∀ z ∈ zs, BSl 0 n W z.v z.l
theorem Holds.below {n m : Nat} {W W' : World} {zs : List Zs} (h : Holds n W zs) (hb : Below m W W') (hn : n ≤ m) : Holds n W' zs := fun z hz => (h z hz).below hb hn
theorem Holds.mono {n m : Nat} {W : World} {zs : List Zs} (h : Holds n W zs) (hn : n ≤ m) : Holds m W zs := fun z hz => (h z hz).mono (Nat.le_refl _) hn
theorem Holds.up {W W' : World} {zs : List Zs} (h : Holds W.heap.size W zs) (hb : Below W.heap.size W W') : Holds W'.heap.size W' zs := (h.below hb (Nat.le_refl _)).mono hb.size
theorem Holds.take {n : Nat} {W : World} {a : List Zs} (h : Holds n W a) (k : Nat) : Holds n W (a.take k) := fun z hz => h z (List.mem_of_mem_take hz)
theorem Holds.nil (n : Nat) (W : World) : Holds n W [] := fun _ h => (List.not_mem_nil h).elim
def HF (F : List Nat) (W : World) (zs : List Zs) : Prop := ∀ z ∈ zs, BF F W z.v z.l
theorem HF.out {F : List Nat} {w W : World} {zs : List Zs} (h : HF F w zs) (ho : Out F w W) : HF F W zs := fun z hz => (h z hz).out ho
theorem HF.arg {w W : World} {r : Res} {L : List Res} {zs : List Zs} {n : Nat} (h : Sep w [] L W) (hr : r ∈ L) (hs : Holds n w zs) (hn : n ≤ w.heap.size) : HF r.foot W zs := fun z hz => BF.arg h hr (hs z hz) hn
theorem HF.nil (F : List Nat) (W : World) : HF F W [] := fun _ h => (List.not_mem_nil h).elim
def RF (F : List Nat) (W : World) (v : Value) (zs : List Zs) : Prop := ∃ lo hi, RSl zsc lo hi W v zs ∧ hi ≤ W.heap.size ∧ ∀ k ∈ F, k < lo ∨ hi ≤ k
theorem RF.rsl {F : List Nat} {W : World} {v : Value} {zs : List Zs} (h : RF F W v zs) : RSl zsc 0 W.heap.size W v zs := by
  obtain ⟨lo, hi, h1, h2, _⟩ := h
  exact h1.mono (Nat.zero_le _) h2
theorem RF.out {F : List Nat} {w W : World} {v : Value} {zs : List Zs} (h : RF F w v zs) (ho : Out F w W) : RF F W v zs := by
  obtain ⟨lo, hi, ⟨a, cap, e, hc, hm, h0⟩, h2, h3⟩ := h
  refine ⟨lo, hi, ⟨a, cap, e, hc, hm, h0.imp id fun ⟨b, off, ha, hl, hh, hx⟩ => ⟨b, off, ha, hl, hh, fun k x hk => ?_⟩⟩, Nat.le_trans h2 ho.size, h3⟩
  refine (World.cell?_of_block (a := ⟨b, _, none⟩) (ho.block b (by omega) fun hF => ?_)).trans (hx k x hk)
  have := h3 b hF
  omega
theorem RF.arg {w W : World} {r : Res} {L : List Res} {lo hi : Nat} {v : Value} {zs : List Zs} (h : Sep w [] L W) (hr : r ∈ L) (hs : RSl zsc lo hi w v zs) (hh : hi ≤ w.heap.size) : RF r.foot W v zs :=
  ⟨lo, hi, hs.below h.b hh, Nat.le_trans hh h.size, fun k hk => .inr (Nat.le_trans hh ((h.new r hr k hk).elim (fun e => (List.not_mem_nil e).elim) id))⟩
theorem RF.blk {F : List Nat} {W : World} {N : Nat} {T : TypeId} {z : Zs} (h : Blk W N T (zsc z)) (hF : ∀ k ∈ F, k ≠ N) : RF F W (.slice (some ⟨N, 0, none⟩) 1 1) [z] := by
  refine ⟨N, N + 1, ⟨_, 1, rfl, Nat.le_refl _, by decide, .inr ⟨N, 0, rfl, Nat.le_refl _, Nat.lt_succ_self _, fun j u hj => ?_⟩⟩, h.lt, fun k hk => by have := hF k hk; omega⟩
  rw [flat_one] at hj
  rw [Nat.zero_add]
  exact (h.cell j).trans hj
def Res.octs (zs : List Zs) : Res where
  foot := zs.flatMap fun z => (Res.oct z.v z.l).foot
  holds := fun W => ∀ z ∈ zs, (Res.oct z.v z.l).holds W
  stab := fun h hl z hz => (Res.oct z.v z.l).stab (fun k hk => h k (List.mem_flatMap.2 ⟨z, hz, hk⟩)) (hl z hz)
-- ---- slices of octets
theorem Sep.far {w W : World} {F : List Nat} {L : List Res} (h : Sep w F L W) {i j : Nat} {r s : Res} (hi : L[i]? = some r) (hj : L[j]? = some s) (hij : i ≠ j) : ∀ k ∈ r.foot, k ∉ s.foot := by
  obtain ⟨hil, rfl⟩ := List.getElem?_eq_some_iff.1 hi
  obtain ⟨hjl, rfl⟩ := List.getElem?_eq_some_iff.1 hj
  rcases Nat.lt_or_gt_of_ne hij with hl | hl
  · exact List.pairwise_iff_getElem.1 h.apart i j hil hjl hl
  · have := List.pairwise_iff_getElem.1 h.apart j i hjl hil hl
    exact fun k hk hks => this k hks hk
theorem BF.mine {w W : World} {F : List Nat} {L : List Res} (h : Sep w F L W) {i j : Nat} {v : Value} {l : List UInt8} {s : Res} (hi : L[i]? = some (.oct v l)) (hj : L[j]? = some s) (hij : i ≠ j) : BF s.foot W v l := by
  have hf := h.far hi hj hij
  obtain ⟨hi', a, cap, e, hc, h0⟩ := (h.oka i hi).h
  have hlt := (h.oka i hi).lt
  subst e
  cases l with
  | nil => exact ⟨0, 0, ⟨a, cap, rfl, hc, .inl rfl⟩, Nat.zero_le _, fun _ _ => .inr (Nat.zero_le _)⟩
  | cons x l =>
    rcases h0 with h0 | ⟨b, off, ha, _, _, ho⟩
    · cases h0
    · subst ha
      have hb : b ∈ (Res.oct (.slice (some ⟨b, off, none⟩) (x :: l).length cap) (x :: l)).foot := by simp [Res.oct, Value.ownBlock]
      refine ⟨b, b + 1, ⟨_, cap, rfl, hc, .inr ⟨b, off, rfl, Nat.le_refl _, Nat.lt_succ_self _, ho⟩⟩, hlt b hb, fun k hk => ?_⟩
      have : k ≠ b := fun e => hf b hb (e ▸ hk)
      omega
theorem RF.mine {w W : World} {F : List Nat} {L : List Res} (h : Sep w F L W) {i j : Nat} {N : Nat} {T : TypeId} {z : Zs} {s : Res} (hi : L[i]? = some (.blk N T (zsc z))) (hj : L[j]? = some s) (hij : i ≠ j) : RF s.foot W (.slice (some ⟨N, 0, none⟩) 1 1) [z] :=
  RF.blk (h.at i hi) fun _ hk e => h.far hi hj hij N (List.mem_singleton.2 rfl) (e ▸ hk)
theorem RF.nil (F : List Nat) (W : World) : RF F W (.slice none 0 0) [] := ⟨0, 0, RSl.nil _ _ _, Nat.zero_le _, fun _ _ => .inr (Nat.zero_le _)⟩
theorem BF.nil (F : List Nat) (W : World) : BF F W (.slice none 0 0) [] := ⟨0, 0, BSl.nil _ _ _, Nat.zero_le _, fun _ _ => .inr (Nat.zero_le _)⟩
-- HERE
end Go.Proofs.YtechcdkakgpnkaaGreat
namespace Go.Proofs.YtechcdkakgpnkaaGreat
open Go.RowKit Go.Shelf
attribute [local irreducible] wpFrom wpAnyH StepH
set_option maxRecDepth 100000 in
set_option maxHeartbeats 4000000 in
theorem alive22_any (w : World) : Calls Tryz.prog 6 #[] w fun e W' => e = .returned (.bool true) ∧ Below w.heap.size w W' := by
  have hmx : Tryz.prog.follows .mixedOrders = true := by kernel_rfl
  have hM := Sep.start w
  go_enter Tryz.func6, Tryz.ntmps6
  go_upto_region 0 with fail
  refine wp_region_fromM (fun W => Sep w [] [] W) hM ?_
  clear hM
  rintro Y1 hM
  refine tF 1 [.val 0 (some 0) (.bool false)] trivial ?_
  refine dF ?_
  try simp only [puts, Tk.put, Act.put, List.setIfInBounds_toArray, List.set_cons_zero]
  go_upto_region 1 with fail
  refine wp_region_fromM (fun W => Sep w [] [] W) hM ?_
  clear hM
  rintro Y2 hM
  refine cF (some 2) 7 #[] ((rlNew_any _).mono ?_)
  rintro e Y3 ⟨B3, v3, rfl, hR⟩
  replace hM := hM.gain (Sep.close (ps := RLR B3 [] v3) (l := []) hR)
  clear hR
  refine tF 2 [.val 1 (some 1) (pt B3 0)] trivial ?_
  refine dF ?_
  try simp only [puts, Tk.put, Act.put, List.setIfInBounds_toArray, List.set_cons_zero, List.set_cons_succ]
  go_upto_region 2 with fail
  refine wp_region_fromM (fun W => Sep w [] [.join (RLR B3 ([]) v3)] W) hM ?_
  clear hM
  rintro Y4 hM
  refine tF 1 [.val 0 (some 3) (pt B3 0)] trivial ?_
  refine cF (some 4) 10 #[pt B3 0] ((rlCountJ (hM.oka 0 rfl)).mono ?_)
  rintro e Y5 ⟨rfl, hb⟩
  replace hM := hM.below hb
  clear hb
  refine tF 5 [.val 2 (some 5) (.bool true), .val 3 (some 6) (.bool true), .val 4 (some 7) (pt B3 0)] trivial ?_
  refine cF (some 8) 17 #[.int .u64 1, .int .i64 1] ((release22_any 1 1 (by unfold M; decide) (by decide) _).mono ?_)
  rintro e Y6 ⟨v6o, rfl, hO, hb⟩
  replace hM := hM.octN hO hb
  clear hO hb
  obtain ⟨a6o, c6o, rfl, _⟩ := (hM.oka 0 rfl).octs.slice
  have hq := rlHear_any (encG (relM 1 1)) _ _ (hM.oka 1 rfl) (BF.mine hM (i := 0) (j := 1) rfl rfl (by decide)) (relM_back (by decide) (by unfold M; decide))
  rw [hear_first rfl (relM_fe (by decide))] at hq
  refine cF (some 9) 9 #[pt B3 0, .slice a6o (encG (relM 1 1)).length c6o] ((hq).mono ?_)
  rintro e Y8 ⟨rfl, v8, hT⟩
  clear hq
  replace hM := hM.turn 1 rfl hT rfl
  clear hT
  refine tF 10 [.val 7 (some 10) (.bool true), .val 8 (some 11) (.bool true), .val 9 (some 12) (pt B3 0)] trivial ?_
  refine cF (some 13) 10 #[pt B3 0] ((rlCountJ (hM.oka 1 rfl)).mono ?_)
  rintro e Y9 ⟨rfl, hb⟩
  replace hM := hM.below hb
  clear hb
  refine tF 14 [.val 11 (some 14) (.bool true), .val 12 (some 15) (.bool true), .val 13 (some 0) (.bool true)] trivial ?_
  refine dF ?_
  try simp only [puts, Tk.put, Act.put, List.setIfInBounds_toArray, List.set_cons_zero, List.set_cons_succ]
  go_wp2_with fail
  go_ret
  exact ⟨rfl, hM.b⟩
def vwc (p : Value) (s : Es) (v : Value) (party next : Int) : List Value := [p] ++ (stc s v ++ [.int .i64 party, .int .i64 next])
theorem lv_vw {W : World} {B : Nat} {T : TypeId} {p : Value} {s : Es} {v : Value} {a n : Int} (h : Blk W B T (vwc p s v a n)) : (loadVar 94 ⟨B, 0, none⟩).run Tryz.prog W = .ok (.agg (vwc p s v a n).toArray) W := run_loadVar_row W B T _ (vwc p s v a n).toArray (0, 0) _ h Tryz.underlying94 rfl (by kernel_rfl)
set_option maxRecDepth 100000 in
set_option maxHeartbeats 4000000 in
theorem watch_no (w : World) : Calls Tryz.prog 40 #[.int .i64 4, .pointer none] w fun e W' => e = .returned (.agg (vwc (.pointer none) zS nilV 4 0).toArray) ∧ Below w.heap.size w W' := by
  have hmx : Tryz.prog.follows .mixedOrders = true := by kernel_rfl
  have hM := Sep.start w
  go_enter Tryz.func40, Tryz.ntmps40
  go_upto_region 0 with fail
  refine wp_region_fromM (fun W => Sep w [] [] W) hM ?_
  clear hM
  rintro Y1 hM
  refine rF (some 4) (pt Y1.heap.size 0) (Y1.alloc (.cells (vwc (.pointer none) zS nilV 0 0).toArray 94)) ?_
  replace hM := hM.alloc 94 (vwc (.pointer none) zS nilV 0 0)
  generalize World.alloc _ _ = Y2 at *
  generalize hNe : Y1.heap.size = N2 at *
  clear hNe
  refine dF ?_
  try simp only [Act.put, List.setIfInBounds_toArray, List.set_cons_zero, List.set_cons_succ]
  go_upto_region 1 with fail
  refine wp_region_fromM (fun W => Sep w [] [.blk N2 94 (vwc (.pointer none) zS nilV 0 0)] W) hM ?_
  clear hM
  rintro Y3 hM
  refine tF 2 [.val 0 (some 5) (.pointer none), .val 1 (some 6) (.pointer none)] trivial ?_
  refine cF (some 7) 18 #[.pointer none] ((chnState_no _ (.inl rfl)).mono ?_)
  rintro e Y4 ⟨rfl, hb⟩
  replace hM := hM.below hb
  clear hb
  refine tF 6 [.val 3 (some 8) (.int .i64 4), .val 4 (some 9) (.pointer none), .val 5 (some 10) (.int .i64 4)] trivial ?_
  refine cF (some 11) 81 #[.pointer none, .int .i64 4] ((chnNext_no 4 _ (.inl rfl)).mono ?_)
  rintro e Y5 ⟨rfl, hb⟩
  replace hM := hM.below hb
  clear hb
  refine tF 8 [.val 7 (some 12) (.agg (vwc (.pointer none) zS nilV 4 0).toArray)] trivial ?_
  have hst := sto_part (vwc (.pointer none) zS nilV 4 0) (hM.at 0 rfl) 0 94 (.agg (vwc (.pointer none) zS nilV 4 0).toArray) (vwc (.pointer none) zS nilV 4 0) rfl (by kernel_rfl) (Nat.le_of_ble_eq_true rfl) rfl rfl
  refine sF 94 (pt N2 0) (.agg (vwc (.pointer none) zS nilV 4 0).toArray) (hst) ?_
  clear hst
  replace hM := hM.set 0 (cs' := vwc (.pointer none) zS nilV 4 0) rfl rfl
  generalize World.setRow _ _ _ = Y6 at *
  refine dF ?_
  try simp only [puts, Tk.put, Act.put, List.setIfInBounds_toArray, List.set_cons_zero, List.set_cons_succ]
  go_wp2_with fail
  exact bodyPost_ret (v := .agg (vwc (.pointer none) zS nilV 4 0).toArray) (res_one rfl _ rfl (lv_vw (hM.at 0 rfl))) rfl ⟨rfl, hM.b⟩
set_option maxRecDepth 100000 in
set_option maxHeartbeats 4000000 in
theorem rlLook_no (w : World) : Calls Tryz.prog 12 #[.pointer none, .pointer none] w fun e W' => e = .returned (.slice none 0 0) ∧ Below w.heap.size w W' := by
  have hmx : Tryz.prog.follows .mixedOrders = true := by kernel_rfl
  have hM := Sep.start w
  go_enter Tryz.func12, Tryz.ntmps12
  go_upto_region 0 with fail
  refine wp_region_fromM (fun W => Sep w [] [] W) hM ?_
  clear hM
  rintro Y1 hM
  refine tF 1 [.val 0 (some 4) (.slice none 0 0)] trivial ?_
  refine dF ?_
  try simp only [puts, Tk.put, Act.put, List.setIfInBounds_toArray, List.set_cons_zero, List.set_cons_succ]
  go_upto_region 1 with fail
  refine wp_region_fromM (fun W => Sep w [] [] W) hM ?_
  clear hM
  rintro Y2 hM
  refine tF 1 [.val 0 (some 11) (.pointer none)] trivial ?_
  refine cF (some 12) 40 #[.int .i64 4, .pointer none] ((watch_no _).mono ?_)
  rintro e Y3 ⟨rfl, hb⟩
  replace hM := hM.below hb
  clear hb
  refine rF (some 5) (pt Y3.heap.size 0) (Y3.alloc (.cells (vwc (.pointer none) zS nilV 0 0).toArray 94)) ?_
  replace hM := hM.alloc 94 (vwc (.pointer none) zS nilV 0 0)
  generalize World.alloc _ _ = Y4 at *
  generalize hNe : Y3.heap.size = N4 at *
  clear hNe
  have hst := sto_part (vwc (.pointer none) zS nilV 4 0) (hM.at 0 rfl) 0 94 (.agg (vwc (.pointer none) zS nilV 4 0).toArray) (vwc (.pointer none) zS nilV 4 0) rfl (by kernel_rfl) (Nat.le_of_ble_eq_true rfl) rfl rfl
  refine sF 94 (pt N4 0) (.agg (vwc (.pointer none) zS nilV 4 0).toArray) (hst) ?_
  clear hst
  replace hM := hM.set 0 (cs' := vwc (.pointer none) zS nilV 4 0) rfl rfl
  generalize World.setRow _ _ _ = Y5 at *
  refine dF ?_
  try simp only [puts, Tk.put, Act.put, List.setIfInBounds_toArray, List.set_cons_zero, List.set_cons_succ]
  go_upto_region 2 with fail
  refine wp_region_fromM (fun W => Sep w [] [.blk N4 94 (vwc (.pointer none) zS nilV 4 0)] W) hM ?_
  clear hM
  rintro Y6 hM
  refine tF 1 [.val 0 (some 6) (.slice none 0 0)] trivial ?_
  refine dF ?_
  try simp only [puts, Tk.put, Act.put, List.setIfInBounds_toArray, List.set_cons_zero, List.set_cons_succ]
  go_upto_region 3 with fail
  refine wp_region_fromM (fun W => Sep w [] [.blk N4 94 (vwc (.pointer none) zS nilV 4 0)] W) hM ?_
  clear hM
  rintro Y7 hM
  refine tF 2 [.val 0 (some 13) (.pointer none), .val 1 (some 14) (.func (.func 41) #[] #[pt N4 0])] trivial ?_
  refine cF (some 15) 32 #[.pointer none, .func (.func 41) #[] #[pt N4 0]] ((rlAll_no (.func (.func 41) #[] #[pt N4 0]) _).mono ?_)
  rintro e Y8 ⟨rfl, hb⟩
  replace hM := hM.below hb
  clear hb
  refine tF 5 [.val 3 (some 16) (.int .i64 0), .val 4 (some 17) (.int .i64 0)] trivial ?_
  refine dF ?_
  try simp only [puts, Tk.put, Act.put, List.setIfInBounds_toArray, List.set_cons_zero, List.set_cons_succ]
  go_wp2_with fail
  go_loopw [6, 17] (fun u6 i wr => i = .int .i64 0 ∧ u6 = .slice none 0 0 ∧ Sep w [] [.blk N4 94 (vwc (.pointer none) zS nilV 4 0)] wr) (fun u6 i _ => 0)
  case atStart => exact ⟨rfl, rfl, hM⟩
  clear hM
  case round =>
    obtain ⟨rfl, rfl, hM⟩ := hrel
    go_upto_region 4 with fail
    refine wp_region_fromM (fun W => Sep w [] [.blk N4 94 (vwc (.pointer none) zS nilV 4 0)] W) hM ?_
    clear hM
    rintro Y9 hM
    refine tF 1 [.val 0 (some 18) (.bool false)] trivial ?_
    refine dF ?_
    try simp only [puts, Tk.put, Act.put, List.setIfInBounds_toArray, List.set_cons_zero, List.set_cons_succ]
    go_upto_region 10 with fail
    refine wp_region_fromM (fun W => Sep w [] [.blk N4 94 (vwc (.pointer none) zS nilV 4 0)] W) hM ?_
    clear hM
    rintro Y10 hM
    refine tF 2 [.val 0 (some 41) (.slice none 0 0), .val 1 (some 4) (.slice none 0 0)] trivial ?_
    refine dF ?_
    try simp only [puts, Tk.put, Act.put, List.setIfInBounds_toArray, List.set_cons_zero, List.set_cons_succ]
    go_wp2_with fail
    go_ret
    exact ⟨rfl, hM.b⟩
end Go.Proofs.YtechcdkakgpnkaaGreat
namespace Go.Proofs.YtechcdkakgpnkaaGreat
open Go.RowKit Go.Shelf
inductive Sl where
  | k (v : Value)
  | s (i : Nat)
def fillS : List Sl → (Nat → Value) → List Value
  | [], _ => []
  | .k v :: p, s => v :: fillS p s
  | .s i :: p, s => s i :: fillS p s
def fillZ : List Sl → List Value → List Value
  | [], _ => []
  | _ :: _, [] => [undef]
  | .k v :: p, _ :: l => v :: fillZ p l
  | .s _ :: p, u :: l => u :: fillZ p l
def numb : List Sl → Nat → Bool
  | [], _ => true
  | .k _ :: p, n => numb p (n + 1)
  | .s i :: p, n => Nat.beq i n && numb p (n + 1)
def nth (l : List Value) (i : Nat) : Value := (l[i]?).getD undef
theorem nth_at (pre : List Value) (u : Value) (l : List Value) : nth (pre ++ u :: l) pre.length = u := by
  unfold nth
  rw [List.getElem?_append_right (Nat.le_refl _), Nat.sub_self]
  rfl
theorem fill_nth : ∀ {p : List Sl} {n : Nat}, numb p n = true → ∀ {pre l : List Value}, pre.length = n → fillZ p l = l → fillS p (nth (pre ++ l)) = l
  | [], _, _, _, _, _, h => h
  | q :: p, _, _, _, [], _, h => by cases q <;> cases h
  | .k v :: p, n, hn, pre, u :: l, hp, h => by
    have h1 : v :: fillZ p l = u :: l := h
    obtain ⟨rfl, h2⟩ := List.cons.inj h1
    have := fill_nth (p := p) (n := n + 1) hn (pre := pre ++ [v]) (l := l) (by rw [List.length_append, hp]; rfl) h2
    rw [List.append_assoc] at this
    exact congrArg (v :: ·) this
  | .s i :: p, n, hn, pre, u :: l, hp, h => by
    have h1 : u :: fillZ p l = u :: l := h
    obtain ⟨_, h2⟩ := List.cons.inj h1
    have hn' : (Nat.beq i n && numb p (n + 1)) = true := hn
    rw [Bool.and_eq_true] at hn'
    obtain rfl : i = n := Nat.eq_of_beq_eq_true hn'.1
    have := fill_nth (p := p) (n := i + 1) hn'.2 (pre := pre ++ [u]) (l := l) (by rw [List.length_append, hp]; rfl) h2
    rw [List.append_assoc] at this
    show nth (pre ++ u :: l) i :: fillS p (nth (pre ++ u :: l)) = u :: l
    rw [← hp, nth_at]
    exact congrArg (u :: ·) this
theorem fill_all {p : List Sl} {l : List Value} (hn : numb p 0 = true) (h : fillZ p l = l) : fillS p (nth l) = l := fill_nth hn (pre := []) rfl h
section
variable {P : Program} {c : Code} {W : World} {l : List Value}
theorem wp_loop_fit {Q : Exit → Act → World → Prop} (p : List Sl) (R : (Nat → Value) → World → Prop) (mu : (Nat → Value) → World → Nat) (hn : numb p 0 = true) (hl : fillZ p l = l) (h0 : R (nth l) W)
    (round : ∀ s w, R s w → ∀ (J K : Act → World → Prop), (∀ l' w', fillZ p l' = l' → R (nth l') w' → mu (nth l') w' < mu s w → J ⟨l'.toArray, []⟩ w') → (∀ a' w', Met J a' w' → K a' w') → c.wp P (Exit.then K Q) ⟨(fillS p s).toArray, []⟩ w) : (Code.loop c).wp P Q ⟨l.toArray, []⟩ W := by
  classical
  let g : Act → World → Nat := fun a w => if h : ∃ s, R s w ∧ a = ⟨(fillS p s).toArray, []⟩ then leastOf (fun n => ∃ s, R s w ∧ a = ⟨(fillS p s).toArray, []⟩ ∧ mu s w = n) else 0
  refine wp_loop (fun a w => ∃ s, R s w ∧ a = ⟨(fillS p s).toArray, []⟩) g ⟨nth l, h0, by rw [fill_all hn hl]⟩ ?_
  intro a w hI
  have hex : ∃ n, ∃ s, R s w ∧ a = ⟨(fillS p s).toArray, []⟩ ∧ mu s w = n := by
    obtain ⟨s, h1, h2⟩ := hI
    exact ⟨_, s, h1, h2, rfl⟩
  have hga : g a w = leastOf (fun n => ∃ s, R s w ∧ a = ⟨(fillS p s).toArray, []⟩ ∧ mu s w = n) := dif_pos hI
  obtain ⟨⟨s, h1, h2, h3⟩, _⟩ := leastOf_spec hex
  rw [hga, ← h3]
  subst h2
  refine round s w h1 _ _ (fun l' w' e1 e2 e3 => ?_) (fun _ _ h => h)
  have hI' : ∃ s, R s w' ∧ (⟨l'.toArray, []⟩ : Act) = ⟨(fillS p s).toArray, []⟩ := ⟨nth l', e2, by rw [fill_all hn e1]⟩
  refine ⟨hI', ?_⟩
  have hgb : g ⟨l'.toArray, []⟩ w' = leastOf (fun n => ∃ s, R s w' ∧ (⟨l'.toArray, []⟩ : Act) = ⟨(fillS p s).toArray, []⟩ ∧ mu s w' = n) := dif_pos hI'
  rw [hgb]
  exact Nat.lt_of_le_of_lt ((leastOf_spec ⟨mu (nth l') w', nth l', e2, by rw [fill_all hn e1], rfl⟩).2 _ ⟨nth l', e2, by rw [fill_all hn e1], rfl⟩) e3
end
end Go.Proofs.YtechcdkakgpnkaaGreat
namespace Go.Proofs.YtechcdkakgpnkaaGreat
open Go.ChangeShapes Go.WideShapes Go.ChangeAt Go.RowKit
theorem Tryz.own : ownKnob Tryz.prog.godebug = none := by kernel_rfl
theorem Tryz.laidOut : laidOutB Tryz.prog = true := by kernel_rfl
theorem list_of {α : Type} {Q : Nat → α → Prop} : ∀ {n : Nat}, (∀ i, i < n → ∃ x, Q i x) → ∃ l : List α, l.length = n ∧ ∀ k x, l[k]? = some x → Q k x
  | 0, _ => ⟨[], rfl, fun k x h => by simp at h⟩
  | n + 1, h => by
    obtain ⟨l, hl, hq⟩ := list_of (n := n) (fun i hi => h i (by omega))
    obtain ⟨y, hy⟩ := h n (by omega)
    refine ⟨l ++ [y], by simp [hl], fun k x hx => ?_⟩
    by_cases hk : k < n
    · rw [List.getElem?_append_left (by omega)] at hx
      exact hq k x hx
    · rw [List.getElem?_append_right (by omega)] at hx
      have : k = n := by
        have := (List.getElem?_eq_some_iff.1 hx).1
        simp at this
        omega
      subst this
      simp [hl] at hx
      rw [← hx]; exact hy
theorem add_plain (b off q : Nat) : (⟨b, off, none⟩ : Addr).add q = ⟨b, off + q, none⟩ := by cases q <;> simp [Addr.add]
end Go.Proofs.YtechcdkakgpnkaaGreat
namespace Go.Proofs.YtechcdkakgpnkaaGreat
open Go.ChangeShapes Go.WideShapes Go.ChangeAt Go.RowKit Go.Deep
theorem Tryz.bytes8 : Tryz.prog.bytesOf 5 = 1 := by kernel_rfl
theorem Tryz.cells8 : Tryz.prog.cellsOf 5 = 1 := by kernel_rfl
theorem wf_u8 {x : Int} (h : (Lit.int .u8 x).wf = true) : ∃ b : UInt8, x = (b.toNat : Int) := by
  have h' : 0 ≤ x ∧ x < 256 := by
    simp [Lit.wf, IntKind.min, IntKind.max, IntKind.bits, IntKind.signed] at h
    omega
  refine ⟨UInt8.ofNat x.toNat, ?_⟩
  rw [UInt8.toNat_ofNat']
  omega
theorem open_bytes {H : Type} {enc : TypeId × Value → H} {W : World} {base : Nat} {spare : Nat → Bool} {held : Bool} {a : Option Addr} {len cap : Nat} {d : DataW H} {p : List MemPlace}
    (h : DataW.Trod enc Tryz.prog W base spare held 35 (.slice a len cap) d p) : ∃ zs : List UInt8, len = zs.length ∧ BSl 0 W.heap.size W (.slice a len cap) zs ∧ (zs = [] ∨ ∃ el sp, d = .slice el sp ∧ el.length = zs.length) := by
  obtain ⟨fuel, hf⟩ := h
  rcases open_slice1 Tryz.underlying35 Tryz.cells8 hf with h0 | ⟨ad, l, c, m, n, V, D, Pl, hcs, hb, hl, hm, hmm, hx, hi⟩
  · obtain ⟨hcs, _⟩ := h0
    simp [Value.cells] at hcs
    obtain ⟨rfl, rfl, rfl⟩ := hcs
    exact ⟨[], rfl, ⟨none, 0, rfl, Nat.le_refl _, .inl rfl⟩, .inl rfl⟩
  · simp [Value.cells] at hcs
    obtain ⟨rfl, rfl, rfl⟩ := hcs
    have hlm : len ≤ m := by rw [hmm]; split <;> omega
    have key : ∀ i, i < len → ∃ x : UInt8, W.cell? (ad.add i) = some (bv x) := fun i hil => by
      obtain ⟨hc, ht⟩ := hi i (by omega)
      obtain ⟨x, e, _, w0⟩ := DataW.trod_int Tryz.underlying5 ht
      simp at e
      obtain ⟨b, rfl⟩ := wf_u8 w0
      exact ⟨b, by rw [hc, e]⟩
    obtain ⟨zs, hz, hq⟩ := list_of key
    refine ⟨zs, hz.symm, ⟨some ad, cap, by rw [hz], by rw [hz]; exact hl, ?_⟩, .inr ⟨_, _, (Prod.mk.inj hx).1, by simp [hz]⟩⟩
    by_cases hlen : len = 0
    · exact .inl (List.length_eq_zero_iff.1 (by omega))
    · obtain ⟨x, h0⟩ := key 0 (by omega)
      obtain ⟨b, off, sp⟩ := ad
      have hsp : sp = none := by
        cases sp with
        | none => rfl
        | some _ => simp [Addr.add, World.cell?] at h0; split at h0 <;> simp at h0
      subst hsp
      refine .inr ⟨b, off, rfl, Nat.zero_le _, World.block_lt_of_cell? W _ h0, fun k x hx => ?_⟩
      have := hq k x hx
      rwa [add_plain] at this
end Go.Proofs.YtechcdkakgpnkaaGreat
namespace Go.Proofs.YtechcdkakgpnkaaGreat
open Go.ChangeShapes Go.WideShapes Go.ChangeAt Go.RowKit
theorem Tryz.cells24 : Tryz.prog.cellsOf 24 = 4 := by kernel_rfl
theorem Tryz.cells22 : Tryz.prog.cellsOf 22 = 1 := by kernel_rfl
theorem wf_u64 {x : Int} (h : (Lit.int .u64 x).wf = true) : ∃ n : Nat, x = (n : Int) ∧ n < M := by
  have h' : 0 ≤ x ∧ x < 18446744073709551616 := by
    simp [Lit.wf, IntKind.min, IntKind.max, IntKind.bits, IntKind.signed] at h
    omega
  obtain ⟨n, rfl⟩ := Int.eq_ofNat_of_zero_le h'.1
  exact ⟨n, rfl, by unfold M; omega⟩
end Go.Proofs.YtechcdkakgpnkaaGreat
namespace Go.Proofs.YtechcdkakgpnkaaGreat
theorem Tryz.cellsInt : Tryz.prog.cellsOf 3 = 1 := by kernel_rfl
theorem Tryz.cellsStr : Tryz.prog.cellsOf 9 = 1 := by kernel_rfl
end Go.Proofs.YtechcdkakgpnkaaGreat
namespace Go.Proofs.YtechcdkakgpnkaaGreat
open Go.ChangeShapes Go.WideShapes Go.ChangeAt Go.RowKit Go.Deep
theorem Tryz.cellsInv : Tryz.prog.cellsOf 30 = 7 := by kernel_rfl
theorem Tryz.cellsVar : Tryz.prog.cellsOf 32 = 5 := by kernel_rfl
set_option maxRecDepth 100000 in
theorem trod_inv {H : Type} {enc : TypeId × Value → H} {w : World} {base : Nat} {spare : Nat → Bool} {held : Bool} {fuel : Nat} {cs : List Value} {x : DataW H × List MemPlace}
    (h : DataW.trod enc Tryz.prog w base spare held fuel 30 cs = some x) :
    ∃ i : Trf, cs = ivc i ∧ i.rt.data.toList.length ∈ x.1.weights Tryz.prog 30 ∧ i.id.data.toList.length ∈ x.1.weights Tryz.prog 30 := by
  obtain ⟨xs, n, _, hx, hcl, hlen, hg⟩ := DataW.trod_struct Tryz.underlying30 h
  rw [Tryz.cellsInv] at hcl
  match cs, hcl with
  | [c0, c1, c2, c3, c4, c5, c6], _ =>
  match xs, hlen with
  | [y0, y1, y2, y3, y4, y5, y6], _ =>
  have h0 := hg 0 ⟨ "User", 3, 0, false, "", "", 0⟩ rfl
  have h1 := hg 1 ⟨ "Root", 9, 1, false, "", "", 8⟩ rfl
  have h2 := hg 2 ⟨ "Router", 3, 2, false, "", "", 24⟩ rfl
  have h3 := hg 3 ⟨ "Send", 3, 3, false, "", "", 32⟩ rfl
  have h4 := hg 4 ⟨ "Recv", 3, 4, false, "", "", 40⟩ rfl
  have h5 := hg 5 ⟨ "To", 3, 5, false, "", "", 48⟩ rfl
  have h6 := hg 6 ⟨ "Id", 9, 6, false, "", "", 56⟩ rfl
  dsimp only at h0 h1 h2 h3 h4 h5 h6
  rw [Tryz.cellsInt] at h0 h2 h3 h4 h5
  rw [Tryz.cellsStr] at h1 h6
  simp only [List.drop_succ_cons, List.drop_zero, List.take_succ_cons, List.take_zero, List.getElem?_cons_zero, List.getElem?_cons_succ] at h0 h1 h2 h3 h4 h5 h6
  obtain ⟨z0, e0, hx0, wf0⟩ := DataW.trod_int Tryz.underlying3 h0
  obtain ⟨s1, e1, hx1, _⟩ := DataW.trod_string Tryz.underlying9 h1
  obtain ⟨z2, e2, hx2, wf2⟩ := DataW.trod_int Tryz.underlying3 h2
  obtain ⟨z3, e3, hx3, wf3⟩ := DataW.trod_int Tryz.underlying3 h3
  obtain ⟨z4, e4, hx4, wf4⟩ := DataW.trod_int Tryz.underlying3 h4
  obtain ⟨z5, e5, hx5, wf5⟩ := DataW.trod_int Tryz.underlying3 h5
  obtain ⟨s6, e6, hx6, _⟩ := DataW.trod_string Tryz.underlying9 h6
  simp at e0 e1 e2 e3 e4 e5 e6
  subst e0 e1 e2 e3 e4 e5 e6
  refine ⟨⟨z0, s1, z2, z3, z4, z5, s6⟩, rfl, ?_, ?_⟩
  · rw [hx]
    have : y1.1 = .lit (.string s1.data.toList) := by rw [hx1]
    simp [DataW.weights, DataW.weightsEach, Tryz.underlying30, this]
  · rw [hx]
    have : y6.1 = .lit (.string s6.data.toList) := by rw [hx6]
    simp [DataW.weights, DataW.weightsEach, Tryz.underlying30, this]
set_option maxRecDepth 100000 in
theorem trod_var {H : Type} {enc : TypeId × Value → H} {w : World} {base : Nat} {spare : Nat → Bool} {held : Bool} {fuel : Nat} {cs : List Value} {x : DataW H × List MemPlace}
    (h : DataW.trod enc Tryz.prog w base spare held fuel 32 cs = some x) :
    ∃ v : Sid, cs = svc v ∧ Ok4 v.a0 v.a1 v.a2 v.a3 := by
  obtain ⟨xs, n, _, hx, hcl, hlen, hg⟩ := DataW.trod_struct Tryz.underlying32 h
  rw [Tryz.cellsVar] at hcl
  match cs, hcl with
  | [c0, c1, c2, c3, c4], _ =>
  match xs, hlen with
  | [y0, y1], _ =>
  have h0 := hg 0 ⟨ "Amount", 24, 0, false, "", "", 0⟩ rfl
  have h1 := hg 1 ⟨ "Expiry", 3, 4, false, "", "", 32⟩ rfl
  dsimp only at h0 h1
  rw [Tryz.cells24] at h0
  rw [Tryz.cellsInt] at h1
  simp only [List.drop_succ_cons, List.drop_zero, List.take_succ_cons, List.take_zero, List.getElem?_cons_zero, List.getElem?_cons_succ] at h0 h1
  obtain ⟨u0, u1, u2, u3, m, hx3, g0, g1, g2, g3⟩ := trod_array4 Tryz.underlying24 Tryz.cells22 h0
  obtain ⟨v0, k0, _, wg0⟩ := DataW.trod_int Tryz.underlying22 g0
  obtain ⟨v1, k1, _, wg1⟩ := DataW.trod_int Tryz.underlying22 g1
  obtain ⟨v2, k2, _, wg2⟩ := DataW.trod_int Tryz.underlying22 g2
  obtain ⟨v3, k3, _, wg3⟩ := DataW.trod_int Tryz.underlying22 g3
  obtain ⟨z1, e1, hx1, wf1⟩ := DataW.trod_int Tryz.underlying3 h1
  obtain ⟨a0, rfl, q0⟩ := wf_u64 wg0
  obtain ⟨a1, rfl, q1⟩ := wf_u64 wg1
  obtain ⟨a2, rfl, q2⟩ := wf_u64 wg2
  obtain ⟨a3, rfl, q3⟩ := wf_u64 wg3
  simp at e1 k0 k1 k2 k3
  subst e1 k0 k1 k2 k3
  exact ⟨⟨a0, a1, a2, a3, z1⟩, rfl, ⟨q0, q1, q2, q3⟩⟩
set_option maxRecDepth 100000 in
theorem agg_of {v : Value} {w : World} {r : Reach} {b0 t : Nat} {fs : Array Field} (hu : Tryz.prog.underlying t = some (.struct fs)) (hv : Value.okWide Tryz.prog w r b0 t v) : ∃ cs, v = .agg cs := by
  obtain ⟨cs, rfl, _⟩ : ∃ cs, v = .agg cs ∧ cs.size = Tryz.prog.cellsOf t ∧ Row.okWide Tryz.prog w r b0 t cs := by
    simpa [Value.okWide, hu] using hv
  exact ⟨cs, rfl⟩
end Go.Proofs.YtechcdkakgpnkaaGreat
namespace Go.Proofs.YtechcdkakgpnkaaGreat
open Go.ChangeShapes Go.WideShapes Go.ChangeAt Go.RowKit Go.Deep
theorem Tryz.cellsAsk : Tryz.prog.cellsOf 26 = 9 := by kernel_rfl
theorem Tryz.cellsBid : Tryz.prog.cellsOf 28 = 16 := by kernel_rfl
theorem trod_wide {H : Type} {enc : TypeId × Value → H} {w : World} {base : Nat} {spare : Nat → Bool} {held : Bool} {fuel : Nat} {c0 c1 c2 c3 : Value} {x : DataW H × List MemPlace}
    (h : DataW.trod enc Tryz.prog w base spare held fuel 24 [c0, c1, c2, c3] = some x) :
    ∃ a0 a1 a2 a3 : Nat, c0 = .int .u64 (a0 : Int) ∧ c1 = .int .u64 (a1 : Int) ∧ c2 = .int .u64 (a2 : Int) ∧ c3 = .int .u64 (a3 : Int) ∧ Ok4 a0 a1 a2 a3 := by
  obtain ⟨u0, u1, u2, u3, m, hx3, g0, g1, g2, g3⟩ := trod_array4 Tryz.underlying24 Tryz.cells22 h
  obtain ⟨v0, k0, _, wg0⟩ := DataW.trod_int Tryz.underlying22 g0
  obtain ⟨v1, k1, _, wg1⟩ := DataW.trod_int Tryz.underlying22 g1
  obtain ⟨v2, k2, _, wg2⟩ := DataW.trod_int Tryz.underlying22 g2
  obtain ⟨v3, k3, _, wg3⟩ := DataW.trod_int Tryz.underlying22 g3
  obtain ⟨a0, rfl, q0⟩ := wf_u64 wg0
  obtain ⟨a1, rfl, q1⟩ := wf_u64 wg1
  obtain ⟨a2, rfl, q2⟩ := wf_u64 wg2
  obtain ⟨a3, rfl, q3⟩ := wf_u64 wg3
  simp at k0 k1 k2 k3
  exact ⟨a0, a1, a2, a3, k0, k1, k2, k3, ⟨q0, q1, q2, q3⟩⟩
set_option maxRecDepth 100000 in
theorem trod_ask {H : Type} {enc : TypeId × Value → H} {w : World} {base : Nat} {spare : Nat → Bool} {held : Bool} {fuel : Nat} {cs : List Value} {x : DataW H × List MemPlace}
    (h : DataW.trod enc Tryz.prog w base spare held fuel 26 cs = some x) :
    ∃ a : Ak, cs = akc a ∧ OkA a := by
  obtain ⟨xs, n, _, hx, hcl, hlen, hg⟩ := DataW.trod_struct Tryz.underlying26 h
  rw [Tryz.cellsAsk] at hcl
  match cs, hcl with
  | [c0, c1, c2, c3, c4, c5, c6, c7, c8], _ =>
  match xs, hlen with
  | [y0, y1, y2, y3, y4, y5], _ =>
  have h0 := hg 0 ⟨ "User", 3, 0, false, "", "", 0⟩ rfl
  have h1 := hg 1 ⟨ "Send", 3, 1, false, "", "", 8⟩ rfl
  have h2 := hg 2 ⟨ "Recv", 3, 2, false, "", "", 16⟩ rfl
  have h3 := hg 3 ⟨ "To", 3, 3, false, "", "", 24⟩ rfl
  have h4 := hg 4 ⟨ "Amount", 24, 4, false, "", "", 32⟩ rfl
  have h5 := hg 5 ⟨ "Id", 9, 8, false, "", "", 64⟩ rfl
  dsimp only at h0 h1 h2 h3 h4 h5
  rw [Tryz.cellsInt] at h0 h1 h2 h3
  rw [Tryz.cells24] at h4
  rw [Tryz.cellsStr] at h5
  simp only [List.drop_succ_cons, List.drop_zero, List.take_succ_cons, List.take_zero, List.getElem?_cons_zero, List.getElem?_cons_succ] at h0 h1 h2 h3 h4 h5
  obtain ⟨z0, e0, _, _⟩ := DataW.trod_int Tryz.underlying3 h0
  obtain ⟨z1, e1, _, _⟩ := DataW.trod_int Tryz.underlying3 h1
  obtain ⟨z2, e2, _, _⟩ := DataW.trod_int Tryz.underlying3 h2
  obtain ⟨z3, e3, _, _⟩ := DataW.trod_int Tryz.underlying3 h3
  obtain ⟨a0, a1, a2, a3, f0, f1, f2, f3, hk⟩ := trod_wide h4
  obtain ⟨s5, e5, _, _⟩ := DataW.trod_string Tryz.underlying9 h5
  simp at e0 e1 e2 e3 e5
  subst e0 e1 e2 e3 f0 f1 f2 f3 e5
  exact ⟨⟨z0, z1, z2, z3, a0, a1, a2, a3, s5⟩, rfl, ⟨hk⟩⟩
set_option maxRecDepth 100000 in
theorem trod_bid {H : Type} {enc : TypeId × Value → H} {w : World} {base : Nat} {spare : Nat → Bool} {held : Bool} {fuel : Nat} {cs : List Value} {x : DataW H × List MemPlace}
    (h : DataW.trod enc Tryz.prog w base spare held fuel 28 cs = some x) :
    ∃ b : Bd, cs = bdc b ∧ OkB b := by
  obtain ⟨xs, n, _, hx, hcl, hlen, hg⟩ := DataW.trod_struct Tryz.underlying28 h
  rw [Tryz.cellsBid] at hcl
  match cs, hcl with
  | [c0, c1, c2, c3, c4, c5, c6, c7, c8, c9, c10, c11, c12, c13, c14, c15], _ =>
  match xs, hlen with
  | [y0, y1, y2, y3, y4], _ =>
  have h0 := hg 0 ⟨ "Router", 3, 0, false, "", "", 0⟩ rfl
  have h1 := hg 1 ⟨ "Ask", 26, 1, false, "", "", 8⟩ rfl
  have h2 := hg 2 ⟨ "Amount", 24, 10, false, "", "", 88⟩ rfl
  have h3 := hg 3 ⟨ "Until", 3, 14, false, "", "", 120⟩ rfl
  have h4 := hg 4 ⟨ "Sig", 9, 15, false, "", "", 128⟩ rfl
  dsimp only at h0 h1 h2 h3 h4
  rw [Tryz.cellsInt] at h0 h3
  rw [Tryz.cellsAsk] at h1
  rw [Tryz.cells24] at h2
  rw [Tryz.cellsStr] at h4
  simp only [List.drop_succ_cons, List.drop_zero, List.take_succ_cons, List.take_zero, List.getElem?_cons_zero, List.getElem?_cons_succ] at h0 h1 h2 h3 h4
  obtain ⟨z0, e0, _, _⟩ := DataW.trod_int Tryz.underlying3 h0
  obtain ⟨a, ha, hk⟩ := trod_ask h1
  obtain ⟨b0, b1, b2, b3, f0, f1, f2, f3, hk2⟩ := trod_wide h2
  obtain ⟨z3, e3, _, _⟩ := DataW.trod_int Tryz.underlying3 h3
  obtain ⟨s4, e4, _, _⟩ := DataW.trod_string Tryz.underlying9 h4
  simp at e0 e3 e4
  simp only [akc, List.cons.injEq, and_true] at ha
  obtain ⟨q0, q1, q2, q3, q4, q5, q6, q7, q8⟩ := ha
  subst e0 e3 e4 f0 f1 f2 f3 q0 q1 q2 q3 q4 q5 q6 q7 q8
  exact ⟨⟨z0, a, b0, b1, b2, b3, z3, s4⟩, rfl, ⟨hk.k, hk2⟩⟩
end Go.Proofs.YtechcdkakgpnkaaGreat
namespace Go.Proofs.YtechcdkakgpnkaaGreat
open Go.ChangeShapes Go.WideShapes Go.ChangeAt Go.RowKit Go.Deep
theorem Tryz.cellsMsg : Tryz.prog.cellsOf 34 = 43 := by kernel_rfl
theorem drop_cut {α : Type} (l : List α) (o n m : Nat) (h : o + n = m) : l.drop o = (l.drop o).take n ++ l.drop m := by
  subst h
  rw [← List.drop_drop, List.take_append_drop]
theorem cells_split {α : Type} (l : List α) (h : l.length = 43) : l = (l.drop 0).take 1 ++ ((l.drop 1).take 9 ++ ((l.drop 10).take 16 ++ ((l.drop 26).take 7 ++ ((l.drop 33).take 5 ++ ((l.drop 38).take 4 ++ (l.drop 42).take 1))))) := by
  have e : l.drop 43 = [] := List.drop_eq_nil_of_le (by omega)
  have k := drop_cut l 42 1 43 rfl
  rw [e, List.append_nil] at k
  rw [← k, ← drop_cut l 38 4 42 rfl, ← drop_cut l 33 5 38 rfl, ← drop_cut l 26 7 33 rfl, ← drop_cut l 10 16 26 rfl, ← drop_cut l 1 9 10 rfl, ← drop_cut l 0 1 1 rfl, List.drop_zero]
theorem four_of {α : Type} {l : List α} (h : l.length = 4) : ∃ c0 c1 c2 c3, l = [c0, c1, c2, c3] := by
  match l, h with
  | [c0, c1, c2, c3], _ => exact ⟨c0, c1, c2, c3, rfl⟩
set_option maxRecDepth 100000 in
set_option maxHeartbeats 1000000 in
theorem trod_msg {H : Type} {enc : TypeId × Value → H} {w : World} {base : Nat} {spare : Nat → Bool} {held : Bool} {fuel : Nat} {cs : List Value} {x : DataW H × List MemPlace}
    (h : DataW.trod enc Tryz.prog w base spare held fuel 34 cs = some x) :
    ∃ m : Ms, cs = msc m ∧ OkM m := by
  obtain ⟨xs, n, _, hx, hcl, hlen, hg⟩ := DataW.trod_struct Tryz.underlying34 h
  rw [Tryz.cellsMsg] at hcl
  match xs, hlen with
  | [y0, y1, y2, y3, y4, y5, y6], _ =>
  have h0 := hg 0 ⟨ "Kind", 3, 0, false, "", "", 0⟩ rfl
  have h1 := hg 1 ⟨ "Ask", 26, 1, false, "", "", 8⟩ rfl
  have h2 := hg 2 ⟨ "Bid", 28, 10, false, "", "", 88⟩ rfl
  have h3 := hg 3 ⟨ "Inv", 30, 26, false, "", "", 232⟩ rfl
  have h4 := hg 4 ⟨ "Var", 32, 33, false, "", "", 304⟩ rfl
  have h5 := hg 5 ⟨ "Fee", 24, 38, false, "", "", 344⟩ rfl
  have h6 := hg 6 ⟨ "Sig", 9, 42, false, "", "", 376⟩ rfl
  dsimp only at h0 h1 h2 h3 h4 h5 h6
  rw [Tryz.cellsInt] at h0
  rw [Tryz.cellsAsk] at h1
  rw [Tryz.cellsBid] at h2
  rw [Tryz.cellsInv] at h3
  rw [Tryz.cellsVar] at h4
  rw [Tryz.cells24] at h5
  rw [Tryz.cellsStr] at h6
  have hs := cells_split cs hcl
  obtain ⟨z0, e0, _, _⟩ := DataW.trod_int Tryz.underlying3 h0
  obtain ⟨a, ha, hka⟩ := trod_ask h1
  obtain ⟨b, hb, hkb⟩ := trod_bid h2
  obtain ⟨i, hi, _, _⟩ := trod_inv h3
  obtain ⟨v, hv, hkv⟩ := trod_var h4
  obtain ⟨c0, c1, c2, c3, hc⟩ := four_of (l := (cs.drop 38).take 4) (by rw [List.length_take, List.length_drop, hcl]; rfl)
  rw [hc] at h5 hs
  obtain ⟨b0, b1, b2, b3, g0, g1, g2, g3, hkf⟩ := trod_wide h5
  obtain ⟨s6, e6, _, _⟩ := DataW.trod_string Tryz.underlying9 h6
  rw [e0, ha, hb, hi, hv, e6, g0, g1, g2, g3] at hs
  exact ⟨⟨z0, a, b, i, v, b0, b1, b2, b3, s6⟩, hs, ⟨hka, hkb, hkv, hkf⟩⟩
set_option maxRecDepth 100000 in
theorem open_msg {H : Type} {enc : TypeId × Value → H} {r : Reach} {w : World} {b0 base : Nat} {spare : Nat → Bool} {held : Bool} {v : Value} {d : DataW H} {p : List MemPlace}
    (hv : Value.okWide Tryz.prog w r b0 34 v) (h : DataW.Trod enc Tryz.prog w base spare held 34 v d p) :
    ∃ m : Ms, v = msv m ∧ OkM m := by
  obtain ⟨cs, rfl⟩ := agg_of Tryz.underlying34 hv
  obtain ⟨fuel, hf⟩ := h
  obtain ⟨m, hc, h1⟩ := trod_msg hf
  refine ⟨m, ?_, h1⟩
  have : cs.toList = msc m := hc
  rw [show cs = (msc m).toArray from by rw [← this]]
end Go.Proofs.YtechcdkakgpnkaaGreat
