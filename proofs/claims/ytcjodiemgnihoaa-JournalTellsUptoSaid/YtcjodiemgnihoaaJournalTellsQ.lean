/-
  JournalTells answers true at every input of bulk 1048576 at most, and leaves its arguments as they are.
-/
import Derived.Laws.OwnMore
import Derived.Deep.Slices
import Derived.SizedLaws
import Derived.Carry
import Derived.JoinedCond
import Derived.ChangeMaps5
import Derived.Test.YtcjodiemgnihoaaK08
namespace Go.Proofs.Ytcjodiemgnihoaa
open Go.RowKit Go.Shelf
attribute [local irreducible] wpFrom wpAnyH StepH
theorem runAt_makeO {P : Program} {ops : Array Oper} {i : Nat} {a : Act} {w w' : World} {d : Option Tmp} {t : TypeId} {x y v : Value} (hr : (ops[i]?).map (fun o => (Region.wanted o (yielded ops a.tmps), o.dst, match o.op with | .makeSlice t' l c => some (t', a.eval l, a.eval c) | _ => none)) = some (true, d, some (t, x, y))) (h : (Instr.makeSlice t x y).run P w = .ok v w') : runAt P ops i a w = some (true, d, .ok (.value v) w') := by
  obtain ⟨o, ho⟩ := some_of hr
  rw [ho] at hr
  have h0 := Option.some.inj hr
  have h1 : Region.wanted o (yielded ops a.tmps) = true := congrArg Prod.fst h0
  have h2 : o.dst = d := congrArg (fun x => x.2.1) h0
  have h3 := congrArg (fun x => x.2.2) h0
  dsimp only at h3
  split at h3
  · rename_i t' l c hop
    obtain ⟨rfl, rfl, rfl⟩ := by simpa using h3
    unfold runAt
    rw [ho]
    simp only [Option.map_some]
    rw [h1, h2]
    unfold execOp
    simp only [hop, Sem.run_bind, h, Result.andThen_ok]
    rfl
  · cases h3
theorem makeO (W : World) (n : Nat) (hn : n ≤ 1048576) : ∃ W', (Instr.makeSlice 22 (.int .i64 (n : Int)) (.int .i64 (n : Int))).run Try.prog W = .ok (.slice (some ⟨W.heap.size, 0, none⟩) n n) W' ∧ BSl 0 W'.heap.size W' (.slice (some ⟨W.heap.size, 0, none⟩) n n) (List.replicate n 0) ∧ Below W.heap.size W W' := by
  obtain ⟨i0, hi, hz0, hz1, hz2⟩ := info_parts infoOct1
  obtain ⟨W', hrun, hO, hg⟩ := run_make_full W W.heap.size 22 5 i0 _ 1 Try.underlying22 hi hz0 hz1 .i64 .i64 n (by rw [hz2]; omega) (by unfold maxLen; omega) (Nat.le_refl _)
  refine ⟨W', hrun, ?_, ⟨hg.os, hg.tape, hg.output, hg.size, fun k hk => hg.block k hk (by simp)⟩⟩
  have e : (madeCells (Value.int .u8 0).cells (n * 1)).toList = (List.replicate n (0 : UInt8)).map bv := by
    rw [Nat.mul_one]
    apply List.ext_getElem?
    intro j
    by_cases hj : j < n
    · simp [madeCells, hj, Value.cells, Nat.mod_one]
    · simp [madeCells, hj, Value.cells]
  rw [e] at hO
  have hl : (List.replicate n (0 : UInt8)).length = n := List.length_replicate ..
  have hO2 : W'.ownsRow W.heap.size 5 1 (.slice (some ⟨W.heap.size, 0, none⟩) n n) (List.replicate n (0 : UInt8)).length ((List.replicate n (0 : UInt8)).map bv) := by rw [hl]; exact hO
  exact (BSl.of_own hO2).mono (Nat.zero_le _) (Nat.le_refl _)
theorem chainJ {n : Nat} {w W W' : World} (h : Below n w W) (hn : n ≤ W.heap.size) (h' : Below W.heap.size W W') : Below n w W' :=
  ⟨h'.os.trans h.os, h'.tape.trans h.tape, h'.output.trans h.output, Nat.le_trans h.size h'.size, fun k hk => (h'.block k (by omega)).trans (h.block k hk)⟩
theorem refNumL_any (n : Nat) (hn : n ≤ 140737488355328) (w : World) : Calls Try.prog 13 #[.int .i64 (n : Int), .int .i64 2] w (ByW (octs n 2) w) := by
  have h := refNum_any (n : Int) 2 (by decide) (by decide) w
  rw [show clamp 2 = 2 from rfl, show two (n : Int) = n by unfold two; omega] at h
  exact h
set_option maxRecDepth 100000 in
set_option maxHeartbeats 4000000 in
theorem journalTells_any (bs : List UInt8) (n : Int) {v : Value} (w : World) (hs : BSl 0 w.heap.size w v bs) (hln : bs.length ≤ 1048576) : Calls Try.prog 3 #[v, .int .i64 n] w fun e W' => e = .returned (.bool true) ∧ Below w.heap.size w W' := by
  have hmx : Try.prog.follows .mixedOrders = true := by kernel_rfl
  obtain ⟨pb, kb, rfl, _⟩ := hs.slice
  have Hs := Lib.hid hs
  have HLs := Lib.hid hln
  clear hs hln
  have hM := Sep.start w
  go_enter Try.func3, Try.ntmps3
  go_upto_region 0 with fail
  refine wp_region_fromM (fun W => Sep w [] [] W) hM ?_
  clear hM
  rintro Y1 hM
  refine tF 1 [.val 0 (some 4) (.bool false)] trivial ?_
  refine dF ?_
  try simp only [puts, Tk.put, Act.put, List.setIfInBounds_toArray, List.set_cons_zero, List.set_cons_succ]
  go_upto_region 1 with fail
  refine wp_region_fromM (fun W => Sep w [] [] W) hM ?_
  clear hM
  rintro Y2 hM
  refine cF (some 12) 7 #[] ((alive16_any _).mono ?_)
  rintro e Y3 ⟨rfl, hb⟩
  replace hM := hM.below hb
  clear hb
  refine tF 2 [.val 1 (some 13) (.bool false)] trivial ?_
  refine dF ?_
  try simp only [puts, Tk.put, Act.put, List.setIfInBounds_toArray, List.set_cons_zero, List.set_cons_succ]
  go_upto_region 3 with fail
  refine wp_region_fromM (fun W => Sep w [] [] W) hM ?_
  clear hM
  rintro Y4 hM
  refine tF 3 [.val 0 (some 14) (.int .i64 n), .val 1 (some 15) (.bool (decide (1000 < n))), .val 2 (some 16) (.bool (decide (1000 < n)))] trivial ?_
  cases hb1 : decide (1000 < n) with
  | false =>
    have Hhb1 := Lib.hid hb1
    clear hb1
    refine tF 6 [.skip 3 (some 17), .skip 4 (some 18), .val 5 (some 19) (.bool false)] trivial ?_
    refine dF ?_
    try simp only [puts, Tk.put, Act.put, List.setIfInBounds_toArray, List.set_cons_zero, List.set_cons_succ]
    go_upto_if 19 with fail
    go_cut [0] (fun u0 wc => ∃ b : List UInt8, b.length ≤ 1048576 ∧ BSl 0 wc.heap.size wc u0 b ∧ Below w.heap.size w wc)
    case first =>
      go_wp2_with fail
      go_meet
      exact ⟨bs, HLs.out, (Hs.out.below hM.b (Nat.le_refl _)).mono (Nat.le_refl _) hM.size, hM.b⟩
    case rest =>
      obtain ⟨b, hlb, hq, hB0⟩ := hcut
      have HLN := Lib.hid hlb
      have HB0 := Lib.hid hB0
      clear hlb hB0
      obtain ⟨pq, kq, rfl, _⟩ := hq.slice
      have Hq := Lib.hid hq
      clear hq
      have hM := Sep.start wc
      go_upto_region 5 with fail
      refine wp_region_fromM (fun W => Sep wc [] [] W) hM ?_
      clear hM
      rintro Y5 hM
      refine tF 1 [.val 0 (some 23) (.slice pq b.length kq)] trivial ?_
      refine cF (some 24) 8 #[.slice pq b.length kq] ((frame_any b _ ((Hq.out.below hM.b (Nat.le_refl _)).mono (Nat.le_refl _) hM.size)).mono ?_)
      rintro e Y7 ⟨v5o, rfl, hO, hb⟩
      replace hM := hM.octN hO hb
      clear hO hb
      obtain ⟨a5o, c5o, rfl, _⟩ := (hM.oka 0 rfl).octs.slice
      refine tF 7 [.val 2 (some 22) (.tuple #[.slice a5o (frmO b).length c5o, .int .i64 (errJ b)]), .val 3 (some 25) (.slice a5o (frmO b).length c5o), .val 4 (some 26) (.int .i64 (errJ b)), .val 5 (some 5) (.slice a5o (frmO b).length c5o), .val 6 (some 6) (.int .i64 (errJ b))] trivial ?_
      refine dF ?_
      try simp only [puts, Tk.put, Act.put, List.setIfInBounds_toArray, List.set_cons_zero, List.set_cons_succ]
      go_upto_region 6 with fail
      refine wp_region_fromM (fun W => Sep wc [] [.oct (.slice a5o (frmO b).length c5o) (frmO b)] W) hM ?_
      clear hM
      rintro Y8 hM
      refine tF 1 [.val 0 (some 28) (.slice pq b.length kq)] trivial ?_
      refine cF (some 29) 9 #[.slice pq b.length kq] ((split_any b _ (HLN.out) ((Hq.out.below hM.b (Nat.le_refl _)).mono (Nat.le_refl _) hM.size)).mono ?_)
      rintro e Y10 ⟨v8s, zs8, n8, rfl, hs, hR⟩
      have HS8 := Lib.hid hs
      clear hs
      replace hM := (hM.gain (Sep.close (ps := [.own zsc 22 1 (v8s) (zs8), .octs zs8]) (l := []) hR)).part
      clear hR
      replace hM : Sep wc [] [.own zsc 22 1 (v8s) (zs8), .octs zs8, .oct (.slice a5o (frmO b).length c5o) (frmO b)] Y10 := hM
      refine tF 7 [.val 2 (some 27) (.tuple #[v8s, .int .i64 (n8 : Int)]), .val 3 (some 30) (v8s), .val 4 (some 31) (.int .i64 (n8 : Int)), .val 5 (some 7) (v8s), .val 6 (some 8) (.int .i64 (n8 : Int))] trivial ?_
      refine dF ?_
      try simp only [puts, Tk.put, Act.put, List.setIfInBounds_toArray, List.set_cons_zero, List.set_cons_succ]
      go_upto_region 7 with fail
      refine wp_region_fromM (fun W => Sep wc [] [.own zsc 22 1 (v8s) (zs8), .octs zs8, .oct (.slice a5o (frmO b).length c5o) (frmO b)] W) hM ?_
      clear hM
      rintro Y11 hM
      refine tF 1 [.val 0 (some 33) (.slice pq b.length kq)] trivial ?_
      refine cF (some 34) 10 #[.slice pq b.length kq] ((split16_any b _ (HLN.out) Hq.out ((Hq.out.below hM.b (Nat.le_refl _)).mono (Nat.le_refl _) hM.size)).mono ?_)
      rintro e Y13 ⟨v11s, zs11, n11, rfl, hs, hh, hR⟩
      have HS11 := Lib.hid hs
      have HH11 := Lib.hid hh
      clear hs hh
      replace hM := hM.gain hR
      clear hR
      refine tF 7 [.val 2 (some 32) (.tuple #[v11s, .int .i64 (n11 : Int)]), .val 3 (some 35) (v11s), .val 4 (some 36) (.int .i64 (n11 : Int)), .val 5 (some 9) (v11s), .val 6 (some 10) (.int .i64 (n11 : Int))] trivial ?_
      refine dF ?_
      try simp only [puts, Tk.put, Act.put, List.setIfInBounds_toArray, List.set_cons_zero, List.set_cons_succ]
      go_upto_region 8 with fail
      have hone := spl_one HS8.out HS11.out
      have HTX := Lib.hid hone
      clear hone
      refine wp_region_fromM (fun W => Sep wc [] [.own zsc 22 1 (v11s) (zs11), .own zsc 22 1 (v8s) (zs8), .octs zs8, .oct (.slice a5o (frmO b).length c5o) (frmO b)] W) hM ?_
      clear hM
      rintro Y14 hM
      refine tF 2 [.val 0 (some 37) (v8s), .val 1 (some 38) (v11s)] trivial ?_
      refine cF (some 39) 11 #[v8s, v11s] ((lists_any _ ((hM.oka 1 rfl).rsl zsc_len) (Nat.le_refl _) ((hM.oka 0 rfl).rsl zsc_len) (Nat.le_refl _) ((hM.oka 2 rfl).hold) (HH11.out.up hM.b) (HTX.out.1)).mono ?_)
      rintro e Y15 ⟨rfl, hb⟩
      replace hM := hM.below hb
      clear hb
      refine tF 9 [.val 3 (some 40) (.bool false), .val 4 (some 41) (.bool false), .val 5 (some 42) (.int .i64 (n8 : Int)), .val 6 (some 43) (.int .i64 (n11 : Int)), .alt 7 (some 44) (.bool ((n8 : Int) != (n11 : Int))) (.bool false), .val 8 (some 45) (.bool false)] ⟨congrArg Value.bool ((by rw [HTX.out.2]; exact bne_self_eq_false _)), trivial⟩ ?_
      refine dF ?_
      try simp only [puts, Tk.put, Act.put, List.setIfInBounds_toArray, List.set_cons_zero, List.set_cons_succ]
      go_upto_region 10 with fail
      refine wp_region_fromM (fun W => Sep wc [] [.own zsc 22 1 (v11s) (zs11), .own zsc 22 1 (v8s) (zs8), .octs zs8, .oct (.slice a5o (frmO b).length c5o) (frmO b)] W) hM ?_
      clear hM
      rintro Y16 hM
      refine tF 3 [.val 0 (some 46) (.slice pq b.length kq), .val 1 (some 47) (.int .i64 (b.length : Int)), .val 2 (some 48) (.bool (decide (1024 < (b.length : Int))))] trivial ?_
      refine dF ?_
      try simp only [puts, Tk.put, Act.put, List.setIfInBounds_toArray, List.set_cons_zero, List.set_cons_succ]
      cases hb2 : decide (1024 < (b.length : Int)) with
      | false =>
        have Hhb2 := Lib.hid hb2
        clear hb2
        have HE := Lib.hid (frm_ok (l := b) (of_decide_eq_false Hhb2.out))
        have HLE : Hid (b.length ≤ 1024) := Lib.hid (by have h := of_decide_eq_false Hhb2.out; omega)
        go_upto_region 12 with fail
        refine wp_region_fromM (fun W => Sep wc [] [.own zsc 22 1 (v11s) (zs11), .own zsc 22 1 (v8s) (zs8), .octs zs8, .oct (.slice a5o (frmO b).length c5o) (frmO b)] W) hM ?_
        clear hM
        rintro Y17 hM
        refine tF 2 [.val 0 (some 56) (.slice pq b.length kq), .val 1 (some 57) (.int .i64 (b.length : Int))] trivial ?_
        refine cF (some 58) 13 #[.int .i64 (b.length : Int), .int .i64 2] ((refNumL_any b.length (by have h := HLE.out; omega) _).mono ?_)
        rintro e Y18 ⟨v18o, rfl, hO, hb⟩
        replace hM := hM.octN hO hb
        clear hO hb
        obtain ⟨a18o, c18o, rfl, _⟩ := (hM.oka 0 rfl).octs.slice
        refine tF 4 [.val 3 (some 59) (.slice pq b.length kq)] trivial ?_
        refine cF (some 60) 14 #[.slice pq b.length kq] ((refSumW_any b _ _ (by have h := HLE.out; omega) ((Hq.out.below hM.b (Nat.le_refl _)).mono (Nat.le_refl _) hM.size)).mono ?_)
        rintro e Y20 ⟨v20o, rfl, hO, hb⟩
        replace hM := hM.octN hO hb
        clear hO hb
        obtain ⟨a20o, c20o, rfl, _⟩ := (hM.oka 0 rfl).octs.slice
        obtain ⟨a21c, c21c, hrun21, hcb21, _⟩ := cutH (hM.oka 0 rfl).octs (j := 4) rfl (by rw [sumL_len]; decide)
        have HR21 := Lib.hid hrun21
        have HC21 := Lib.hid hcb21
        clear hrun21 hcb21
        refine tF 6 [.slc 5 (some 61) 22 (.slice a20o (sumL cb sq b).length c20o) none (some (.int .i64 4)) none (.slice a21c (hd4 b).length c21c)] ⟨HR21.out _, trivial⟩ ?_
        refine cF (some 62) 12 #[.slice a18o (octs b.length 2).length c18o, .slice a21c (hd4 b).length c21c] ((refCat_any (octs b.length 2) (hd4 b) _ _ _ (by have h := HLE.out; have h1 := hd4_len b; have h2 := octs_length b.length 2; first | omega | (rw [List.length_append]; omega)) ((hM.oka 1 rfl).octs) (HC21.out _ _ _ (hM.oka 0 rfl).octs)).mono ?_)
        rintro e Y23 ⟨v23o, rfl, hO, hb⟩
        replace hM := hM.octN (BSl.of_own hO) hb
        clear hO hb
        obtain ⟨a23o, c23o, rfl, _⟩ := (hM.oka 0 rfl).octs.slice
        refine tF 8 [.val 7 (some 63) (.slice pq b.length kq)] trivial ?_
        refine cF (some 64) 12 #[.slice a23o ((octs b.length 2) ++ (hd4 b)).length c23o, .slice pq b.length kq] ((refCat_any ((octs b.length 2) ++ (hd4 b)) b _ _ _ (by have h := HLE.out; have h1 := hd4_len b; have h2 := octs_length b.length 2; first | omega | (rw [List.length_append]; omega)) ((hM.oka 0 rfl).octs) ((Hq.out.below hM.b (Nat.le_refl _)).mono (Nat.le_refl _) hM.size)).mono ?_)
        rintro e Y25 ⟨v25o, rfl, hO, hb⟩
        replace hM := hM.octN (BSl.of_own hO) hb
        clear hO hb
        obtain ⟨a25o, c25o, rfl, _⟩ := (hM.oka 0 rfl).octs.slice
        refine tF 10 [.val 9 (some 11) (.slice a25o (((octs b.length 2) ++ (hd4 b)) ++ b).length c25o)] trivial ?_
        refine dF ?_
        try simp only [puts, Tk.put, Act.put, List.setIfInBounds_toArray, List.set_cons_zero, List.set_cons_succ]
        go_upto_region 13 with fail
        refine wp_region_fromM (fun W => Sep wc [] [.oct (.slice a25o (((octs b.length 2) ++ (hd4 b)) ++ b).length c25o) (((octs b.length 2) ++ (hd4 b)) ++ b), .oct (.slice a23o ((octs b.length 2) ++ (hd4 b)).length c23o) ((octs b.length 2) ++ (hd4 b)), .oct (.slice a20o (sumL cb sq b).length c20o) (sumL cb sq b), .oct (.slice a18o (octs b.length 2).length c18o) (octs b.length 2), .own zsc 22 1 (v11s) (zs11), .own zsc 22 1 (v8s) (zs8), .octs zs8, .oct (.slice a5o (frmO b).length c5o) (frmO b)] W) hM ?_
        clear hM
        rintro Y27 hM
        refine tF 4 [.val 0 (some 65) (.int .i64 (errJ b)), .alt 1 (some 66) (.bool ((errJ b) == 0)) (.bool true), .val 2 (some 67) (.bool true), .val 3 (some 68) (.slice a5o (frmO b).length c5o)] ⟨congrArg Value.bool ((by rw [HE.out.1]; rfl)), trivial⟩ ?_
        refine cvF (.tmp 68) (some 69) (.slice a5o (frmO b).length c5o) (.string (txB (frmO b))) (cvT (hM.oka 7 rfl).octs) ?_
        refine tF 6 [.val 5 (some 70) (.slice a25o (((octs b.length 2) ++ (hd4 b)) ++ b).length c25o)] trivial ?_
        refine cvF (.tmp 70) (some 71) (.slice a25o (((octs b.length 2) ++ (hd4 b)) ++ b).length c25o) (.string (txB (((octs b.length 2) ++ (hd4 b)) ++ b))) (cvT (hM.oka 0 rfl).octs) ?_
        refine tF 10 [.alt 7 (some 72) (.bool ((txB (frmO b)).toList == (txB (((octs b.length 2) ++ (hd4 b)) ++ b)).toList)) (.bool true), .val 8 (some 73) (.bool true), .val 9 (some 4) (.bool true)] ⟨congrArg Value.bool (by rw [txEq, HE.out.2]; exact decide_eq_true (List.append_assoc _ _ _).symm), trivial⟩ ?_
        refine dF ?_
        try simp only [puts, Tk.put, Act.put, List.setIfInBounds_toArray, List.set_cons_zero, List.set_cons_succ]
        go_wp2_with fail
        go_ret
        exact ⟨rfl, chainJ HB0.out HB0.out.size hM.b⟩
      | true =>
        have Hhb2 := Lib.hid hb2
        clear hb2
        have HE := Lib.hid (frm_no (l := b) (of_decide_eq_true Hhb2.out))
        go_upto_region 11 with fail
        refine wp_region_fromM (fun W => Sep wc [] [.own zsc 22 1 (v11s) (zs11), .own zsc 22 1 (v8s) (zs8), .octs zs8, .oct (.slice a5o (frmO b).length c5o) (frmO b)] W) hM ?_
        clear hM
        rintro Y28 hM
        refine tF 8 [.val 0 (some 49) (.int .i64 (errJ b)), .alt 1 (some 50) (.bool ((errJ b) == 5)) (.bool true), .val 2 (some 51) (.bool true), .val 3 (some 52) (.slice a5o (frmO b).length c5o), .val 4 (some 53) (.int .i64 ((frmO b).length : Int)), .alt 5 (some 54) (.bool (((frmO b).length : Int) == 0)) (.bool true), .val 6 (some 55) (.bool true), .val 7 (some 4) (.bool true)] ⟨congrArg Value.bool ((by rw [HE.out.1]; rfl)), congrArg Value.bool ((by rw [HE.out.2]; rfl)), trivial⟩ ?_
        refine dF ?_
        try simp only [puts, Tk.put, Act.put, List.setIfInBounds_toArray, List.set_cons_zero, List.set_cons_succ]
        go_wp2_with fail
        go_ret
        exact ⟨rfl, chainJ HB0.out HB0.out.size hM.b⟩
  | true =>
    have Hhb1 := Lib.hid hb1
    clear hb1
    refine tF 6 [.val 3 (some 17) (.int .i64 n), .val 4 (some 18) (.bool (decide (n < 1100))), .val 5 (some 19) (.bool (decide (n < 1100)))] trivial ?_
    refine dF ?_
    try simp only [puts, Tk.put, Act.put, List.setIfInBounds_toArray, List.set_cons_zero, List.set_cons_succ]
    go_upto_if 19 with fail
    go_cut [0] (fun u0 wc => ∃ b : List UInt8, b.length ≤ 1048576 ∧ BSl 0 wc.heap.size wc u0 b ∧ Below w.heap.size w wc)
    case first =>
      cases hb3 : decide (n < 1100) with
      | false =>
        have Hhb3 := Lib.hid hb3
        clear hb3
        go_wp2_with fail
        go_meet
        exact ⟨bs, HLs.out, (Hs.out.below hM.b (Nat.le_refl _)).mono (Nat.le_refl _) hM.size, hM.b⟩
      | true =>
        have Hhb3 := Lib.hid hb3
        clear hb3
        go_upto_region 4 with fail
        refine wp_region_fromM (fun W => Sep w [] [] W) hM ?_
        clear hM
        rintro Y29 hM
        refine tF 1 [.val 0 (some 20) (.int .i64 n)] trivial ?_
        obtain ⟨m, hm⟩ : ∃ m : Nat, n = (m : Int) := ⟨n.toNat, by have h := of_decide_eq_true Hhb1.out; omega⟩
        have hmn : m ≤ 1048576 := by have h := of_decide_eq_true Hhb3.out; omega
        obtain ⟨Y30, hrun, hmk, hb⟩ := makeO Y29 m hmn
        rw [← hm] at hrun
        replace hM := hM.below hb
        have HMN := Lib.hid hmn
        have HMK := Lib.hid hmk
        refine rF (some 21) (.slice (some ⟨Y29.heap.size, 0, none⟩) m m) Y30 ?_ (runAt_makeO (by kernel_rfl) hrun)
        clear hrun hmk hb hmn hm
        refine tF 3 [.val 2 (some 0) (.slice (some ⟨Y29.heap.size, 0, none⟩) m m)] trivial ?_
        refine dF ?_
        try simp only [puts, Tk.put, Act.put, List.setIfInBounds_toArray, List.set_cons_zero, List.set_cons_succ]
        go_wp2_with fail
        go_meet
        exact ⟨List.replicate m 0, by rw [List.length_replicate]; exact HMN.out, HMK.out, hM.b⟩
    case rest =>
      obtain ⟨b, hlb, hq, hB0⟩ := hcut
      have HLN := Lib.hid hlb
      have HB0 := Lib.hid hB0
      clear hlb hB0
      obtain ⟨pq, kq, rfl, _⟩ := hq.slice
      have Hq := Lib.hid hq
      clear hq
      have hM := Sep.start wc
      go_upto_region 5 with fail
      refine wp_region_fromM (fun W => Sep wc [] [] W) hM ?_
      clear hM
      rintro Y31 hM
      refine tF 1 [.val 0 (some 23) (.slice pq b.length kq)] trivial ?_
      refine cF (some 24) 8 #[.slice pq b.length kq] ((frame_any b _ ((Hq.out.below hM.b (Nat.le_refl _)).mono (Nat.le_refl _) hM.size)).mono ?_)
      rintro e Y33 ⟨v31o, rfl, hO, hb⟩
      replace hM := hM.octN hO hb
      clear hO hb
      obtain ⟨a31o, c31o, rfl, _⟩ := (hM.oka 0 rfl).octs.slice
      refine tF 7 [.val 2 (some 22) (.tuple #[.slice a31o (frmO b).length c31o, .int .i64 (errJ b)]), .val 3 (some 25) (.slice a31o (frmO b).length c31o), .val 4 (some 26) (.int .i64 (errJ b)), .val 5 (some 5) (.slice a31o (frmO b).length c31o), .val 6 (some 6) (.int .i64 (errJ b))] trivial ?_
      refine dF ?_
      try simp only [puts, Tk.put, Act.put, List.setIfInBounds_toArray, List.set_cons_zero, List.set_cons_succ]
      go_upto_region 6 with fail
      refine wp_region_fromM (fun W => Sep wc [] [.oct (.slice a31o (frmO b).length c31o) (frmO b)] W) hM ?_
      clear hM
      rintro Y34 hM
      refine tF 1 [.val 0 (some 28) (.slice pq b.length kq)] trivial ?_
      refine cF (some 29) 9 #[.slice pq b.length kq] ((split_any b _ (HLN.out) ((Hq.out.below hM.b (Nat.le_refl _)).mono (Nat.le_refl _) hM.size)).mono ?_)
      rintro e Y36 ⟨v34s, zs34, n34, rfl, hs, hR⟩
      have HS34 := Lib.hid hs
      clear hs
      replace hM := (hM.gain (Sep.close (ps := [.own zsc 22 1 (v34s) (zs34), .octs zs34]) (l := []) hR)).part
      clear hR
      replace hM : Sep wc [] [.own zsc 22 1 (v34s) (zs34), .octs zs34, .oct (.slice a31o (frmO b).length c31o) (frmO b)] Y36 := hM
      refine tF 7 [.val 2 (some 27) (.tuple #[v34s, .int .i64 (n34 : Int)]), .val 3 (some 30) (v34s), .val 4 (some 31) (.int .i64 (n34 : Int)), .val 5 (some 7) (v34s), .val 6 (some 8) (.int .i64 (n34 : Int))] trivial ?_
      refine dF ?_
      try simp only [puts, Tk.put, Act.put, List.setIfInBounds_toArray, List.set_cons_zero, List.set_cons_succ]
      go_upto_region 7 with fail
      refine wp_region_fromM (fun W => Sep wc [] [.own zsc 22 1 (v34s) (zs34), .octs zs34, .oct (.slice a31o (frmO b).length c31o) (frmO b)] W) hM ?_
      clear hM
      rintro Y37 hM
      refine tF 1 [.val 0 (some 33) (.slice pq b.length kq)] trivial ?_
      refine cF (some 34) 10 #[.slice pq b.length kq] ((split16_any b _ (HLN.out) Hq.out ((Hq.out.below hM.b (Nat.le_refl _)).mono (Nat.le_refl _) hM.size)).mono ?_)
      rintro e Y39 ⟨v37s, zs37, n37, rfl, hs, hh, hR⟩
      have HS37 := Lib.hid hs
      have HH37 := Lib.hid hh
      clear hs hh
      replace hM := hM.gain hR
      clear hR
      refine tF 7 [.val 2 (some 32) (.tuple #[v37s, .int .i64 (n37 : Int)]), .val 3 (some 35) (v37s), .val 4 (some 36) (.int .i64 (n37 : Int)), .val 5 (some 9) (v37s), .val 6 (some 10) (.int .i64 (n37 : Int))] trivial ?_
      refine dF ?_
      try simp only [puts, Tk.put, Act.put, List.setIfInBounds_toArray, List.set_cons_zero, List.set_cons_succ]
      go_upto_region 8 with fail
      have hone := spl_one HS34.out HS37.out
      have HTX := Lib.hid hone
      clear hone
      refine wp_region_fromM (fun W => Sep wc [] [.own zsc 22 1 (v37s) (zs37), .own zsc 22 1 (v34s) (zs34), .octs zs34, .oct (.slice a31o (frmO b).length c31o) (frmO b)] W) hM ?_
      clear hM
      rintro Y40 hM
      refine tF 2 [.val 0 (some 37) (v34s), .val 1 (some 38) (v37s)] trivial ?_
      refine cF (some 39) 11 #[v34s, v37s] ((lists_any _ ((hM.oka 1 rfl).rsl zsc_len) (Nat.le_refl _) ((hM.oka 0 rfl).rsl zsc_len) (Nat.le_refl _) ((hM.oka 2 rfl).hold) (HH37.out.up hM.b) (HTX.out.1)).mono ?_)
      rintro e Y41 ⟨rfl, hb⟩
      replace hM := hM.below hb
      clear hb
      refine tF 9 [.val 3 (some 40) (.bool false), .val 4 (some 41) (.bool false), .val 5 (some 42) (.int .i64 (n34 : Int)), .val 6 (some 43) (.int .i64 (n37 : Int)), .alt 7 (some 44) (.bool ((n34 : Int) != (n37 : Int))) (.bool false), .val 8 (some 45) (.bool false)] ⟨congrArg Value.bool ((by rw [HTX.out.2]; exact bne_self_eq_false _)), trivial⟩ ?_
      refine dF ?_
      try simp only [puts, Tk.put, Act.put, List.setIfInBounds_toArray, List.set_cons_zero, List.set_cons_succ]
      go_upto_region 10 with fail
      refine wp_region_fromM (fun W => Sep wc [] [.own zsc 22 1 (v37s) (zs37), .own zsc 22 1 (v34s) (zs34), .octs zs34, .oct (.slice a31o (frmO b).length c31o) (frmO b)] W) hM ?_
      clear hM
      rintro Y42 hM
      refine tF 3 [.val 0 (some 46) (.slice pq b.length kq), .val 1 (some 47) (.int .i64 (b.length : Int)), .val 2 (some 48) (.bool (decide (1024 < (b.length : Int))))] trivial ?_
      refine dF ?_
      try simp only [puts, Tk.put, Act.put, List.setIfInBounds_toArray, List.set_cons_zero, List.set_cons_succ]
      cases hb4 : decide (1024 < (b.length : Int)) with
      | false =>
        have Hhb4 := Lib.hid hb4
        clear hb4
        have HE := Lib.hid (frm_ok (l := b) (of_decide_eq_false Hhb4.out))
        have HLE : Hid (b.length ≤ 1024) := Lib.hid (by have h := of_decide_eq_false Hhb4.out; omega)
        go_upto_region 12 with fail
        refine wp_region_fromM (fun W => Sep wc [] [.own zsc 22 1 (v37s) (zs37), .own zsc 22 1 (v34s) (zs34), .octs zs34, .oct (.slice a31o (frmO b).length c31o) (frmO b)] W) hM ?_
        clear hM
        rintro Y43 hM
        refine tF 2 [.val 0 (some 56) (.slice pq b.length kq), .val 1 (some 57) (.int .i64 (b.length : Int))] trivial ?_
        refine cF (some 58) 13 #[.int .i64 (b.length : Int), .int .i64 2] ((refNumL_any b.length (by have h := HLE.out; omega) _).mono ?_)
        rintro e Y44 ⟨v44o, rfl, hO, hb⟩
        replace hM := hM.octN hO hb
        clear hO hb
        obtain ⟨a44o, c44o, rfl, _⟩ := (hM.oka 0 rfl).octs.slice
        refine tF 4 [.val 3 (some 59) (.slice pq b.length kq)] trivial ?_
        refine cF (some 60) 14 #[.slice pq b.length kq] ((refSumW_any b _ _ (by have h := HLE.out; omega) ((Hq.out.below hM.b (Nat.le_refl _)).mono (Nat.le_refl _) hM.size)).mono ?_)
        rintro e Y46 ⟨v46o, rfl, hO, hb⟩
        replace hM := hM.octN hO hb
        clear hO hb
        obtain ⟨a46o, c46o, rfl, _⟩ := (hM.oka 0 rfl).octs.slice
        obtain ⟨a47c, c47c, hrun47, hcb47, _⟩ := cutH (hM.oka 0 rfl).octs (j := 4) rfl (by rw [sumL_len]; decide)
        have HR47 := Lib.hid hrun47
        have HC47 := Lib.hid hcb47
        clear hrun47 hcb47
        refine tF 6 [.slc 5 (some 61) 22 (.slice a46o (sumL cb sq b).length c46o) none (some (.int .i64 4)) none (.slice a47c (hd4 b).length c47c)] ⟨HR47.out _, trivial⟩ ?_
        refine cF (some 62) 12 #[.slice a44o (octs b.length 2).length c44o, .slice a47c (hd4 b).length c47c] ((refCat_any (octs b.length 2) (hd4 b) _ _ _ (by have h := HLE.out; have h1 := hd4_len b; have h2 := octs_length b.length 2; first | omega | (rw [List.length_append]; omega)) ((hM.oka 1 rfl).octs) (HC47.out _ _ _ (hM.oka 0 rfl).octs)).mono ?_)
        rintro e Y49 ⟨v49o, rfl, hO, hb⟩
        replace hM := hM.octN (BSl.of_own hO) hb
        clear hO hb
        obtain ⟨a49o, c49o, rfl, _⟩ := (hM.oka 0 rfl).octs.slice
        refine tF 8 [.val 7 (some 63) (.slice pq b.length kq)] trivial ?_
        refine cF (some 64) 12 #[.slice a49o ((octs b.length 2) ++ (hd4 b)).length c49o, .slice pq b.length kq] ((refCat_any ((octs b.length 2) ++ (hd4 b)) b _ _ _ (by have h := HLE.out; have h1 := hd4_len b; have h2 := octs_length b.length 2; first | omega | (rw [List.length_append]; omega)) ((hM.oka 0 rfl).octs) ((Hq.out.below hM.b (Nat.le_refl _)).mono (Nat.le_refl _) hM.size)).mono ?_)
        rintro e Y51 ⟨v51o, rfl, hO, hb⟩
        replace hM := hM.octN (BSl.of_own hO) hb
        clear hO hb
        obtain ⟨a51o, c51o, rfl, _⟩ := (hM.oka 0 rfl).octs.slice
        refine tF 10 [.val 9 (some 11) (.slice a51o (((octs b.length 2) ++ (hd4 b)) ++ b).length c51o)] trivial ?_
        refine dF ?_
        try simp only [puts, Tk.put, Act.put, List.setIfInBounds_toArray, List.set_cons_zero, List.set_cons_succ]
        go_upto_region 13 with fail
        refine wp_region_fromM (fun W => Sep wc [] [.oct (.slice a51o (((octs b.length 2) ++ (hd4 b)) ++ b).length c51o) (((octs b.length 2) ++ (hd4 b)) ++ b), .oct (.slice a49o ((octs b.length 2) ++ (hd4 b)).length c49o) ((octs b.length 2) ++ (hd4 b)), .oct (.slice a46o (sumL cb sq b).length c46o) (sumL cb sq b), .oct (.slice a44o (octs b.length 2).length c44o) (octs b.length 2), .own zsc 22 1 (v37s) (zs37), .own zsc 22 1 (v34s) (zs34), .octs zs34, .oct (.slice a31o (frmO b).length c31o) (frmO b)] W) hM ?_
        clear hM
        rintro Y53 hM
        refine tF 4 [.val 0 (some 65) (.int .i64 (errJ b)), .alt 1 (some 66) (.bool ((errJ b) == 0)) (.bool true), .val 2 (some 67) (.bool true), .val 3 (some 68) (.slice a31o (frmO b).length c31o)] ⟨congrArg Value.bool ((by rw [HE.out.1]; rfl)), trivial⟩ ?_
        refine cvF (.tmp 68) (some 69) (.slice a31o (frmO b).length c31o) (.string (txB (frmO b))) (cvT (hM.oka 7 rfl).octs) ?_
        refine tF 6 [.val 5 (some 70) (.slice a51o (((octs b.length 2) ++ (hd4 b)) ++ b).length c51o)] trivial ?_
        refine cvF (.tmp 70) (some 71) (.slice a51o (((octs b.length 2) ++ (hd4 b)) ++ b).length c51o) (.string (txB (((octs b.length 2) ++ (hd4 b)) ++ b))) (cvT (hM.oka 0 rfl).octs) ?_
        refine tF 10 [.alt 7 (some 72) (.bool ((txB (frmO b)).toList == (txB (((octs b.length 2) ++ (hd4 b)) ++ b)).toList)) (.bool true), .val 8 (some 73) (.bool true), .val 9 (some 4) (.bool true)] ⟨congrArg Value.bool (by rw [txEq, HE.out.2]; exact decide_eq_true (List.append_assoc _ _ _).symm), trivial⟩ ?_
        refine dF ?_
        try simp only [puts, Tk.put, Act.put, List.setIfInBounds_toArray, List.set_cons_zero, List.set_cons_succ]
        go_wp2_with fail
        go_ret
        exact ⟨rfl, chainJ HB0.out HB0.out.size hM.b⟩
      | true =>
        have Hhb4 := Lib.hid hb4
        clear hb4
        have HE := Lib.hid (frm_no (l := b) (of_decide_eq_true Hhb4.out))
        go_upto_region 11 with fail
        refine wp_region_fromM (fun W => Sep wc [] [.own zsc 22 1 (v37s) (zs37), .own zsc 22 1 (v34s) (zs34), .octs zs34, .oct (.slice a31o (frmO b).length c31o) (frmO b)] W) hM ?_
        clear hM
        rintro Y54 hM
        refine tF 8 [.val 0 (some 49) (.int .i64 (errJ b)), .alt 1 (some 50) (.bool ((errJ b) == 5)) (.bool true), .val 2 (some 51) (.bool true), .val 3 (some 52) (.slice a31o (frmO b).length c31o), .val 4 (some 53) (.int .i64 ((frmO b).length : Int)), .alt 5 (some 54) (.bool (((frmO b).length : Int) == 0)) (.bool true), .val 6 (some 55) (.bool true), .val 7 (some 4) (.bool true)] ⟨congrArg Value.bool ((by rw [HE.out.1]; rfl)), congrArg Value.bool ((by rw [HE.out.2]; rfl)), trivial⟩ ?_
        refine dF ?_
        try simp only [puts, Tk.put, Act.put, List.setIfInBounds_toArray, List.set_cons_zero, List.set_cons_succ]
        go_wp2_with fail
        go_ret
        exact ⟨rfl, chainJ HB0.out HB0.out.size hM.b⟩
end Go.Proofs.Ytcjodiemgnihoaa
namespace Go.Proofs.Ytcjodiemgnihoaa
open Go.ChangeShapes Go.WideShapes Go.ChangeAt Go.RowKit Go.Deep
open Go.ChangeMaps (open_string)
set_option maxRecDepth 100000 in
theorem journalTells_contract (H : Type) (enc : TypeId × Value → H) (W : World) (base : Nat) (args : Array Value) (ds gs : List (DataW H)) (before : List MemPlace)
    (hval0 : ∀ (j : Nat) t v, Try.f3.params[j]? = some t → args[j]? = some v → Value.okWide Try.prog W .any base t v)
    (hW : DataW.Whole enc Try.prog Try.f3.params.toList Rows.journalTellsSpec.vars false W args.toList ds gs before) (hk : Rows.uptoSmall H (ds ++ gs) = true) :
    Calls Try.prog 3 args W fun e W' => ∃ v, e = .returned v ∧ Rows.journalTellsSpec.post enc Try.prog Try.f3 false true false false W args v W' := by
  have hval : ∀ (j : Nat) t v, Try.f3.params[j]? = some t → args[j]? = some v → Value.okWide Try.prog W .any base t v := hval0
  have hW' := hW
  obtain ⟨p, q, hA0, hV, rfl, hfz, hnd⟩ := hW
  have hA : DataW.TrodAll enc Try.prog W 0 (fun _ => true) true Try.f3.params.toList args.toList ds p := hA0
  rw [Try.params3] at hA hval
  obtain ⟨v0, v1, d0, d1, p0, p1, rfl, rfl, rfl, h0, h1⟩ := trodAll_two hA
  obtain ⟨rfl, rfl⟩ := trodVars_none hV
  have hbulk := bulk_all (ds := [d0, d1]) hk
  simp only [Rows.uptoBulkAll] at hbulk
  obtain ⟨a0, len0, cap0, rfl⟩ := okWide_slice Try.underlying22 (hval 0 22 v0 rfl rfl)
  have k0 := h0
  have k1 := h1
  have lt0 : ∀ x ∈ p0, x.block < W.heap.size := by obtain ⟨m, hm⟩ := k0; exact DataW.trod_lt m _ _ _ hm
  have lt1 : ∀ x ∈ p1, x.block < W.heap.size := by obtain ⟨m, hm⟩ := k1; exact DataW.trod_lt m _ _ _ hm
  obtain ⟨l0, hsl0, hq0⟩ := open_bytesU h0
  have hn0 : l0.length ≤ 1048576 := by omega
  obtain ⟨z1, rfl, _, _, wf1⟩ := open_int Try.underlying3 (hval 1 3 v1 rfl rfl) h1
  clear hA0 hval0
  refine (journalTells_any l0 z1 W hsl0 hn0).mono fun e W' ⟨he, bel⟩ => ?_
  subst he
  exact ⟨_, rfl, _, _, _, [], _, [], hW', trodAll_mk1 (shut_bool Try.underlying4 _), (trodAll_mk2 (Below.trod Try.laidOut (by kernel_rfl) (of_decide_eq_true (by kernel_rfl)) k0 bel lt0) (Below.trod Try.laidOut (by kernel_rfl) (of_decide_eq_true (by kernel_rfl)) k1 bel lt1)), rfl, bel.frame _, fun h => by cases h⟩
set_option maxRecDepth 100000 in
theorem journalTells_lifted (os : Os) (started : os.Started) (H : Type) (enc : TypeId × Value → H) (F : Stop.Interp) :
    ReturnsInHanded {} Try.checked os 3 .any ((Rows.OpenSpec.upto Rows.journalTellsSpec).pre6 enc Try.prog Try.f3 Rows.journalTellsUptoRow.domain false) (((Rows.OpenSpec.upto Rows.journalTellsSpec).at F).post enc Try.prog Try.f3 false true false false) := by
  refine returnsInHanded_of_cond (C := Try.checked) (s := Rows.OpenSpec.upto Rows.journalTellsSpec) (k := Rows.uptoSmall) rfl Try.own started (by kernel_rfl) Try.func3
    (OpenSpec.witness (enc := enc) (C := Try.checked) (s := Rows.OpenSpec.upto Rows.journalTellsSpec) (k := Rows.uptoSmall) rfl false ⟨#[], #[.slice none 0 0, .int .i64 0], []⟩ 8 (by kernel_rfl) (by kernel_rfl) (by kernel_rfl)
      (x := ([.nil, .lit (.int .i64 0)], [], [])) (by kernel_rfl) rfl (by kernel_rfl)) ?_
  intro W base args ds gs before hval hW _ hk _
  exact journalTells_contract H enc W base args ds gs before hval hW hk
theorem journalTells_proved : Rows.JournalTellsUptoSaid :=
  OpenClaim.holds_of_cond 3 Try.f3 rfl rfl rfl rfl rfl rfl rfl ⟨rfl, rfl, rfl, rfl, rfl⟩ rfl rfl rfl rfl rfl (by kernel_rfl) Try.func3 (by kernel_rfl)
    (of_decide_eq_true (by kernel_rfl)) (by unfold Func.isWrapper; first | (rw [if_pos (by decide +kernel)]; kernel_rfl) | (rw [if_neg (by decide +kernel)]; exact ⟨rfl, rfl⟩))
    (fun os started H enc _ F => journalTells_lifted os started H enc F)
end Go.Proofs.Ytcjodiemgnihoaa
