/-
  ChainWaits answers true at every input, and leaves its arguments as they are.
-/
import Derived.Deep.Slices
import Derived.SizedLaws
import Derived.Carry
import Derived.ChangeMaps5
import Derived.Test.YtfoemkmoambagaaGreatK14
namespace Go.Proofs.YtfoemkmoambagaaGreat
open Go.RowKit Go.Shelf
attribute [local irreducible] wpFrom wpAnyH StepH
set_option maxRecDepth 100000 in
set_option maxHeartbeats 4000000 in
theorem chainWaits_any (l : List Tr) (a kd at' f : Int) (lv : Value) (w : World) {lo hi : Nat} (hl : RSl (fun t => txc t) lo hi w lv l) (hhi : hi ≤ w.heap.size) (hok : ∀ x ∈ l, OkT x) (hlen : l.length ≤ 140737488351232) : Calls Tryz.prog 4 #[lv, .int .i64 a, .int .i64 kd, .int .i64 at', .int .i64 f] w fun e W' => e = .returned (.bool true) ∧ Below w.heap.size w W' := by
  have hmx : Tryz.prog.follows .mixedOrders = true := by kernel_rfl
  have HET := Lib.hid (fun k x (hx : l[k]? = some x) => hl.elem txc_25 hx Tryz.underlying37 (fun W => by kernel_rfl))
  obtain ⟨pl, cl, rfl⟩ := hl.slice
  have HLT := Lib.hid hl
  have HHT := Lib.hid hhi
  have HOK := Lib.hid hok
  have HML := Lib.hid hlen
  clear hl hhi hok hlen
  have hM := Sep.start w
  go_enter Tryz.func4, Tryz.ntmps4
  go_upto_region 1 with fail
  refine wp_region_fromM (fun W => Sep w [] [] W) hM ?_
  clear hM
  rintro Y1 hM
  refine cF (some 22) 7 #[] ((alive13_any _).mono ?_)
  rintro e W1 ⟨rfl, hb⟩
  replace hM := hM.below hb
  clear hb
  refine tF 2 [.val 1 (some 23) (.bool false)] trivial ?_
  refine dF ?_
  try simp only [puts, Tk.put, Act.put, List.setIfInBounds_toArray, List.set_cons_zero, List.set_cons_succ]
  go_upto_region 3 with fail
  refine wp_region_fromM (fun W => Sep w [] [] W) hM ?_
  clear hM
  rintro Y2 hM
  refine cF (some 24) 8 #[.int .i64 1, .int .i64 5] ((chnNew_any 1 5 _).mono ?_)
  rintro e Y3 ⟨B, v0, pv0, q0, bs0, rfl, hN⟩
  replace hM := hM.gain hN.one
  clear hN
  refine tF 2 [.val 1 (some 11) (pt B 0)] trivial ?_
  refine dF ?_
  try simp only [puts, Tk.put, Act.put, List.setIfInBounds_toArray, List.set_cons_zero, List.set_cons_succ]
  go_upto_region 4 with fail
  refine wp_region_fromM (fun W => Sep w [] [.join (CHR B (newC 1 5) v0 pv0 q0 bs0)] W) hM ?_
  clear hM
  rintro Y4 hM
  refine tF 1 [.val 0 (some 12) (.int .i64 0)] trivial ?_
  refine dF ?_
  try simp only [puts, Tk.put, Act.put, List.setIfInBounds_toArray, List.set_cons_zero, List.set_cons_succ]
  go_upto_block 0 with fail
  go_cut [12] (fun i wc => ∃ (C : Ch) (v pv q : Value) (bs : List Nat), OkC C 20 ∧ Sep w [] [.join (CHR B C v pv q bs)] wc)
  case first =>
    go_wp2_with fail
    go_loopw [12] (fun i wr => ∃ (k : Nat) (C : Ch) (v pv q : Value) (bs : List Nat), k ≤ l.length ∧ k ≤ 20 ∧ i = .int .i64 (k : Nat) ∧ OkC C k ∧ Sep w [] [.join (CHR B C v pv q bs)] wr) (fun i _ => 20 - (intOf i).toNat)
    case atStart => exact ⟨0, newC 1 5, v0, pv0, q0, bs0, Nat.zero_le _, Nat.zero_le _, rfl, new_okC 1 5, hM⟩
    clear hM
    case round =>
      obtain ⟨k, C, v, pv, q, bs, hkl, hk20, rfl, hC, hM⟩ := hrel
      have HC := Lib.hid hC
      clear hC
      by_cases hq : k < l.length
      case pos =>
        by_cases hq2 : k < 20
        case pos =>
          obtain ⟨x, hx⟩ : ∃ x, l[k]? = some x := ⟨_, List.getElem?_eq_getElem hq⟩
          have htx := HOK.out x (List.mem_of_getElem? hx)
          obtain ⟨bt, ot, _, _, hit, hct⟩ := HET.out k x hx
          have HIT := Lib.hid hit
          have HCT := Lib.hid hct
          have HC1 := Lib.hid (submit_ok HC.out htx)
          have HC2 := Lib.hid (incl_ok HC1.out (k : Int))
          have HQ := Lib.hid hq
          have HQ2 := Lib.hid hq2
          clear hx hit hct htx
          go_upto_region 5 with fail
          refine wp_region_fromM (fun W => Sep w [] [.join (CHR B C v pv q bs)] W) hM ?_
          clear hM
          rintro Y5 hM
          refine tF 2 [.val 0 (some 25) (.int .i64 (k : Int)), .val 1 (some 26) (.slice pl l.length cl)] trivial ?_
          refine rF (some 27) (.int .i64 l.length) (Y5) ?_
          refine tF 8 [.alt 3 (some 28) (.bool (decide ((k : Int) < (l.length : Int)))) (.bool true), .val 4 (some 29) (.bool true), .val 5 (some 30) (.int .i64 (k : Int)), .alt 6 (some 31) (.bool (decide ((k : Int) < 20))) (.bool true), .val 7 (some 32) (.bool true)] ⟨congrArg Value.bool (decide_eq_true (by omega)), congrArg Value.bool (decide_eq_true (by omega)), trivial⟩ ?_
          refine dF ?_
          try simp only [puts, Tk.put, Act.put, List.setIfInBounds_toArray, List.set_cons_zero, List.set_cons_succ]
          go_upto_region 7 with fail
          refine wp_region_fromM (fun W => Sep w [] [.join (CHR B C v pv q bs)] W) hM ?_
          clear hM
          rintro Y6 hM
          refine tF 5 [.val 0 (some 35) (pt B 0), .val 1 (some 36) (.slice pl l.length cl), .val 2 (some 37) (.int .i64 (k : Int)), .idx 3 (some 38) 37 (.slice pl l.length cl) (.int .i64 (k : Int)) (pt bt ot), .load 4 (some 39) 44 (pt bt ot) (txv x)] ⟨HIT.out _, ld_txS (HCT.out _ (HLT.out.below hM.b HHT.out)), trivial⟩ ?_
          refine cF (some 40) 12 #[pt B 0, txv x] ((chnSubmit_any x _ (hM.oka 0 rfl) HC.out.po).mono ?_)
          rintro e Y7 ⟨rfl, v1, pv1, q1, bs1, hT⟩
          replace hM := hM.turn 0 rfl hT rfl
          clear hT
          refine dF ?_
          try simp only [puts, Tk.put, Act.put, List.setIfInBounds_toArray, List.set_cons_zero, List.set_cons_succ]
          go_upto_region 8 with fail
          refine wp_region_fromM (fun W => Sep w [] [.join (CHR B (submitC C x) v1 pv1 q1 bs1)] W) hM ?_
          clear hM
          rintro Y8 hM
          refine tF 3 [.val 0 (some 41) (.int .i64 (k : Int)), .val 1 (some 42) (.int .i64 (Int.tmod (k : Int) 2)), .val 2 (some 43) (.bool (Int.tmod (k : Int) 2 == 1))] trivial ?_
          refine dF ?_
          try simp only [puts, Tk.put, Act.put, List.setIfInBounds_toArray, List.set_cons_zero, List.set_cons_succ]
          cases hodd : (Int.tmod (k : Int) 2 == 1) with
          | true =>
            go_upto_region 9 with fail
            refine wp_region_fromM (fun W => Sep w [] [.join (CHR B (submitC C x) v1 pv1 q1 bs1)] W) hM ?_
            clear hM
            rintro Y9 hM
            refine tF 2 [.val 0 (some 44) (pt B 0), .val 1 (some 45) (.int .i64 (k : Int))] trivial ?_
            refine cF (some 46) 14 #[pt B 0, .int .i64 (k : Int)] ((chnInclude_any (k : Int) _ (hM.oka 0 rfl) HC1.out.st HC1.out.tx HC1.out.po (by have := HC1.out.lk; omega) (by have := HC1.out.ev; omega)).mono ?_)
            rintro e Y10 ⟨rfl, v2, pv2, q2, bs2, hT⟩
            replace hM := hM.turn 0 rfl hT rfl
            clear hT
            refine dF ?_
            try simp only [puts, Tk.put, Act.put, List.setIfInBounds_toArray, List.set_cons_zero, List.set_cons_succ]
            have hM5 := Lib.hid hM
            clear hM hodd
            have hq3 := HQ.out
            have hq4 := HQ2.out
            have hwr : IntKind.i64.wrap ((k : Int) + 1) = ((k + 1 : Nat) : Int) := (IntWalk.i64_in _ (by omega)).trans (by omega)
            go_wp2_with fail
            go_roundw
            case rel => exact ⟨k + 1, (inclC (submitC C x) (k : Int)).1, v2, pv2, q2, bs2, HQ.out, HQ2.out, by go_num, HC2.out, hM5.out⟩
            case measure => have := HQ2.out; simp [intOf]; omega
          | false =>
            have hM5 := Lib.hid hM
            clear hM hodd
            have hq3 := HQ.out
            have hq4 := HQ2.out
            have hwr : IntKind.i64.wrap ((k : Int) + 1) = ((k + 1 : Nat) : Int) := (IntWalk.i64_in _ (by omega)).trans (by omega)
            go_wp2_with fail
            go_roundw
            case rel => exact ⟨k + 1, (submitC C x), v1, pv1, q1, bs1, HQ.out, HQ2.out, by go_num, HC1.out.up (Nat.le_succ _), hM5.out⟩
            case measure => have := HQ2.out; simp [intOf]; omega
        go_upto_region 5 with fail
        refine wp_region_fromM (fun W => Sep w [] [.join (CHR B C v pv q bs)] W) hM ?_
        clear hM
        rintro Y11 hM
        refine tF 2 [.val 0 (some 25) (.int .i64 (k : Int)), .val 1 (some 26) (.slice pl l.length cl)] trivial ?_
        refine rF (some 27) (.int .i64 l.length) (Y11) ?_
        refine tF 8 [.alt 3 (some 28) (.bool (decide ((k : Int) < (l.length : Int)))) (.bool true), .val 4 (some 29) (.bool true), .val 5 (some 30) (.int .i64 (k : Int)), .alt 6 (some 31) (.bool (decide ((k : Int) < 20))) (.bool false), .val 7 (some 32) (.bool false)] ⟨congrArg Value.bool (decide_eq_true (by omega)), congrArg Value.bool (decide_eq_false (by omega)), trivial⟩ ?_
        refine dF ?_
        try simp only [puts, Tk.put, Act.put, List.setIfInBounds_toArray, List.set_cons_zero, List.set_cons_succ]
        go_wp2_with fail
        go_meet
        exact ⟨C, v, pv, q, bs, HC.out.up hk20, hM⟩
      go_upto_region 5 with fail
      refine wp_region_fromM (fun W => Sep w [] [.join (CHR B C v pv q bs)] W) hM ?_
      clear hM
      rintro Y12 hM
      refine tF 2 [.val 0 (some 25) (.int .i64 (k : Int)), .val 1 (some 26) (.slice pl l.length cl)] trivial ?_
      refine rF (some 27) (.int .i64 l.length) (Y12) ?_
      refine tF 8 [.alt 3 (some 28) (.bool (decide ((k : Int) < (l.length : Int)))) (.bool false), .val 4 (some 29) (.bool false), .skip 5 (some 30), .skip 6 (some 31), .val 7 (some 32) (.bool false)] ⟨congrArg Value.bool (decide_eq_false (by omega)), trivial⟩ ?_
      refine dF ?_
      try simp only [puts, Tk.put, Act.put, List.setIfInBounds_toArray, List.set_cons_zero, List.set_cons_succ]
      go_wp2_with fail
      go_meet
      exact ⟨C, v, pv, q, bs, HC.out.up hk20, hM⟩
  case rest =>
    obtain ⟨C, v, pv, q, bs, hC, hM⟩ := hcut
    have HC := Lib.hid hC
    clear hC
    go_upto_if 50 with fail
    go_cut [13, 50] (fun s b wc => ∃ K : ByteArray, s = .string K ∧ (∃ c, b = .bool c) ∧ Sep w [] [.join (CHR B C v pv q bs)] wc)
    case first =>
      by_cases hn : 0 < l.length
      · have hn' : (0 : Int) < (l.length : Int) := by omega
        have hlt := atC_lt at' hn
        obtain ⟨x, hx⟩ : ∃ x, l[atC at' l.length]? = some x := ⟨_, List.getElem?_eq_getElem hlt⟩
        obtain ⟨bt, ot, _, _, hit, hct⟩ := HET.out (atC at' l.length) x hx
        have HIT := Lib.hid hit
        have HCT := Lib.hid hct
        have h1 := Int.lt_tmod_of_pos at' hn'
        have h2 := Int.tmod_lt_of_pos at' hn'
        have hml := HML.out
        have HAT : Hid (Int.tmod (Int.tmod at' l.length + l.length) l.length = ((atC at' l.length : Nat) : Int)) := Lib.hid (Int.toNat_of_nonneg (Int.tmod_nonneg (a := Int.tmod at' l.length + l.length) l.length (by omega))).symm
        have HSM : Hid (IntKind.i64.wrap (Int.tmod at' l.length + l.length) = Int.tmod at' l.length + l.length) := Lib.hid (IntWalk.i64_in _ (by omega))
        have HN0 := Lib.hid (show (l.length : Int) ≠ 0 by omega)
        clear hx hit hct h1 h2 hml hlt
        go_upto_region 13 with fail
        refine wp_region_fromM (fun W => Sep w [] [.join (CHR B C v pv q bs)] W) hM ?_
        clear hM
        rintro Y13 hM
        refine tF 3 [.val 0 (some 51) (.slice pl l.length cl), .val 1 (some 52) (.int .i64 at'), .val 2 (some 53) (.int .i64 l.length)] trivial ?_
        refine remF (.tmp 52) (.tmp 53) 3 3 (some 54) at' (l.length : Int) (Int.tmod at' l.length) HN0.out rfl ?_
        refine tF 7 [.val 4 (some 55) (.int .i64 l.length), .alt 5 (some 56) (.int .i64 (IntKind.i64.wrap (Int.tmod at' l.length + l.length))) (.int .i64 (Int.tmod at' l.length + l.length)), .val 6 (some 57) (.int .i64 l.length)] ⟨congrArg (Value.int .i64) HSM.out, trivial⟩ ?_
        refine remF (.tmp 56) (.tmp 57) 3 3 (some 58) (Int.tmod at' l.length + l.length) (l.length : Int) (atC at' l.length : Nat) HN0.out HAT.out ?_
        refine tF 11 [.idx 8 (some 59) 37 (.slice pl l.length cl) (.int .i64 (atC at' l.length : Nat)) (pt bt ot), .val 9 (some 60) (pt bt (ot + 8)), .load 10 (some 61) 40 (pt bt (ot + 8)) (ivv x.iv)] ⟨HIT.out _, ld_tlI (HCT.out _ (HLT.out.below hM.b HHT.out)), trivial⟩ ?_
        refine cF (some 62) 24 #[ivv x.iv] ((key_any x.iv _).mono ?_)
        rintro e W2 ⟨rfl, hb⟩
        replace hM := hM.below hb
        clear hb
        refine tF 13 [.val 12 (some 13) (.string (keyB x.iv))] trivial ?_
        refine dF ?_
        try simp only [puts, Tk.put, Act.put, List.setIfInBounds_toArray, List.set_cons_zero, List.set_cons_succ]
        go_wp2_with fail
        go_meet
        exact ⟨_, rfl, ⟨_, rfl⟩, hM⟩
      · have hn' : ¬ (0 : Int) < (l.length : Int) := by omega
        go_wp2_with fail
        go_meet
        exact ⟨_, rfl, ⟨_, rfl⟩, hM⟩
    case rest =>
      obtain ⟨K, rfl, ⟨c50, rfl⟩, hM⟩ := hcut
      go_upto_region 14 with fail
      refine wp_region_fromM (fun W => Sep w [] [.join (CHR B C v pv q bs)] W) hM ?_
      clear hM
      rintro Y14 hM
      refine tF 1 [.val 0 (some 63) (pt B 0)] trivial ?_
      refine cF (some 64) 17 #[pt B 0] ((chnPool_any _ (ChV.of (hM.oka 0 rfl)) (by have := HC.out.po; omega)).mono ?_)
      rintro e Y15 ⟨vp, rfl, hR⟩
      replace hM := hM.gain hR
      clear hR
      refine tF 3 [.val 2 (some 65) (pt B 0)] trivial ?_
      obtain ⟨ap, cp, rfl⟩ := (hM.oka 0 rfl).slice txc_25
      refine cF (some 66) 18 #[pt B 0, .int .i64 0] ((chnEvents0_any _ (ChV.of (hM.oka 1 rfl)) (by have := HC.out.ev; omega)).mono ?_)
      rintro e Y16 ⟨vq, rfl, hR⟩
      replace hM := hM.gain hR
      clear hR
      obtain ⟨aq, cq, rfl⟩ := (hM.oka 0 rfl).slice evc_len
      refine tF 6 [.val 4 (some 15) (.slice ap C.po.length cp), .val 5 (some 16) (.slice aq C.ev.length cq)] trivial ?_
      refine dF ?_
      try simp only [puts, Tk.put, Act.put, List.setIfInBounds_toArray, List.set_cons_zero, List.set_cons_succ]
      go_upto_region 15 with fail
      refine wp_region_fromM (fun W => Sep w [] [.own evc 54 27 (.slice aq C.ev.length cq) (C.ev), .own (fun t => txc t) 44 25 (.slice ap C.po.length cp) (C.po), .join (CHR B C v pv q bs)] W) hM ?_
      clear hM
      rintro Y17 hM
      refine tF 1 [.val 0 (some 17) (.bool false)] trivial ?_
      refine dF ?_
      try simp only [puts, Tk.put, Act.put, List.setIfInBounds_toArray, List.set_cons_zero, List.set_cons_succ]
      go_upto_region 16 with fail
      refine wp_region_fromM (fun W => Sep w [] [.own evc 54 27 (.slice aq C.ev.length cq) (C.ev), .own (fun t => txc t) 44 25 (.slice ap C.po.length cp) (C.po), .join (CHR B C v pv q bs)] W) hM ?_
      clear hM
      rintro Y18 hM
      refine tF 1 [.val 0 (some 18) (.int .i64 0)] trivial ?_
      refine dF ?_
      try simp only [puts, Tk.put, Act.put, List.setIfInBounds_toArray, List.set_cons_zero, List.set_cons_succ]
      go_wp2_with fail
      go_loopw [17, 18] (fun s i wr => ∃ m : Nat, m ≤ C.po.length ∧ i = .int .i64 (m : Nat) ∧ s = .bool ((C.po.take m).any (predW a kd K)) ∧ Sep w [] [.own evc 54 27 (.slice aq C.ev.length cq) (C.ev), .own (fun t => txc t) 44 25 (.slice ap C.po.length cp) (C.po), .join (CHR B C v pv q bs)] wr) (fun _ i _ => C.po.length - (intOf i).toNat)
      case atStart => exact ⟨0, Nat.zero_le _, rfl, rfl, hM⟩
      clear hM
      case round =>
        obtain ⟨m, hm, rfl, rfl, hM⟩ := hrel
        by_cases hlt : m < C.po.length
        · obtain ⟨y, hy⟩ : ∃ y, C.po[m]? = some y := ⟨_, List.getElem?_eq_getElem hlt⟩
          have HY := Lib.hid hy
          have HLT2 := Lib.hid hlt
          have hlt' : (m : Int) < (C.po.length : Int) := by omega
          obtain ⟨bp, op, hip, hcp⟩ := (hM.oka 1 rfl).elem txc_25 hy Tryz.underlying37 (fun W => by kernel_rfl)
          have HIp := Lib.hid hip
          have HCp := Lib.hid hcp
          clear hip hcp
          clear hy hlt
          have HTA := Lib.hid (take_any (p := predW a kd K) HY.out)
          go_upto_region 17 with fail
          refine wp_region_fromM (fun W => Sep w [] [.own evc 54 27 (.slice aq C.ev.length cq) (C.ev), .own (fun t => txc t) 44 25 (.slice ap C.po.length cp) (C.po), .join (CHR B C v pv q bs)] W) hM ?_
          clear hM
          rintro Y19 hM
          refine tF 2 [.val 0 (some 67) (.int .i64 (m : Int)), .val 1 (some 68) (.slice ap C.po.length cp)] trivial ?_
          refine rF (some 69) (.int .i64 C.po.length) (Y19) ?_
          refine tF 4 [.alt 3 (some 70) (.bool (decide ((m : Int) < (C.po.length : Int)))) (.bool true)] ⟨congrArg Value.bool (decide_eq_true (by omega)), trivial⟩ ?_
          refine dF ?_
          try simp only [puts, Tk.put, Act.put, List.setIfInBounds_toArray, List.set_cons_zero, List.set_cons_succ]
          generalize hg : ((C.po.take m).any (predW a kd K)) = g at *
          have HG := Lib.hid hg
          clear hg
          cases g with
          | true =>
            go_upto_region 19 with fail
            refine wp_region_fromM (fun W => Sep w [] [.own evc 54 27 (.slice aq C.ev.length cq) (C.ev), .own (fun t => txc t) 44 25 (.slice ap C.po.length cp) (C.po), .join (CHR B C v pv q bs)] W) hM ?_
            clear hM
            rintro Y20 hM
            refine tF 24 [.val 0 (some 73) (.bool true), .val 1 (some 74) (.bool true), .skip 2 (some 75), .skip 3 (some 76), .skip 4 (some 77), .skip 5 (some 78), .skip 6 (some 79), .skip 7 (some 80), .skip 8 (some 81), .skip 9 (some 82), .skip 10 (some 83), .skip 11 (some 84), .skip 12 (some 85), .skip 13 (some 86), .skip 14 (some 87), .skip 15 (some 88), .skip 16 (some 89), .skip 17 (some 90), .skip 18 (some 91), .skip 19 (some 92), .skip 20 (some 93), .skip 21 (some 94), .skip 22 (some 95), .skip 23 (some 96)] trivial ?_
            refine wpFrom_not (d := some 97) (by kernel_rfl) ?_
            refine tF 30 [.skip 25 (some 98), .skip 26 (some 99), .skip 27 (some 100), .val 28 (some 101) (.bool true), .val 29 (some 17) (.bool true)] trivial ?_
            refine dF ?_
            try simp only [puts, Tk.put, Act.put, List.setIfInBounds_toArray, List.set_cons_zero, List.set_cons_succ]
            have hpo := HC.out.po
            have hl2 := HLT2.out
            have hwr : IntKind.i64.wrap ((m : Int) + 1) = ((m + 1 : Nat) : Int) := (IntWalk.i64_in _ (by omega)).trans (by omega)
            go_wp2_with fail
            go_roundw
            case rel => exact ⟨m + 1, HLT2.out, by go_num, by rw [HTA.out]; rfl, hM⟩
            case measure => have := HLT2.out; simp [intOf]; omega
          | false =>
            by_cases hq : y.fr = a
            · have HQ := Lib.hid hq
              clear hq
              by_cases hq2 : y.kd = kd
              · have HQ2 := Lib.hid hq2
                clear hq2
                go_upto_region 19 with fail
                refine wp_region_fromM (fun W => Sep w [] [.own evc 54 27 (.slice aq C.ev.length cq) (C.ev), .own (fun t => txc t) 44 25 (.slice ap C.po.length cp) (C.po), .join (CHR B C v pv q bs)] W) hM ?_
                clear hM
                rintro Y21 hM
                refine tF 24 [.val 0 (some 73) (.bool false), .val 1 (some 74) (.bool false), .val 2 (some 75) (.slice ap C.po.length cp), .val 3 (some 76) (.int .i64 (m : Int)), .idx 4 (some 77) 37 (.slice ap C.po.length cp) (.int .i64 (m : Int)) (pt bp op), .val 5 (some 78) (pt bp op), .load 6 (some 79) 3 (pt bp op) (.int .i64 y.fr), .val 7 (some 80) (.int .i64 a), .alt 8 (some 81) (.bool (y.fr == a)) (.bool true), .val 9 (some 82) (.bool true), .val 10 (some 83) (.slice ap C.po.length cp), .val 11 (some 84) (.int .i64 (m : Int)), .idx 12 (some 85) 37 (.slice ap C.po.length cp) (.int .i64 (m : Int)) (pt bp op), .val 13 (some 86) (pt bp (op + 2)), .load 14 (some 87) 3 (pt bp (op + 2)) (.int .i64 y.kd), .val 15 (some 88) (.int .i64 kd), .alt 16 (some 89) (.bool (y.kd == kd)) (.bool true), .val 17 (some 90) (.bool true), .val 18 (some 91) (.bool true), .val 19 (some 92) (.slice ap C.po.length cp), .val 20 (some 93) (.int .i64 (m : Int)), .idx 21 (some 94) 37 (.slice ap C.po.length cp) (.int .i64 (m : Int)) (pt bp op), .val 22 (some 95) (pt bp (op + 8)), .load 23 (some 96) 40 (pt bp (op + 8)) (ivv y.iv)] ⟨HIp.out _, ld_tlF (HCp.out _ (hM.oka 1 rfl)), congrArg Value.bool (beq_iff_eq.2 HQ.out), HIp.out _, ld_tlK (HCp.out _ (hM.oka 1 rfl)), congrArg Value.bool (beq_iff_eq.2 HQ2.out), HIp.out _, ld_tlI (HCp.out _ (hM.oka 1 rfl)), trivial⟩ ?_
                refine cF (some 97) 24 #[ivv y.iv] ((key_any y.iv _).mono ?_)
                rintro e W2 ⟨rfl, hb⟩
                replace hM := hM.below hb
                clear hb
                refine tF 30 [.val 25 (some 98) (.string K), .alt 26 (some 99) (.bool ((keyB y.iv).toList == K.toList)) (.bool (decide (keyB y.iv = K))), .val 27 (some 100) (.bool (decide (keyB y.iv = K))), .val 28 (some 101) (.bool (decide (keyB y.iv = K))), .val 29 (some 17) (.bool (decide (keyB y.iv = K)))] ⟨congrArg Value.bool (beqB _ _), trivial⟩ ?_
                refine dF ?_
                try simp only [puts, Tk.put, Act.put, List.setIfInBounds_toArray, List.set_cons_zero, List.set_cons_succ]
                have hpo := HC.out.po
                have hl2 := HLT2.out
                have hwr : IntKind.i64.wrap ((m : Int) + 1) = ((m + 1 : Nat) : Int) := (IntWalk.i64_in _ (by omega)).trans (by omega)
                go_wp2_with fail
                go_roundw
                case rel => exact ⟨m + 1, HLT2.out, by go_num, by rw [HTA.out]; unfold predW; rw [decide_eq_true HQ.out, decide_eq_true HQ2.out]; rfl, hM⟩
                case measure => have := HLT2.out; simp [intOf]; omega
              · have HQ2 := Lib.hid hq2
                clear hq2
                go_upto_region 19 with fail
                refine wp_region_fromM (fun W => Sep w [] [.own evc 54 27 (.slice aq C.ev.length cq) (C.ev), .own (fun t => txc t) 44 25 (.slice ap C.po.length cp) (C.po), .join (CHR B C v pv q bs)] W) hM ?_
                clear hM
                rintro Y22 hM
                refine tF 24 [.val 0 (some 73) (.bool false), .val 1 (some 74) (.bool false), .val 2 (some 75) (.slice ap C.po.length cp), .val 3 (some 76) (.int .i64 (m : Int)), .idx 4 (some 77) 37 (.slice ap C.po.length cp) (.int .i64 (m : Int)) (pt bp op), .val 5 (some 78) (pt bp op), .load 6 (some 79) 3 (pt bp op) (.int .i64 y.fr), .val 7 (some 80) (.int .i64 a), .alt 8 (some 81) (.bool (y.fr == a)) (.bool true), .val 9 (some 82) (.bool true), .val 10 (some 83) (.slice ap C.po.length cp), .val 11 (some 84) (.int .i64 (m : Int)), .idx 12 (some 85) 37 (.slice ap C.po.length cp) (.int .i64 (m : Int)) (pt bp op), .val 13 (some 86) (pt bp (op + 2)), .load 14 (some 87) 3 (pt bp (op + 2)) (.int .i64 y.kd), .val 15 (some 88) (.int .i64 kd), .alt 16 (some 89) (.bool (y.kd == kd)) (.bool false), .val 17 (some 90) (.bool false), .val 18 (some 91) (.bool false), .skip 19 (some 92), .skip 20 (some 93), .skip 21 (some 94), .skip 22 (some 95), .skip 23 (some 96)] ⟨HIp.out _, ld_tlF (HCp.out _ (hM.oka 1 rfl)), congrArg Value.bool (beq_iff_eq.2 HQ.out), HIp.out _, ld_tlK (HCp.out _ (hM.oka 1 rfl)), congrArg Value.bool (beq_eq_false_iff_ne.2 HQ2.out), trivial⟩ ?_
                refine wpFrom_not (d := some 97) (by kernel_rfl) ?_
                refine tF 30 [.skip 25 (some 98), .skip 26 (some 99), .val 27 (some 100) (.bool false), .val 28 (some 101) (.bool false), .val 29 (some 17) (.bool false)] trivial ?_
                refine dF ?_
                try simp only [puts, Tk.put, Act.put, List.setIfInBounds_toArray, List.set_cons_zero, List.set_cons_succ]
                have hpo := HC.out.po
                have hl2 := HLT2.out
                have hwr : IntKind.i64.wrap ((m : Int) + 1) = ((m + 1 : Nat) : Int) := (IntWalk.i64_in _ (by omega)).trans (by omega)
                go_wp2_with fail
                go_roundw
                case rel => exact ⟨m + 1, HLT2.out, by go_num, by rw [HTA.out]; unfold predW; rw [decide_eq_true HQ.out, decide_eq_false HQ2.out]; rfl, hM⟩
                case measure => have := HLT2.out; simp [intOf]; omega
            · have HQ := Lib.hid hq
              clear hq
              go_upto_region 19 with fail
              refine wp_region_fromM (fun W => Sep w [] [.own evc 54 27 (.slice aq C.ev.length cq) (C.ev), .own (fun t => txc t) 44 25 (.slice ap C.po.length cp) (C.po), .join (CHR B C v pv q bs)] W) hM ?_
              clear hM
              rintro Y23 hM
              refine tF 24 [.val 0 (some 73) (.bool false), .val 1 (some 74) (.bool false), .val 2 (some 75) (.slice ap C.po.length cp), .val 3 (some 76) (.int .i64 (m : Int)), .idx 4 (some 77) 37 (.slice ap C.po.length cp) (.int .i64 (m : Int)) (pt bp op), .val 5 (some 78) (pt bp op), .load 6 (some 79) 3 (pt bp op) (.int .i64 y.fr), .val 7 (some 80) (.int .i64 a), .alt 8 (some 81) (.bool (y.fr == a)) (.bool false), .val 9 (some 82) (.bool false), .skip 10 (some 83), .skip 11 (some 84), .skip 12 (some 85), .skip 13 (some 86), .skip 14 (some 87), .skip 15 (some 88), .skip 16 (some 89), .val 17 (some 90) (.bool false), .val 18 (some 91) (.bool false), .skip 19 (some 92), .skip 20 (some 93), .skip 21 (some 94), .skip 22 (some 95), .skip 23 (some 96)] ⟨HIp.out _, ld_tlF (HCp.out _ (hM.oka 1 rfl)), congrArg Value.bool (beq_eq_false_iff_ne.2 HQ.out), trivial⟩ ?_
              refine wpFrom_not (d := some 97) (by kernel_rfl) ?_
              refine tF 30 [.skip 25 (some 98), .skip 26 (some 99), .val 27 (some 100) (.bool false), .val 28 (some 101) (.bool false), .val 29 (some 17) (.bool false)] trivial ?_
              refine dF ?_
              try simp only [puts, Tk.put, Act.put, List.setIfInBounds_toArray, List.set_cons_zero, List.set_cons_succ]
              have hpo := HC.out.po
              have hl2 := HLT2.out
              have hwr : IntKind.i64.wrap ((m : Int) + 1) = ((m + 1 : Nat) : Int) := (IntWalk.i64_in _ (by omega)).trans (by omega)
              go_wp2_with fail
              go_roundw
              case rel => exact ⟨m + 1, HLT2.out, by go_num, by rw [HTA.out]; unfold predW; rw [decide_eq_false HQ.out]; rfl, hM⟩
              case measure => have := HLT2.out; simp [intOf]; omega
        · obtain rfl : m = C.po.length := by omega
          go_upto_region 17 with fail
          refine wp_region_fromM (fun W => Sep w [] [.own evc 54 27 (.slice aq C.ev.length cq) (C.ev), .own (fun t => txc t) 44 25 (.slice ap C.po.length cp) (C.po), .join (CHR B C v pv q bs)] W) hM ?_
          clear hM
          rintro Y24 hM
          refine tF 2 [.val 0 (some 67) (.int .i64 C.po.length), .val 1 (some 68) (.slice ap C.po.length cp)] trivial ?_
          refine rF (some 69) (.int .i64 C.po.length) (Y24) ?_
          refine tF 4 [.alt 3 (some 70) (.bool (decide ((C.po.length : Int) < (C.po.length : Int)))) (.bool false)] ⟨congrArg Value.bool (decide_eq_false (by omega)), trivial⟩ ?_
          refine dF ?_
          try simp only [puts, Tk.put, Act.put, List.setIfInBounds_toArray, List.set_cons_zero, List.set_cons_succ]
          have HG := Lib.hid (show ((C.po.take C.po.length).any (predW a kd K)) = C.po.any (predW a kd K) by rw [List.take_length])
          rw [HG.out]
          generalize hg : C.po.any (predW a kd K) = g at *
          have HGG := Lib.hid hg
          clear hg HG
          go_upto_region 20 with fail
          refine wp_region_fromM (fun W => Sep w [] [.own evc 54 27 (.slice aq C.ev.length cq) (C.ev), .own (fun t => txc t) 44 25 (.slice ap C.po.length cp) (C.po), .join (CHR B C v pv q bs)] W) hM ?_
          clear hM
          rintro Y25 hM
          refine tF 2 [.val 0 (some 102) (pt B 0), .val 1 (some 103) (.int .i64 f)] trivial ?_
          refine cF (some 104) 18 #[pt B 0, .int .i64 f] ((chnEvents_any f _ (ChV.of (hM.oka 2 rfl)) (by have := HC.out.ev; omega)).mono ?_)
          rintro e Y26 ⟨vr, rfl, hR⟩
          replace hM := hM.gain hR
          clear hR
          obtain ⟨ar, cr, rfl⟩ := (hM.oka 0 rfl).slice evc_len
          refine tF 4 [.val 3 (some 19) (.slice ar (C.ev.drop (fromE f C.ev.length)).length cr)] trivial ?_
          refine dF ?_
          try simp only [puts, Tk.put, Act.put, List.setIfInBounds_toArray, List.set_cons_zero, List.set_cons_succ]
          go_upto_region 21 with fail
          refine wp_region_fromM (fun W => Sep w [] [.own evc 54 27 (.slice ar (C.ev.drop (fromE f C.ev.length)).length cr) (C.ev.drop (fromE f C.ev.length)), .own evc 54 27 (.slice aq C.ev.length cq) (C.ev), .own (fun t => txc t) 44 25 (.slice ap C.po.length cp) (C.po), .join (CHR B C v pv q bs)] W) hM ?_
          clear hM
          rintro Y27 hM
          refine tF 1 [.val 0 (some 105) (.slice aq C.ev.length cq)] trivial ?_
          refine rF (some 106) (.int .i64 C.ev.length) (Y27) ?_
          refine tF 3 [.val 2 (some 107) (.int .i64 f)] trivial ?_
          refine rF (some 108) (.int .i64 (mxW f)) (Y27) ?_
          refine tF 5 [.val 4 (some 109) (.slice aq C.ev.length cq)] trivial ?_
          refine rF (some 110) (.int .i64 C.ev.length) (Y27) ?_
          refine rF (some 111) (.int .i64 (mnW (C.ev.length : Int) (mxW f))) (Y27) ?_
          refine tF 9 [.alt 7 (some 112) (.int .i64 (IntKind.i64.wrap ((C.ev.length : Int) - mnW (C.ev.length : Int) (mxW f)))) (.int .i64 ((C.ev.length - (fromE f C.ev.length)) : Nat)), .val 8 (some 20) (.int .i64 ((C.ev.length - (fromE f C.ev.length)) : Nat))] ⟨congrArg (Value.int .i64) (by rw [from_len]; exact IntWalk.i64_in _ (by have := HC.out.ev; omega)), trivial⟩ ?_
          refine dF ?_
          try simp only [puts, Tk.put, Act.put, List.setIfInBounds_toArray, List.set_cons_zero, List.set_cons_succ]
          go_upto_region 22 with fail
          go_cut [129] (fun s wc => s = .bool false ∧ Sep w [] [.own evc 54 27 (.slice ar (C.ev.drop (fromE f C.ev.length)).length cr) (C.ev.drop (fromE f C.ev.length)), .own evc 54 27 (.slice aq C.ev.length cq) (C.ev), .own (fun t => txc t) 44 25 (.slice ap C.po.length cp) (C.po), .join (CHR B C v pv q bs)] wc)
          case first =>
            cases g with
            | true =>
              refine wp_region_fromM (fun W => Sep w [] [.own evc 54 27 (.slice ar (C.ev.drop (fromE f C.ev.length)).length cr) (C.ev.drop (fromE f C.ev.length)), .own evc 54 27 (.slice aq C.ev.length cq) (C.ev), .own (fun t => txc t) 44 25 (.slice ap C.po.length cp) (C.po), .join (CHR B C v pv q bs)] W) hM ?_
              clear hM
              rintro Y28 hM
              refine tF 1 [.val 0 (some 113) (.slice ar (C.ev.drop (fromE f C.ev.length)).length cr)] trivial ?_
              refine rF (some 114) (.int .i64 (C.ev.drop (fromE f C.ev.length)).length) (Y28) ?_
              refine tF 9 [.val 2 (some 115) (.int .i64 ((C.ev.length - (fromE f C.ev.length)) : Nat)), .alt 3 (some 116) (.bool (((C.ev.drop (fromE f C.ev.length)).length : Int) != (((C.ev.length - (fromE f C.ev.length)) : Nat) : Int))) (.bool false), .val 4 (some 117) (.bool false), .val 5 (some 118) (pt B 0), .val 6 (some 119) (.int .i64 a), .val 7 (some 120) (.string K), .val 8 (some 121) (.int .i64 kd)] ⟨congrArg Value.bool (bne_eq_false_iff_eq.2 (by rw [List.length_drop])), trivial⟩ ?_
              refine cF (some 122) 25 #[pt B 0, .int .i64 a, .string K, .int .i64 kd] ((chnWaits_any a K kd _ (ChV.of (hM.oka 3 rfl))).mono ?_)
              rintro e W1 ⟨rfl, hb⟩
              replace hM := hM.below hb
              clear hb
              refine tF 17 [.val 10 (some 123) (.bool true), .val 11 (some 124) (.bool true), .val 12 (some 125) (.string K), .alt 13 (some 126) (.bool (!(K.toList == ([] : List UInt8)))) (.bool (!K.toList.isEmpty)), .val 14 (some 127) (.bool (!K.toList.isEmpty)), .alt 15 (some 128) (.bool (waitsC C a K kd != !K.toList.isEmpty)) (.bool false), .val 16 (some 129) (.bool false)] ⟨congrArg Value.bool (ne_empty rfl), congrArg Value.bool (by rw [waits_yes HGG.out, bne_self_b]), trivial⟩ ?_
              refine dF ?_
              try simp only [puts, Tk.put, Act.put, List.setIfInBounds_toArray, List.set_cons_zero, List.set_cons_succ]
              go_wp2_with fail
              go_meet
              exact ⟨rfl, hM⟩
            | false =>
              refine wp_region_fromM (fun W => Sep w [] [.own evc 54 27 (.slice ar (C.ev.drop (fromE f C.ev.length)).length cr) (C.ev.drop (fromE f C.ev.length)), .own evc 54 27 (.slice aq C.ev.length cq) (C.ev), .own (fun t => txc t) 44 25 (.slice ap C.po.length cp) (C.po), .join (CHR B C v pv q bs)] W) hM ?_
              clear hM
              rintro Y29 hM
              refine tF 1 [.val 0 (some 113) (.slice ar (C.ev.drop (fromE f C.ev.length)).length cr)] trivial ?_
              refine rF (some 114) (.int .i64 (C.ev.drop (fromE f C.ev.length)).length) (Y29) ?_
              refine tF 9 [.val 2 (some 115) (.int .i64 ((C.ev.length - (fromE f C.ev.length)) : Nat)), .alt 3 (some 116) (.bool (((C.ev.drop (fromE f C.ev.length)).length : Int) != (((C.ev.length - (fromE f C.ev.length)) : Nat) : Int))) (.bool false), .val 4 (some 117) (.bool false), .val 5 (some 118) (pt B 0), .val 6 (some 119) (.int .i64 a), .val 7 (some 120) (.string K), .val 8 (some 121) (.int .i64 kd)] ⟨congrArg Value.bool (bne_eq_false_iff_eq.2 (by rw [List.length_drop])), trivial⟩ ?_
              refine cF (some 122) 25 #[pt B 0, .int .i64 a, .string K, .int .i64 kd] ((chnWaits_any a K kd _ (ChV.of (hM.oka 3 rfl))).mono ?_)
              rintro e W1 ⟨rfl, hb⟩
              replace hM := hM.below hb
              clear hb
              refine tF 17 [.val 10 (some 123) (.bool false), .val 11 (some 124) (.bool false), .skip 12 (some 125), .skip 13 (some 126), .val 14 (some 127) (.bool false), .alt 15 (some 128) (.bool (waitsC C a K kd != false)) (.bool false), .val 16 (some 129) (.bool false)] ⟨congrArg Value.bool (by rw [waits_no HGG.out]; rfl), trivial⟩ ?_
              refine dF ?_
              try simp only [puts, Tk.put, Act.put, List.setIfInBounds_toArray, List.set_cons_zero, List.set_cons_succ]
              go_wp2_with fail
              go_meet
              exact ⟨rfl, hM⟩
          case rest =>
            obtain ⟨rfl, hM⟩ := hcut
            go_upto_region 24 with fail
            refine wp_region_fromM (fun W => Sep w [] [.own evc 54 27 (.slice ar (C.ev.drop (fromE f C.ev.length)).length cr) (C.ev.drop (fromE f C.ev.length)), .own evc 54 27 (.slice aq C.ev.length cq) (C.ev), .own (fun t => txc t) 44 25 (.slice ap C.po.length cp) (C.po), .join (CHR B C v pv q bs)] W) hM ?_
            clear hM
            rintro Y30 hM
            refine tF 1 [.val 0 (some 21) (.int .i64 0)] trivial ?_
            refine dF ?_
            try simp only [puts, Tk.put, Act.put, List.setIfInBounds_toArray, List.set_cons_zero, List.set_cons_succ]
            go_wp2_with fail
            go_loopw [21] (fun i wr => ∃ j : Nat, j ≤ (C.ev.length - (fromE f C.ev.length)) ∧ i = .int .i64 (j : Nat) ∧ Sep w [] [.own evc 54 27 (.slice ar (C.ev.drop (fromE f C.ev.length)).length cr) (C.ev.drop (fromE f C.ev.length)), .own evc 54 27 (.slice aq C.ev.length cq) (C.ev), .own (fun t => txc t) 44 25 (.slice ap C.po.length cp) (C.po), .join (CHR B C v pv q bs)] wr) (fun i _ => (C.ev.length - (fromE f C.ev.length)) - (intOf i).toNat)
            case atStart => exact ⟨0, Nat.zero_le _, rfl, hM⟩
            clear hM
            case round =>
              obtain ⟨j, hj, rfl, hM⟩ := hrel
              by_cases hjl : j < (C.ev.length - (fromE f C.ev.length))
              · have hfl := fromE_le f C.ev.length
                obtain ⟨y, hy⟩ : ∃ y, C.ev[(fromE f C.ev.length) + j]? = some y := ⟨_, List.getElem?_eq_getElem (by omega)⟩
                have hy2 : (C.ev.drop (fromE f C.ev.length))[j]? = some y := by rw [List.getElem?_drop]; exact hy
                have HJ := Lib.hid hjl
                clear hjl
                obtain ⟨br, or, hir, hcr⟩ := (hM.oka 0 rfl).elem evc_len hy2 Tryz.underlying38 (fun W => by kernel_rfl)
                have HIr := Lib.hid hir
                have HCr := Lib.hid hcr
                clear hir hcr
                obtain ⟨bq, oq, hiq, hcq⟩ := (hM.oka 1 rfl).elem evc_len hy Tryz.underlying38 (fun W => by kernel_rfl)
                have HIq := Lib.hid hiq
                have HCq := Lib.hid hcq
                clear hiq hcq
                clear hy hy2
                go_upto_region 25 with fail
                refine wp_region_fromM (fun W => Sep w [] [.own evc 54 27 (.slice ar (C.ev.drop (fromE f C.ev.length)).length cr) (C.ev.drop (fromE f C.ev.length)), .own evc 54 27 (.slice aq C.ev.length cq) (C.ev), .own (fun t => txc t) 44 25 (.slice ap C.po.length cp) (C.po), .join (CHR B C v pv q bs)] W) hM ?_
                clear hM
                rintro Y31 hM
                refine tF 3 [.val 0 (some 130) (.int .i64 (j : Int)), .val 1 (some 131) (.int .i64 ((C.ev.length - (fromE f C.ev.length)) : Nat)), .alt 2 (some 132) (.bool (decide ((j : Int) < (((C.ev.length - (fromE f C.ev.length)) : Nat) : Int)))) (.bool true)] ⟨congrArg Value.bool (decide_eq_true (by have := HJ.out; omega)), trivial⟩ ?_
                refine dF ?_
                try simp only [puts, Tk.put, Act.put, List.setIfInBounds_toArray, List.set_cons_zero, List.set_cons_succ]
                go_upto_region 27 with fail
                refine wp_region_M (fun W => Sep w [] [.own evc 54 27 (.slice ar (C.ev.drop (fromE f C.ev.length)).length cr) (C.ev.drop (fromE f C.ev.length)), .own evc 54 27 (.slice aq C.ev.length cq) (C.ev), .own (fun t => txc t) 44 25 (.slice ap C.po.length cp) (C.po), .join (CHR B C v pv q bs)] W) (fun W => Sep w [] [.own evc 54 27 (.slice ar (C.ev.drop (fromE f C.ev.length)).length cr) (C.ev.drop (fromE f C.ev.length)), .own evc 54 27 (.slice aq C.ev.length cq) (C.ev), .own (fun t => txc t) 44 25 (.slice ap C.po.length cp) (C.po), .join (CHR B C v pv q bs)] W) hmx hM.drew ?_
                clear hM
                rintro Y32 hM
                have hS := hM.sub (.cons_cons _ (.cons_cons _ (.cons_cons _ (.cons_cons _ .slnil))))
                refine tD 1 [.val 0 (some 135) (.slice ar (C.ev.drop (fromE f C.ev.length)).length cr), .val 1 (some 136) (.int .i64 (j : Int)), .idx 2 (some 137) 38 (.slice ar (C.ev.drop (fromE f C.ev.length)).length cr) (.int .i64 (j : Int)) (pt br or), .load 3 (some 138) 54 (pt br or) (.agg (evc y).toArray), .val 4 (some 139) (.slice aq C.ev.length cq), .val 5 (some 140) (.slice aq C.ev.length cq), .val 6 (some 141) (.int .i64 C.ev.length), .val 7 (some 142) (.int .i64 ((C.ev.length - (fromE f C.ev.length)) : Nat)), .alt 8 (some 143) (.int .i64 (IntKind.i64.wrap ((C.ev.length : Int) - (((C.ev.length - (fromE f C.ev.length)) : Nat) : Int)))) (.int .i64 ((fromE f C.ev.length) : Nat)), .val 9 (some 144) (.int .i64 (j : Int)), .alt 10 (some 145) (.int .i64 (IntKind.i64.wrap (((fromE f C.ev.length) : Int) + (j : Int)))) (.int .i64 ((fromE f C.ev.length) + j : Nat)), .idx 11 (some 146) 38 (.slice aq C.ev.length cq) (.int .i64 ((fromE f C.ev.length) + j : Nat)) (pt bq oq), .load 12 (some 147) 54 (pt bq oq) (.agg (evc y).toArray)] ⟨fun W h => HIr.out _, fun W h => ld_elE _ _ Tryz.underlying54 rfl (by kernel_rfl) (HCr.out _ (h.oka 0 rfl)), congrArg (Value.int .i64) ((IntWalk.i64_in _ (by have := HC.out.ev; have := fromE_le f C.ev.length; omega)).trans (by have := fromE_le f C.ev.length; omega)), congrArg (Value.int .i64) ((IntWalk.i64_in _ (by have := HC.out.ev; have := fromE_le f C.ev.length; have := HJ.out; omega)).trans (by omega)), fun W h => HIq.out _, fun W h => ld_elE _ _ Tryz.underlying54 rfl (by kernel_rfl) (HCq.out _ (h.oka 1 rfl)), trivial⟩ hS ?_
                refine oD 13 0 (unD (.tmp 138) (.tmp 147) 54 (some 148) (evc y).toArray (evc y).toArray true ((run_eqE y y _).trans (by rw [eqE_refl])) hS ?_)
                refine dD ?_
                try simp only [puts, Tk.put, Act.put, List.setIfInBounds_toArray, List.set_cons_zero, List.set_cons_succ]
                clear hS
                have hcv := HC.out.ev
                have hj2 := HJ.out
                have hwr : IntKind.i64.wrap ((j : Int) + 1) = ((j + 1 : Nat) : Int) := (IntWalk.i64_in _ (by omega)).trans (by omega)
                go_wp2_with fail
                go_roundw
                case rel => exact ⟨j + 1, HJ.out, by go_num, hM⟩
                case measure => have := HJ.out; simp [intOf]; omega
              · obtain rfl : j = (C.ev.length - (fromE f C.ev.length)) := by omega
                go_upto_region 25 with fail
                refine wp_region_fromM (fun W => Sep w [] [.own evc 54 27 (.slice ar (C.ev.drop (fromE f C.ev.length)).length cr) (C.ev.drop (fromE f C.ev.length)), .own evc 54 27 (.slice aq C.ev.length cq) (C.ev), .own (fun t => txc t) 44 25 (.slice ap C.po.length cp) (C.po), .join (CHR B C v pv q bs)] W) hM ?_
                clear hM
                rintro Y33 hM
                refine tF 3 [.val 0 (some 130) (.int .i64 ((C.ev.length - (fromE f C.ev.length)) : Nat)), .val 1 (some 131) (.int .i64 ((C.ev.length - (fromE f C.ev.length)) : Nat)), .alt 2 (some 132) (.bool (decide ((((C.ev.length - (fromE f C.ev.length)) : Nat) : Int) < (((C.ev.length - (fromE f C.ev.length)) : Nat) : Int)))) (.bool false)] ⟨congrArg Value.bool (decide_eq_false (by omega)), trivial⟩ ?_
                refine dF ?_
                try simp only [puts, Tk.put, Act.put, List.setIfInBounds_toArray, List.set_cons_zero, List.set_cons_succ]
                go_upto_region 29 with fail
                refine wp_region_fromM (fun W => Sep w [] [.own evc 54 27 (.slice ar (C.ev.drop (fromE f C.ev.length)).length cr) (C.ev.drop (fromE f C.ev.length)), .own evc 54 27 (.slice aq C.ev.length cq) (C.ev), .own (fun t => txc t) 44 25 (.slice ap C.po.length cp) (C.po), .join (CHR B C v pv q bs)] W) hM ?_
                clear hM
                rintro Y34 hM
                refine tF 1 [.val 0 (some 10) (.bool true)] trivial ?_
                refine dF ?_
                try simp only [puts, Tk.put, Act.put, List.setIfInBounds_toArray, List.set_cons_zero, List.set_cons_succ]
                go_wp2_with fail
                go_ret
                exact ⟨rfl, hM.b⟩
end Go.Proofs.YtfoemkmoambagaaGreat
namespace Go.Proofs.YtfoemkmoambagaaGreat
open Go.ChangeShapes Go.WideShapes Go.ChangeAt Go.RowKit Go.Deep
open Go.ChangeMaps (open_string)
set_option maxRecDepth 100000 in
theorem chainWaits_lifted (os : Os) (started : os.Started) (H : Type) (enc : TypeId × Value → H) :
    ReturnsInHanded {} Tryz.checked os 4 .any (Rows.chainWaitsSpec.pre6 enc Tryz.prog Tryz.f4 Rows.chainWaitsRow.domain false) (Rows.chainWaitsSpec.post enc Tryz.prog Tryz.f4 false true false false) := by
  refine returnsInHanded_of_change_sized (C := Tryz.checked) Tryz.own started (by kernel_rfl) Tryz.func4
    (ChangeSpec.witness6 (enc := enc) (C := Tryz.checked) false ⟨#[], #[.slice none 0 0, .int .i64 0, .int .i64 0, .int .i64 0, .int .i64 0], []⟩ 8 (by kernel_rfl) (by kernel_rfl) (by kernel_rfl) (by kernel_rfl)) ?_
  intro W base args ds gs before hval0 hW hcnd hsz0 _
  have hval : ∀ (j : Nat) t v, Tryz.f4.params[j]? = some t → args[j]? = some v → Value.okWide Tryz.prog W .any base t v := hval0
  have hW' := hW
  obtain ⟨p, q, hA0, hV, rfl, hfz, hnd⟩ := hW
  have hA : DataW.TrodAll enc Tryz.prog W 0 (fun _ => true) true Tryz.f4.params.toList args.toList ds p := hA0
  have hsz : (DataW.weightsEach Tryz.prog (Tryz.f4.params.toList ++ Rows.chainWaitsSpec.plain.varTypes Tryz.prog) (ds ++ gs)).all (· ≤ reachBytes) = true := hsz0
  rw [Tryz.params4] at hA hval hsz
  obtain ⟨v0, v1, v2, v3, v4, d0, d1, d2, d3, d4, p0, p1, p2, p3, p4, rfl, rfl, rfl, h0, h1, h2, h3, h4⟩ := trodAll_five hA
  obtain ⟨rfl, rfl⟩ := trodVars_none hV
  obtain ⟨a0, len0, cap0, rfl⟩ := okWide_slice Tryz.underlying37 (hval 0 37 v0 rfl rfl)
  have k0 := h0
  have k1 := h1
  have k2 := h2
  have k3 := h3
  have k4 := h4
  have lt0 : ∀ x ∈ p0, x.block < W.heap.size := by obtain ⟨m, hm⟩ := k0; exact DataW.trod_lt m _ _ _ hm
  have lt1 : ∀ x ∈ p1, x.block < W.heap.size := by obtain ⟨m, hm⟩ := k1; exact DataW.trod_lt m _ _ _ hm
  have lt2 : ∀ x ∈ p2, x.block < W.heap.size := by obtain ⟨m, hm⟩ := k2; exact DataW.trod_lt m _ _ _ hm
  have lt3 : ∀ x ∈ p3, x.block < W.heap.size := by obtain ⟨m, hm⟩ := k3; exact DataW.trod_lt m _ _ _ hm
  have lt4 : ∀ x ∈ p4, x.block < W.heap.size := by obtain ⟨m, hm⟩ := k4; exact DataW.trod_lt m _ _ _ hm
  obtain ⟨l0, hsl0, hok0, hln0⟩ := open_txn h0 (fun n hn => sized_in hsz (j := 0) (t := 37) rfl rfl n hn)
  obtain ⟨z1, rfl, _, _, wf1⟩ := open_int Tryz.underlying3 (hval 1 3 v1 rfl rfl) h1
  obtain ⟨zl1, zh1⟩ := wf_i64 wf1
  obtain ⟨z2, rfl, _, _, wf2⟩ := open_int Tryz.underlying3 (hval 2 3 v2 rfl rfl) h2
  obtain ⟨zl2, zh2⟩ := wf_i64 wf2
  obtain ⟨z3, rfl, _, _, wf3⟩ := open_int Tryz.underlying3 (hval 3 3 v3 rfl rfl) h3
  obtain ⟨zl3, zh3⟩ := wf_i64 wf3
  obtain ⟨z4, rfl, _, _, wf4⟩ := open_int Tryz.underlying3 (hval 4 3 v4 rfl rfl) h4
  obtain ⟨zl4, zh4⟩ := wf_i64 wf4
  clear hA0 hval0
  refine (chainWaits_any l0 z1 z2 z3 z4 _ W hsl0 (Nat.le_refl _) hok0 hln0).mono fun e W' ⟨he, bel⟩ => ?_
  subst he
  exact ⟨_, rfl, _, _, _, [], _, [], hW', trodAll_mk1 (shut_bool Tryz.underlying4 _), (trodAll_mk5 (Below.trod Tryz.laidOut (by kernel_rfl) (of_decide_eq_true (by kernel_rfl)) k0 bel lt0) (Below.trod Tryz.laidOut (by kernel_rfl) (of_decide_eq_true (by kernel_rfl)) k1 bel lt1) (Below.trod Tryz.laidOut (by kernel_rfl) (of_decide_eq_true (by kernel_rfl)) k2 bel lt2) (Below.trod Tryz.laidOut (by kernel_rfl) (of_decide_eq_true (by kernel_rfl)) k3 bel lt3) (Below.trod Tryz.laidOut (by kernel_rfl) (of_decide_eq_true (by kernel_rfl)) k4 bel lt4)), rfl, bel.frame _, fun h => by cases h⟩
theorem chainWaits_over : Rows.chainWaitsRow.holds Tryz.pinned (OpenSpec.ofChange Rows.chainWaitsSpec) :=
  OpenClaim.holds_of_wide 4 Tryz.f4 rfl rfl rfl rfl rfl rfl rfl ⟨rfl, rfl, rfl, rfl, rfl⟩ rfl rfl rfl rfl rfl (by kernel_rfl) Tryz.func4 (by kernel_rfl)
    (of_decide_eq_true (by kernel_rfl)) (by unfold Func.isWrapper; first | (rw [if_pos (by decide +kernel)]; kernel_rfl) | (rw [if_neg (by decide +kernel)]; exact ⟨rfl, rfl⟩))
    (fun os started H enc _ => chainWaits_lifted os started H enc)
theorem chainWaits_proved : Rows.ChainWaitsSaid := chainWaits_over
end Go.Proofs.YtfoemkmoambagaaGreat
