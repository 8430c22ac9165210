/-
  ChainStays answers true at every input, and leaves its arguments as they are.
-/
import Derived.Deep.Slices
import Derived.SizedLaws
import Derived.Carry
import Derived.ChangeMaps5
import Derived.Test.YtfoemkmoambagaaGreatK14
namespace Go.Proofs.YtfoemkmoambagaaGreat
open Go.RowKit Go.Shelf
attribute [local irreducible] wpFrom wpAnyH StepH
theorem ld_no8 {W : World} {B : Nat} {T : TypeId} {f : Nat → Int} (h : Blk W B T (noc f)) {i : Nat} (hi : i < 8) : (Instr.loadAt 3 (.pointer (some ⟨B, 0 + i, none⟩))).run Tryz.prog W = .ok (.int .i64 (f i)) W :=
  ld_int h (0 + i) (by rw [Nat.zero_add]; exact noc_at f hi)
theorem ld_no8A {W : World} {B : Nat} {T : TypeId} {f : Nat → Int} (h : Blk W B T (noc f)) : (Instr.loadAt 32 (.pointer (some ⟨B, 0, none⟩))).run Tryz.prog W = .ok (.agg (noc f).toArray) W :=
  load_part h 0 (noc f) rfl _ _ Tryz.underlying32 rfl (by kernel_rfl)
theorem sto_no8 {W : World} {B : Nat} {T : TypeId} {f : Nat → Int} (h : Blk W B T (noc f)) {i : Nat} (hi : i < 8) (z : Int) : (Instr.storeAt 3 (.pointer (some ⟨B, 0 + i, none⟩)) (.int .i64 z)).run Tryz.prog W = .ok () (W.setRow B (noc (updNo f i z)).toArray) :=
  sto_part _ h (0 + i) _ _ [.int .i64 z] rfl (by kernel_rfl) (by rw [noc_len]; simp; omega) rfl (by rw [laid_one _ _ _ (by rw [noc_len]; omega), Nat.zero_add]; exact noc_set f hi z)
theorem idx_8 {W : World} {B : Nat} {z : Int} (h : 0 ≤ z ∧ z ≤ 7) : (Instr.indexAt 32 (.pointer (some ⟨B, 0, none⟩)) (.int .i64 z)).run Tryz.prog W = .ok (.pointer (some ⟨B, 0 + z.toNat, none⟩)) W := by
  obtain ⟨k, rfl⟩ : ∃ k : Nat, z = k := ⟨z.toNat, by omega⟩
  rw [Int.toNat_natCast]
  exact idx_no (by omega)
def StepS (C D : Ch) : Prop := C.st.tm ≤ D.st.tm ∧ ((D.ev = C.ev ∧ D.st.no = C.st.no) ∨ ∃ e : Ev, D.ev = C.ev ++ [e] ∧ e.tx.no = C.st.no e.tx.fr.toNat ∧ (0 ≤ e.tx.fr ∧ e.tx.fr ≤ 7) ∧ (0 ≤ e.tx.no ∧ e.tx.no ≤ 1099511627776) ∧ D.st.no = updNo C.st.no e.tx.fr.toNat (C.st.no e.tx.fr.toNat + 1))
theorem step_is {C : Ch} {n : Nat} (h : OkC C n) {t : Tr} (ht : OkT t) (i z : Int) : StepS C (riseC (inclC (submitC C t) i).1 z) ∧ OkC (riseC (inclC (submitC C t) i).1 z) (n + 1) := by
  have h1 := submit_ok h ht
  have h2 := incl_ok h1 i
  have hs : (submitC C t).ev = C.ev ∧ (submitC C t).st = C.st := by
    unfold submitC
    split <;> exact ⟨rfl, rfl⟩
  obtain ⟨h3, h4⟩ := rise_okC h2 z
  refine ⟨?_, h3⟩
  rcases incl_two h1 i with e | ⟨S, E, x, _, _, e, e1, e2, e3, e4⟩
  · rw [e] at h4 ⊢
    refine ⟨?_, .inl ⟨hs.1, by show (submitC C t).st.no = _; rw [hs.2]⟩⟩
    rw [hs.2] at h4
    exact h4
  · rw [e] at h4 ⊢
    obtain ⟨_, k1, k2, _⟩ := errT_all e2
    rw [hs.2] at e1 e3 e4
    refine ⟨by rw [← e1]; exact h4, .inr ⟨⟨S.tm, E, x⟩, by show (submitC C t).ev ++ _ = _; rw [hs.1], e3, k1, k2, ?_⟩⟩
    show S.no = _
    rw [e4]
    funext k
    unfold updNo
    by_cases q : k = x.fr.toNat
    · rw [if_pos q, if_pos q, q]
    · rw [if_neg q, if_neg q]
set_option maxRecDepth 100000 in
set_option maxHeartbeats 4000000 in
theorem chainStays_any (sd tz : Int) (l : List Ev) (lv : Value) (w : World) {lo hi : Nat} (hl : RSl evc lo hi w lv l) (hhi : hi ≤ w.heap.size) (hok : ∀ x ∈ l, OkT x.tx) : Calls Tryz.prog 6 #[.int .i64 sd, .int .i64 tz, lv] w fun e W' => e = .returned (.bool true) ∧ Below w.heap.size w W' := by
  have hmx : Tryz.prog.follows .mixedOrders = true := by kernel_rfl
  have HET := Lib.hid (fun k x (hx : l[k]? = some x) => hl.elem evc_len hx Tryz.underlying22 (fun W => by kernel_rfl))
  have hml := hl.len
  obtain ⟨pl, cl, rfl⟩ := hl.slice
  unfold maxLen at hml
  have HLT := Lib.hid hl
  have HHT := Lib.hid hhi
  have HOK := Lib.hid hok
  have HML := Lib.hid hml
  clear hl hhi hok hml
  have hM := Sep.start w
  go_enter Tryz.func6, Tryz.ntmps6
  go_upto_region 1 with fail
  refine wp_region_fromM (fun W => Sep w [] [] W) hM ?_
  clear hM
  rintro Y1 hM
  refine cF (some 15) 7 #[] ((alive13_any _).mono ?_)
  rintro e W1 ⟨rfl, hb⟩
  replace hM := hM.below hb
  clear hb
  refine tF 2 [.val 1 (some 16) (.bool false)] trivial ?_
  refine dF ?_
  try simp only [puts, Tk.put, Act.put, List.setIfInBounds_toArray, List.set_cons_zero, List.set_cons_succ]
  go_upto_region 3 with fail
  refine wp_region_fromM (fun W => Sep w [] [] W) hM ?_
  clear hM
  rintro Y2 hM
  refine tF 2 [.val 0 (some 17) (.int .i64 sd), .val 1 (some 18) (.int .i64 tz)] trivial ?_
  refine cF (some 19) 8 #[.int .i64 sd, .int .i64 tz] ((chnNew_any sd tz _).mono ?_)
  rintro e Y3 ⟨B, v0, pv0, q0, bs0, rfl, hN⟩
  replace hM := hM.gain hN.one
  clear hN
  refine tF 4 [.val 3 (some 7) (pt B 0)] trivial ?_
  refine dF ?_
  try simp only [puts, Tk.put, Act.put, List.setIfInBounds_toArray, List.set_cons_zero, List.set_cons_succ]
  go_upto_region 4 with fail
  refine wp_region_fromM (fun W => Sep w [] [.join (CHR B (newC sd tz) v0 pv0 q0 bs0)] W) hM ?_
  clear hM
  rintro Y4 hM
  refine tF 1 [.val 0 (some 8) (.slice none 0 0)] trivial ?_
  refine dF ?_
  try simp only [puts, Tk.put, Act.put, List.setIfInBounds_toArray, List.set_cons_zero, List.set_cons_succ]
  go_upto_region 5 with fail
  refine wp_region_fromM (fun W => Sep w [] [.join (CHR B (newC sd tz) v0 pv0 q0 bs0)] W) hM ?_
  clear hM
  rintro Y5 hM
  refine rF (some 9) (pt Y5.heap.size 0) (Y5.alloc (.cells (noc (fun _ => 0)).toArray 32)) ?_
  replace hM := hM.alloc 32 (noc (fun _ => 0))
  generalize World.alloc _ _ = Y6 at *
  generalize hNe : Y5.heap.size = NB at *
  clear hNe
  refine dF ?_
  try simp only [Act.put, List.setIfInBounds_toArray, List.set_cons_zero, List.set_cons_succ]
  go_upto_region 6 with fail
  refine wp_region_fromM (fun W => Sep w [] [.blk NB 32 (noc (fun _ => 0)), .join (CHR B (newC sd tz) v0 pv0 q0 bs0)] W) hM ?_
  clear hM
  rintro Y7 hM
  refine tF 1 [.val 0 (some 20) (pt B 0)] trivial ?_
  refine cF (some 21) 21 #[pt B 0] ((chnTime_any _ (ChV.of (hM.oka 1 rfl))).mono ?_)
  rintro e W1 ⟨rfl, hb⟩
  replace hM := hM.below hb
  clear hb
  refine tF 3 [.val 2 (some 10) (.int .i64 (newC sd tz).st.tm)] trivial ?_
  refine dF ?_
  try simp only [puts, Tk.put, Act.put, List.setIfInBounds_toArray, List.set_cons_zero, List.set_cons_succ]
  go_upto_region 7 with fail
  refine wp_region_fromM (fun W => Sep w [] [.blk NB 32 (noc (fun _ => 0)), .join (CHR B (newC sd tz) v0 pv0 q0 bs0)] W) hM ?_
  clear hM
  rintro Y8 hM
  refine tF 1 [.val 0 (some 11) (.int .i64 0)] trivial ?_
  refine dF ?_
  try simp only [puts, Tk.put, Act.put, List.setIfInBounds_toArray, List.set_cons_zero, List.set_cons_succ]
  replace hM := hM.nil evc 54 27
  go_wp2_with fail
  go_loopw [8, 10, 11] (fun vw a i wr => ∃ (k : Nat) (C : Ch) (v pv q : Value) (bs : List Nat), k ≤ l.length ∧ k ≤ 30 ∧ i = .int .i64 (k : Nat) ∧ a = .int .i64 C.st.tm ∧ OkC C k ∧ Sep w [] [.own evc 54 27 (vw) (C.ev), .blk NB 32 (noc C.st.no), .join (CHR B C v pv q bs)] wr) (fun _ _ i _ => 30 - (intOf i).toNat)
  case atStart => exact ⟨0, newC sd tz, v0, pv0, q0, bs0, Nat.zero_le _, Nat.zero_le _, rfl, rfl, new_okC sd tz, hM⟩
  clear hM
  case round =>
    obtain ⟨k, C, v, pv, q, bs, hkl, hk30, rfl, rfl, hC, hM⟩ := hrel
    obtain ⟨aw, cw, rfl⟩ := (hM.oka 0 rfl).slice evc_len
    have HC := Lib.hid hC
    clear hC
    by_cases hq : k < l.length
    case pos =>
      by_cases hq2 : k < 30
      case pos =>
        obtain ⟨x, hx⟩ : ∃ x, l[k]? = some x := ⟨_, List.getElem?_eq_getElem hq⟩
        have htx := HOK.out x (List.mem_of_getElem? hx)
        obtain ⟨bt, ot, _, _, hit, hct⟩ := HET.out k x hx
        obtain ⟨hst, hD⟩ := step_is HC.out htx x.cd x.tm
        have HIT := Lib.hid hit
        have HCT := Lib.hid hct
        have HTX := Lib.hid htx
        have HC1 := Lib.hid (submit_ok HC.out htx)
        have HC2 := Lib.hid (incl_ok HC1.out x.cd)
        have HST := Lib.hid hst
        have HD := Lib.hid hD
        have HQ := Lib.hid hq
        have HQ2 := Lib.hid hq2
        clear hx hit hct htx hst hD
        go_upto_region 8 with fail
        refine wp_region_fromM (fun W => Sep w [] [.own evc 54 27 (.slice aw C.ev.length cw) (C.ev), .blk NB 32 (noc C.st.no), .join (CHR B C v pv q bs)] W) hM ?_
        clear hM
        rintro Y9 hM
        refine tF 2 [.val 0 (some 22) (.int .i64 (k : Int)), .val 1 (some 23) (.slice pl l.length cl)] trivial ?_
        refine rF (some 24) (.int .i64 l.length) (Y9) ?_
        refine tF 8 [.alt 3 (some 25) (.bool (decide ((k : Int) < (l.length : Int)))) (.bool true), .val 4 (some 26) (.bool true), .val 5 (some 27) (.int .i64 (k : Int)), .alt 6 (some 28) (.bool (decide ((k : Int) < 30))) (.bool true), .val 7 (some 29) (.bool true)] ⟨congrArg Value.bool (decide_eq_true (by omega)), congrArg Value.bool (decide_eq_true (by omega)), trivial⟩ ?_
        refine dF ?_
        try simp only [puts, Tk.put, Act.put, List.setIfInBounds_toArray, List.set_cons_zero, List.set_cons_succ]
        go_upto_region 10 with fail
        refine wp_region_fromM (fun W => Sep w [] [.own evc 54 27 (.slice aw C.ev.length cw) (C.ev), .blk NB 32 (noc C.st.no), .join (CHR B C v pv q bs)] W) hM ?_
        clear hM
        rintro Y10 hM
        refine tF 6 [.val 0 (some 32) (pt B 0), .val 1 (some 33) (.slice pl l.length cl), .val 2 (some 34) (.int .i64 (k : Int)), .idx 3 (some 35) 22 (.slice pl l.length cl) (.int .i64 (k : Int)) (pt bt ot), .val 4 (some 36) (pt bt (ot + 2)), .load 5 (some 37) 44 (pt bt (ot + 2)) (txv x.tx)] ⟨HIT.out _, ld_elT (HCT.out _ (HLT.out.below hM.b HHT.out)), trivial⟩ ?_
        refine cF (some 38) 12 #[pt B 0, txv x.tx] ((chnSubmit_any x.tx _ (hM.oka 2 rfl) HC.out.po).mono ?_)
        rintro e Y11 ⟨rfl, v1, pv1, q1, bs1, hT⟩
        replace hM := hM.turn 2 rfl hT rfl
        clear hT
        refine dF ?_
        try simp only [puts, Tk.put, Act.put, List.setIfInBounds_toArray, List.set_cons_zero, List.set_cons_succ]
        go_upto_region 11 with fail
        refine wp_region_fromM (fun W => Sep w [] [.own evc 54 27 (.slice aw C.ev.length cw) (C.ev), .blk NB 32 (noc C.st.no), .join (CHR B (submitC C x.tx) v1 pv1 q1 bs1)] W) hM ?_
        clear hM
        rintro Y12 hM
        refine tF 6 [.val 0 (some 39) (pt B 0), .val 1 (some 40) (.slice pl l.length cl), .val 2 (some 41) (.int .i64 (k : Int)), .idx 3 (some 42) 22 (.slice pl l.length cl) (.int .i64 (k : Int)) (pt bt ot), .val 4 (some 43) (pt bt (ot + 1)), .load 5 (some 44) 3 (pt bt (ot + 1)) (.int .i64 x.cd)] ⟨HIT.out _, ld_elA (HCT.out _ (HLT.out.below hM.b HHT.out)), trivial⟩ ?_
        refine cF (some 45) 14 #[pt B 0, .int .i64 x.cd] ((chnInclude_any x.cd _ (hM.oka 2 rfl) HC1.out.st HC1.out.tx HC1.out.po (by have := HC1.out.lk; omega) (by have := HC1.out.ev; omega)).mono ?_)
        rintro e Y13 ⟨rfl, v2, pv2, q2, bs2, hT⟩
        replace hM := hM.turn 2 rfl hT rfl
        clear hT
        refine dF ?_
        try simp only [puts, Tk.put, Act.put, List.setIfInBounds_toArray, List.set_cons_zero, List.set_cons_succ]
        go_upto_region 12 with fail
        refine wp_region_fromM (fun W => Sep w [] [.own evc 54 27 (.slice aw C.ev.length cw) (C.ev), .blk NB 32 (noc C.st.no), .join (CHR B ((inclC (submitC C x.tx) x.cd).1) v2 pv2 q2 bs2)] W) hM ?_
        clear hM
        rintro Y14 hM
        refine tF 6 [.val 0 (some 46) (pt B 0), .val 1 (some 47) (.slice pl l.length cl), .val 2 (some 48) (.int .i64 (k : Int)), .idx 3 (some 49) 22 (.slice pl l.length cl) (.int .i64 (k : Int)) (pt bt ot), .val 4 (some 50) (pt bt ot), .load 5 (some 51) 3 (pt bt ot) (.int .i64 x.tm)] ⟨HIT.out _, ld_elK (HCT.out _ (HLT.out.below hM.b HHT.out)), trivial⟩ ?_
        refine cF (some 52) 15 #[pt B 0, .int .i64 x.tm] ((chnRise_any x.tm _ (hM.oka 2 rfl) ⟨HC2.out.st.t0, HC2.out.st.t1⟩ (by have := HC2.out.lk; omega)).mono ?_)
        rintro e Y15 ⟨rfl, v3, pv3, q3, bs3, hT⟩
        replace hM := hM.turn 2 rfl hT rfl
        clear hT
        refine dF ?_
        try simp only [puts, Tk.put, Act.put, List.setIfInBounds_toArray, List.set_cons_zero, List.set_cons_succ]
        generalize (riseC (inclC (submitC C x.tx) x.cd).1 x.tm) = D at *
        clear HC1 HC2
        go_upto_region 13 with fail
        refine wp_region_fromM (fun W => Sep w [] [.own evc 54 27 (.slice aw C.ev.length cw) (C.ev), .blk NB 32 (noc C.st.no), .join (CHR B D v3 pv3 q3 bs3)] W) hM ?_
        clear hM
        rintro Y16 hM
        refine tF 1 [.val 0 (some 53) (pt B 0)] trivial ?_
        refine cF (some 54) 18 #[pt B 0, .int .i64 0] ((chnEvents0_any _ (ChV.of (hM.oka 2 rfl)) (by have := HD.out.ev; omega)).mono ?_)
        rintro e Y17 ⟨vn, rfl, hR⟩
        replace hM := hM.gain hR
        clear hR
        obtain ⟨an, cn, rfl⟩ := (hM.oka 0 rfl).slice evc_len
        refine tF 3 [.val 2 (some 12) (.slice an D.ev.length cn)] trivial ?_
        refine dF ?_
        try simp only [puts, Tk.put, Act.put, List.setIfInBounds_toArray, List.set_cons_zero, List.set_cons_succ]
        have htm := HST.out.1
        rcases HST.out.2 with ⟨hev, hno⟩ | ⟨e, hev, hen, hfr, hnn, hno⟩
        · have hlen : D.ev.length = C.ev.length := by rw [hev]
          have hget : ∀ j, j < C.ev.length → D.ev[j]? = C.ev[j]? := fun j hj => by rw [hev]
          have HE : Hid (D.st.no = C.st.no) := Lib.hid hno
          have HLEN := Lib.hid hlen
          have HGET := Lib.hid hget
          have HTM := Lib.hid htm
          clear hev hno hget hlen htm
          go_upto_region 14 with fail
          refine wp_region_fromM (fun W => Sep w [] [.own evc 54 27 (.slice an D.ev.length cn) (D.ev), .own evc 54 27 (.slice aw C.ev.length cw) (C.ev), .blk NB 32 (noc C.st.no), .join (CHR B D v3 pv3 q3 bs3)] W) hM ?_
          clear hM
          rintro Y18 hM
          refine tF 1 [.val 0 (some 55) (.slice an D.ev.length cn)] trivial ?_
          refine rF (some 56) (.int .i64 D.ev.length) (Y18) ?_
          refine tF 3 [.val 2 (some 57) (.slice aw C.ev.length cw)] trivial ?_
          refine rF (some 58) (.int .i64 C.ev.length) (Y18) ?_
          refine tF 7 [.alt 4 (some 59) (.bool (decide ((D.ev.length : Int) < (C.ev.length : Int)))) (.bool false), .val 5 (some 60) (.bool false), .val 6 (some 61) (.slice an D.ev.length cn)] ⟨congrArg Value.bool (decide_eq_false (by have := HLEN.out; omega)), trivial⟩ ?_
          refine rF (some 62) (.int .i64 D.ev.length) (Y18) ?_
          refine tF 9 [.val 8 (some 63) (.slice aw C.ev.length cw)] trivial ?_
          refine rF (some 64) (.int .i64 C.ev.length) (Y18) ?_
          refine tF 15 [.alt 10 (some 65) (.int .i64 (IntKind.i64.wrap ((C.ev.length : Int) + 1))) (.int .i64 ((C.ev.length : Int) + 1)), .alt 11 (some 66) (.bool (decide ((C.ev.length : Int) + 1 < (D.ev.length : Int)))) (.bool false), .val 12 (some 67) (.bool false), .val 13 (some 68) (.bool false), .val 14 (some 69) (pt B 0)] ⟨congrArg (Value.int .i64) (IntWalk.i64_in _ (by have := HC.out.ev; omega)), congrArg Value.bool (decide_eq_false (by have := HLEN.out; omega)), trivial⟩ ?_
          refine cF (some 70) 21 #[pt B 0] ((chnTime_any _ (ChV.of (hM.oka 3 rfl))).mono ?_)
          rintro e W1 ⟨rfl, hb⟩
          replace hM := hM.below hb
          clear hb
          refine tF 19 [.val 16 (some 71) (.int .i64 C.st.tm), .alt 17 (some 72) (.bool (decide (D.st.tm < C.st.tm))) (.bool false), .val 18 (some 73) (.bool false)] ⟨congrArg Value.bool (decide_eq_false (by have := HTM.out; omega)), trivial⟩ ?_
          refine dF ?_
          try simp only [puts, Tk.put, Act.put, List.setIfInBounds_toArray, List.set_cons_zero, List.set_cons_succ]
          go_upto_region 16 with fail
          refine wp_region_fromM (fun W => Sep w [] [.own evc 54 27 (.slice an D.ev.length cn) (D.ev), .own evc 54 27 (.slice aw C.ev.length cw) (C.ev), .blk NB 32 (noc C.st.no), .join (CHR B D v3 pv3 q3 bs3)] W) hM ?_
          clear hM
          rintro Y19 hM
          refine tF 1 [.val 0 (some 13) (.int .i64 0)] trivial ?_
          refine dF ?_
          try simp only [puts, Tk.put, Act.put, List.setIfInBounds_toArray, List.set_cons_zero, List.set_cons_succ]
          go_wp2_with fail
          go_loopw [13] (fun i wr => ∃ j : Nat, j ≤ C.ev.length ∧ i = .int .i64 (j : Nat) ∧ Sep w [] [.own evc 54 27 (.slice an D.ev.length cn) (D.ev), .own evc 54 27 (.slice aw C.ev.length cw) (C.ev), .blk NB 32 (noc C.st.no), .join (CHR B D v3 pv3 q3 bs3)] wr) (fun i _ => C.ev.length - (intOf i).toNat)
          case atStart => exact ⟨0, Nat.zero_le _, rfl, hM⟩
          clear hM
          case round =>
            obtain ⟨j, hj, rfl, hM⟩ := hrel
            by_cases hjl : j < C.ev.length
            · obtain ⟨y, hy⟩ : ∃ y, C.ev[j]? = some y := ⟨_, List.getElem?_eq_getElem hjl⟩
              have hy2 : D.ev[j]? = some y := (HGET.out j hjl).trans hy
              have HJ := Lib.hid hjl
              clear hjl
              obtain ⟨bn, on, hin, hcn⟩ := (hM.oka 0 rfl).elem evc_len hy2 Tryz.underlying38 (fun W => by kernel_rfl)
              have HIn := Lib.hid hin
              have HCn := Lib.hid hcn
              clear hin hcn
              obtain ⟨bo, oo, hio, hco⟩ := (hM.oka 1 rfl).elem evc_len hy Tryz.underlying38 (fun W => by kernel_rfl)
              have HIo := Lib.hid hio
              have HCo := Lib.hid hco
              clear hio hco
              clear hy hy2
              go_upto_region 17 with fail
              refine wp_region_fromM (fun W => Sep w [] [.own evc 54 27 (.slice an D.ev.length cn) (D.ev), .own evc 54 27 (.slice aw C.ev.length cw) (C.ev), .blk NB 32 (noc C.st.no), .join (CHR B D v3 pv3 q3 bs3)] W) hM ?_
              clear hM
              rintro Y20 hM
              refine tF 2 [.val 0 (some 74) (.int .i64 (j : Int)), .val 1 (some 75) (.slice aw C.ev.length cw)] trivial ?_
              refine rF (some 76) (.int .i64 C.ev.length) (Y20) ?_
              refine tF 4 [.alt 3 (some 77) (.bool (decide ((j : Int) < (C.ev.length : Int)))) (.bool true)] ⟨congrArg Value.bool (decide_eq_true (by have := HJ.out; omega)), trivial⟩ ?_
              refine dF ?_
              try simp only [puts, Tk.put, Act.put, List.setIfInBounds_toArray, List.set_cons_zero, List.set_cons_succ]
              go_upto_region 19 with fail
              refine wp_region_M (fun W => Sep w [] [.own evc 54 27 (.slice an D.ev.length cn) (D.ev), .own evc 54 27 (.slice aw C.ev.length cw) (C.ev), .blk NB 32 (noc C.st.no), .join (CHR B D v3 pv3 q3 bs3)] W) (fun W => Sep w [] [.own evc 54 27 (.slice an D.ev.length cn) (D.ev), .own evc 54 27 (.slice aw C.ev.length cw) (C.ev), .blk NB 32 (noc C.st.no), .join (CHR B D v3 pv3 q3 bs3)] W) hmx hM.drew ?_
              clear hM
              rintro Y21 hM
              have hS := hM.sub (.cons_cons _ (.cons_cons _ (.cons_cons _ (.cons_cons _ .slnil))))
              refine tD 1 [.val 0 (some 80) (.slice an D.ev.length cn), .val 1 (some 81) (.int .i64 (j : Int)), .idx 2 (some 82) 38 (.slice an D.ev.length cn) (.int .i64 (j : Int)) (pt bn on), .load 3 (some 83) 54 (pt bn on) (.agg (evc y).toArray), .val 4 (some 84) (.slice aw C.ev.length cw), .val 5 (some 85) (.int .i64 (j : Int)), .idx 6 (some 86) 38 (.slice aw C.ev.length cw) (.int .i64 (j : Int)) (pt bo oo), .load 7 (some 87) 54 (pt bo oo) (.agg (evc y).toArray)] ⟨fun W h => HIn.out _, fun W h => ld_elE _ _ Tryz.underlying54 rfl (by kernel_rfl) (HCn.out _ (h.oka 0 rfl)), fun W h => HIo.out _, fun W h => ld_elE _ _ Tryz.underlying54 rfl (by kernel_rfl) (HCo.out _ (h.oka 1 rfl)), trivial⟩ hS ?_
              refine oD 8 0 (unD (.tmp 83) (.tmp 87) 54 (some 88) (evc y).toArray (evc y).toArray true ((run_eqE y y _).trans (by rw [eqE_refl])) hS ?_)
              refine dD ?_
              try simp only [puts, Tk.put, Act.put, List.setIfInBounds_toArray, List.set_cons_zero, List.set_cons_succ]
              clear hS
              have hcv := HC.out.ev
              have hj2 := HJ.out
              have hk2 := HQ2.out
              have hwr : IntKind.i64.wrap ((j : Int) + 1) = ((j + 1 : Nat) : Int) := (IntWalk.i64_in _ (by omega)).trans (by omega)
              go_wp2_with fail
              go_roundw
              case rel => exact ⟨j + 1, HJ.out, by go_num, hM⟩
              case measure => have := HJ.out; simp [intOf]; omega
            · obtain rfl : j = C.ev.length := by omega
              go_upto_region 17 with fail
              refine wp_region_fromM (fun W => Sep w [] [.own evc 54 27 (.slice an D.ev.length cn) (D.ev), .own evc 54 27 (.slice aw C.ev.length cw) (C.ev), .blk NB 32 (noc C.st.no), .join (CHR B D v3 pv3 q3 bs3)] W) hM ?_
              clear hM
              rintro Y22 hM
              refine tF 2 [.val 0 (some 74) (.int .i64 (C.ev.length : Int)), .val 1 (some 75) (.slice aw C.ev.length cw)] trivial ?_
              refine rF (some 76) (.int .i64 C.ev.length) (Y22) ?_
              refine tF 4 [.alt 3 (some 77) (.bool (decide ((C.ev.length : Int) < (C.ev.length : Int)))) (.bool false)] ⟨congrArg Value.bool (decide_eq_false (by omega)), trivial⟩ ?_
              refine dF ?_
              try simp only [puts, Tk.put, Act.put, List.setIfInBounds_toArray, List.set_cons_zero, List.set_cons_succ]
              go_upto_region 21 with fail
              refine wp_region_fromM (fun W => Sep w [] [.own evc 54 27 (.slice an D.ev.length cn) (D.ev), .own evc 54 27 (.slice aw C.ev.length cw) (C.ev), .blk NB 32 (noc C.st.no), .join (CHR B D v3 pv3 q3 bs3)] W) hM ?_
              clear hM
              rintro Y23 hM
              refine tF 1 [.val 0 (some 89) (.slice an D.ev.length cn)] trivial ?_
              refine rF (some 90) (.int .i64 D.ev.length) (Y23) ?_
              refine tF 3 [.val 2 (some 91) (.slice aw C.ev.length cw)] trivial ?_
              refine rF (some 92) (.int .i64 C.ev.length) (Y23) ?_
              refine tF 5 [.alt 4 (some 93) (.bool (decide ((C.ev.length : Int) < (D.ev.length : Int)))) (.bool false)] ⟨congrArg Value.bool (decide_eq_false (by have := HLEN.out; omega)), trivial⟩ ?_
              refine dF ?_
              try simp only [puts, Tk.put, Act.put, List.setIfInBounds_toArray, List.set_cons_zero, List.set_cons_succ]
              rw [← HE.out] at hM
              go_upto_region 26 with fail
              refine wp_region_fromM (fun W => Sep w [] [.own evc 54 27 (.slice an D.ev.length cn) (D.ev), .own evc 54 27 (.slice aw C.ev.length cw) (C.ev), .blk NB 32 (noc D.st.no), .join (CHR B D v3 pv3 q3 bs3)] W) hM ?_
              clear hM
              rintro Y24 hM
              refine tF 2 [.val 0 (some 113) (.slice an D.ev.length cn), .val 1 (some 114) (pt B 0)] trivial ?_
              refine cF (some 115) 21 #[pt B 0] ((chnTime_any _ (ChV.of (hM.oka 3 rfl))).mono ?_)
              rintro e W1 ⟨rfl, hb⟩
              replace hM := hM.below hb
              clear hb
              refine tF 5 [.val 3 (some 8) (.slice an D.ev.length cn), .val 4 (some 10) (.int .i64 D.st.tm)] trivial ?_
              refine dF ?_
              try simp only [puts, Tk.put, Act.put, List.setIfInBounds_toArray, List.set_cons_zero, List.set_cons_succ]
              have hM5 := Lib.hid (Sep.pick (l' := [.own evc 54 27 (.slice an D.ev.length cn) (D.ev), .blk NB 32 (noc D.st.no), .join (CHR B D v3 pv3 q3 bs3)]) hM [0, 2, 3] (by decide) rfl)
              clear hM
              have hq3 := HQ.out
              have hq4 := HQ2.out
              have hwr : IntKind.i64.wrap ((k : Int) + 1) = ((k + 1 : Nat) : Int) := (IntWalk.i64_in _ (by omega)).trans (by omega)
              go_wp2_with fail
              go_roundw
              case rel => exact ⟨k + 1, D, v3, pv3, q3, bs3, HQ.out, HQ2.out, by go_num, rfl, HD.out, hM5.out⟩
              case measure => have := HQ2.out; simp [intOf]; omega
        · have hlen : D.ev.length = C.ev.length + 1 := by rw [hev, List.length_append]; rfl
          have hget : ∀ j, j < C.ev.length → D.ev[j]? = C.ev[j]? := fun j hj => by rw [hev, List.getElem?_append_left hj]
          have hgl : D.ev[C.ev.length]? = some e := by rw [hev, List.getElem?_append_right (Nat.le_refl _), Nat.sub_self]; rfl
          have HE : Hid (D.st.no = updNo C.st.no e.tx.fr.toNat (C.st.no e.tx.fr.toNat + 1) ∧ e.tx.no = C.st.no e.tx.fr.toNat ∧ (0 ≤ e.tx.fr ∧ e.tx.fr ≤ 7) ∧ (0 ≤ e.tx.no ∧ e.tx.no ≤ 1099511627776) ∧ D.ev[C.ev.length]? = some e) := Lib.hid ⟨hno, hen, hfr, hnn, hgl⟩
          clear hen hfr hnn hgl
          have HLEN := Lib.hid hlen
          have HGET := Lib.hid hget
          have HTM := Lib.hid htm
          clear hev hno hget hlen htm
          go_upto_region 14 with fail
          refine wp_region_fromM (fun W => Sep w [] [.own evc 54 27 (.slice an D.ev.length cn) (D.ev), .own evc 54 27 (.slice aw C.ev.length cw) (C.ev), .blk NB 32 (noc C.st.no), .join (CHR B D v3 pv3 q3 bs3)] W) hM ?_
          clear hM
          rintro Y25 hM
          refine tF 1 [.val 0 (some 55) (.slice an D.ev.length cn)] trivial ?_
          refine rF (some 56) (.int .i64 D.ev.length) (Y25) ?_
          refine tF 3 [.val 2 (some 57) (.slice aw C.ev.length cw)] trivial ?_
          refine rF (some 58) (.int .i64 C.ev.length) (Y25) ?_
          refine tF 7 [.alt 4 (some 59) (.bool (decide ((D.ev.length : Int) < (C.ev.length : Int)))) (.bool false), .val 5 (some 60) (.bool false), .val 6 (some 61) (.slice an D.ev.length cn)] ⟨congrArg Value.bool (decide_eq_false (by have := HLEN.out; omega)), trivial⟩ ?_
          refine rF (some 62) (.int .i64 D.ev.length) (Y25) ?_
          refine tF 9 [.val 8 (some 63) (.slice aw C.ev.length cw)] trivial ?_
          refine rF (some 64) (.int .i64 C.ev.length) (Y25) ?_
          refine tF 15 [.alt 10 (some 65) (.int .i64 (IntKind.i64.wrap ((C.ev.length : Int) + 1))) (.int .i64 ((C.ev.length : Int) + 1)), .alt 11 (some 66) (.bool (decide ((C.ev.length : Int) + 1 < (D.ev.length : Int)))) (.bool false), .val 12 (some 67) (.bool false), .val 13 (some 68) (.bool false), .val 14 (some 69) (pt B 0)] ⟨congrArg (Value.int .i64) (IntWalk.i64_in _ (by have := HC.out.ev; omega)), congrArg Value.bool (decide_eq_false (by have := HLEN.out; omega)), trivial⟩ ?_
          refine cF (some 70) 21 #[pt B 0] ((chnTime_any _ (ChV.of (hM.oka 3 rfl))).mono ?_)
          rintro e W1 ⟨rfl, hb⟩
          replace hM := hM.below hb
          clear hb
          refine tF 19 [.val 16 (some 71) (.int .i64 C.st.tm), .alt 17 (some 72) (.bool (decide (D.st.tm < C.st.tm))) (.bool false), .val 18 (some 73) (.bool false)] ⟨congrArg Value.bool (decide_eq_false (by have := HTM.out; omega)), trivial⟩ ?_
          refine dF ?_
          try simp only [puts, Tk.put, Act.put, List.setIfInBounds_toArray, List.set_cons_zero, List.set_cons_succ]
          go_upto_region 16 with fail
          refine wp_region_fromM (fun W => Sep w [] [.own evc 54 27 (.slice an D.ev.length cn) (D.ev), .own evc 54 27 (.slice aw C.ev.length cw) (C.ev), .blk NB 32 (noc C.st.no), .join (CHR B D v3 pv3 q3 bs3)] W) hM ?_
          clear hM
          rintro Y26 hM
          refine tF 1 [.val 0 (some 13) (.int .i64 0)] trivial ?_
          refine dF ?_
          try simp only [puts, Tk.put, Act.put, List.setIfInBounds_toArray, List.set_cons_zero, List.set_cons_succ]
          go_wp2_with fail
          go_loopw [13] (fun i wr => ∃ j : Nat, j ≤ C.ev.length ∧ i = .int .i64 (j : Nat) ∧ Sep w [] [.own evc 54 27 (.slice an D.ev.length cn) (D.ev), .own evc 54 27 (.slice aw C.ev.length cw) (C.ev), .blk NB 32 (noc C.st.no), .join (CHR B D v3 pv3 q3 bs3)] wr) (fun i _ => C.ev.length - (intOf i).toNat)
          case atStart => exact ⟨0, Nat.zero_le _, rfl, hM⟩
          clear hM
          case round =>
            obtain ⟨j, hj, rfl, hM⟩ := hrel
            by_cases hjl : j < C.ev.length
            · obtain ⟨y, hy⟩ : ∃ y, C.ev[j]? = some y := ⟨_, List.getElem?_eq_getElem hjl⟩
              have hy2 : D.ev[j]? = some y := (HGET.out j hjl).trans hy
              have HJ := Lib.hid hjl
              clear hjl
              obtain ⟨bn, on, hin, hcn⟩ := (hM.oka 0 rfl).elem evc_len hy2 Tryz.underlying38 (fun W => by kernel_rfl)
              have HIn := Lib.hid hin
              have HCn := Lib.hid hcn
              clear hin hcn
              obtain ⟨bo, oo, hio, hco⟩ := (hM.oka 1 rfl).elem evc_len hy Tryz.underlying38 (fun W => by kernel_rfl)
              have HIo := Lib.hid hio
              have HCo := Lib.hid hco
              clear hio hco
              clear hy hy2
              go_upto_region 17 with fail
              refine wp_region_fromM (fun W => Sep w [] [.own evc 54 27 (.slice an D.ev.length cn) (D.ev), .own evc 54 27 (.slice aw C.ev.length cw) (C.ev), .blk NB 32 (noc C.st.no), .join (CHR B D v3 pv3 q3 bs3)] W) hM ?_
              clear hM
              rintro Y27 hM
              refine tF 2 [.val 0 (some 74) (.int .i64 (j : Int)), .val 1 (some 75) (.slice aw C.ev.length cw)] trivial ?_
              refine rF (some 76) (.int .i64 C.ev.length) (Y27) ?_
              refine tF 4 [.alt 3 (some 77) (.bool (decide ((j : Int) < (C.ev.length : Int)))) (.bool true)] ⟨congrArg Value.bool (decide_eq_true (by have := HJ.out; omega)), trivial⟩ ?_
              refine dF ?_
              try simp only [puts, Tk.put, Act.put, List.setIfInBounds_toArray, List.set_cons_zero, List.set_cons_succ]
              go_upto_region 19 with fail
              refine wp_region_M (fun W => Sep w [] [.own evc 54 27 (.slice an D.ev.length cn) (D.ev), .own evc 54 27 (.slice aw C.ev.length cw) (C.ev), .blk NB 32 (noc C.st.no), .join (CHR B D v3 pv3 q3 bs3)] W) (fun W => Sep w [] [.own evc 54 27 (.slice an D.ev.length cn) (D.ev), .own evc 54 27 (.slice aw C.ev.length cw) (C.ev), .blk NB 32 (noc C.st.no), .join (CHR B D v3 pv3 q3 bs3)] W) hmx hM.drew ?_
              clear hM
              rintro Y28 hM
              have hS := hM.sub (.cons_cons _ (.cons_cons _ (.cons_cons _ (.cons_cons _ .slnil))))
              refine tD 1 [.val 0 (some 80) (.slice an D.ev.length cn), .val 1 (some 81) (.int .i64 (j : Int)), .idx 2 (some 82) 38 (.slice an D.ev.length cn) (.int .i64 (j : Int)) (pt bn on), .load 3 (some 83) 54 (pt bn on) (.agg (evc y).toArray), .val 4 (some 84) (.slice aw C.ev.length cw), .val 5 (some 85) (.int .i64 (j : Int)), .idx 6 (some 86) 38 (.slice aw C.ev.length cw) (.int .i64 (j : Int)) (pt bo oo), .load 7 (some 87) 54 (pt bo oo) (.agg (evc y).toArray)] ⟨fun W h => HIn.out _, fun W h => ld_elE _ _ Tryz.underlying54 rfl (by kernel_rfl) (HCn.out _ (h.oka 0 rfl)), fun W h => HIo.out _, fun W h => ld_elE _ _ Tryz.underlying54 rfl (by kernel_rfl) (HCo.out _ (h.oka 1 rfl)), trivial⟩ hS ?_
              refine oD 8 0 (unD (.tmp 83) (.tmp 87) 54 (some 88) (evc y).toArray (evc y).toArray true ((run_eqE y y _).trans (by rw [eqE_refl])) hS ?_)
              refine dD ?_
              try simp only [puts, Tk.put, Act.put, List.setIfInBounds_toArray, List.set_cons_zero, List.set_cons_succ]
              clear hS
              have hcv := HC.out.ev
              have hj2 := HJ.out
              have hk2 := HQ2.out
              have hwr : IntKind.i64.wrap ((j : Int) + 1) = ((j + 1 : Nat) : Int) := (IntWalk.i64_in _ (by omega)).trans (by omega)
              go_wp2_with fail
              go_roundw
              case rel => exact ⟨j + 1, HJ.out, by go_num, hM⟩
              case measure => have := HJ.out; simp [intOf]; omega
            · obtain rfl : j = C.ev.length := by omega
              go_upto_region 17 with fail
              refine wp_region_fromM (fun W => Sep w [] [.own evc 54 27 (.slice an D.ev.length cn) (D.ev), .own evc 54 27 (.slice aw C.ev.length cw) (C.ev), .blk NB 32 (noc C.st.no), .join (CHR B D v3 pv3 q3 bs3)] W) hM ?_
              clear hM
              rintro Y29 hM
              refine tF 2 [.val 0 (some 74) (.int .i64 (C.ev.length : Int)), .val 1 (some 75) (.slice aw C.ev.length cw)] trivial ?_
              refine rF (some 76) (.int .i64 C.ev.length) (Y29) ?_
              refine tF 4 [.alt 3 (some 77) (.bool (decide ((C.ev.length : Int) < (C.ev.length : Int)))) (.bool false)] ⟨congrArg Value.bool (decide_eq_false (by omega)), trivial⟩ ?_
              refine dF ?_
              try simp only [puts, Tk.put, Act.put, List.setIfInBounds_toArray, List.set_cons_zero, List.set_cons_succ]
              go_upto_region 21 with fail
              refine wp_region_fromM (fun W => Sep w [] [.own evc 54 27 (.slice an D.ev.length cn) (D.ev), .own evc 54 27 (.slice aw C.ev.length cw) (C.ev), .blk NB 32 (noc C.st.no), .join (CHR B D v3 pv3 q3 bs3)] W) hM ?_
              clear hM
              rintro Y30 hM
              refine tF 1 [.val 0 (some 89) (.slice an D.ev.length cn)] trivial ?_
              refine rF (some 90) (.int .i64 D.ev.length) (Y30) ?_
              refine tF 3 [.val 2 (some 91) (.slice aw C.ev.length cw)] trivial ?_
              refine rF (some 92) (.int .i64 C.ev.length) (Y30) ?_
              refine tF 5 [.alt 4 (some 93) (.bool (decide ((C.ev.length : Int) < (D.ev.length : Int)))) (.bool true)] ⟨congrArg Value.bool (decide_eq_true (by have := HLEN.out; omega)), trivial⟩ ?_
              refine dF ?_
              try simp only [puts, Tk.put, Act.put, List.setIfInBounds_toArray, List.set_cons_zero, List.set_cons_succ]
              have hge := HE.out.2.2.2.2
              obtain ⟨be, oe, hie, hce⟩ := (hM.oka 0 rfl).elem evc_len hge Tryz.underlying38 (fun W => by kernel_rfl)
              have HIe := Lib.hid hie
              have HCe := Lib.hid hce
              clear hie hce
              clear hge
              go_upto_region 22 with fail
              refine wp_region_fromM (fun W => Sep w [] [.own evc 54 27 (.slice an D.ev.length cn) (D.ev), .own evc 54 27 (.slice aw C.ev.length cw) (C.ev), .blk NB 32 (noc C.st.no), .join (CHR B D v3 pv3 q3 bs3)] W) hM ?_
              clear hM
              rintro Y31 hM
              refine tF 2 [.val 0 (some 94) (.slice an D.ev.length cn), .val 1 (some 95) (.slice aw C.ev.length cw)] trivial ?_
              refine rF (some 96) (.int .i64 C.ev.length) (Y31) ?_
              refine tF 6 [.idx 3 (some 97) 38 (.slice an D.ev.length cn) (.int .i64 C.ev.length) (pt be oe), .val 4 (some 98) (pt be (oe + 2)), .load 5 (some 99) 44 (pt be (oe + 2)) (txv e.tx)] ⟨HIe.out _, ld_elT (HCe.out _ (hM.oka 0 rfl)), trivial⟩ ?_
              refine rF (some 14) (pt Y31.heap.size 0) (Y31.alloc (.cells (txc noT).toArray 44)) ?_
              replace hM := hM.alloc 44 (txc noT)
              generalize World.alloc _ _ = Y32 at *
              generalize hNe : Y31.heap.size = X at *
              clear hNe
              refine sF 44 (pt X 0) (txv e.tx) (sto_txB (hM.at 0 rfl) e.tx) ?_
              replace hM := hM.set 0 (cs' := txc e.tx) rfl rfl
              generalize World.setRow _ _ _ = Y33 at *
              refine dF ?_
              try simp only [puts, Tk.put, Act.put, List.setIfInBounds_toArray, List.set_cons_zero, List.set_cons_succ]
              go_upto_region 23 with fail
              refine wp_region_M (fun W => Sep w [] [.blk X 44 (txc e.tx), .own evc 54 27 (.slice an D.ev.length cn) (D.ev), .own evc 54 27 (.slice aw C.ev.length cw) (C.ev), .blk NB 32 (noc C.st.no), .join (CHR B D v3 pv3 q3 bs3)] W) (fun W => Sep w [] [.blk X 44 (txc e.tx), .own evc 54 27 (.slice an D.ev.length cn) (D.ev), .own evc 54 27 (.slice aw C.ev.length cw) (C.ev), .blk NB 32 (noc C.st.no), .join (CHR B D v3 pv3 q3 bs3)] W) hmx hM.drew ?_
              clear hM
              rintro Y34 hM
              have hS := hM.sub (.cons_cons _ (.cons_cons _ (.cons_cons _ (.cons_cons _ (.cons_cons _ .slnil)))))
              refine tD 0 [.val 0 (some 100) (pt X 1), .load 1 (some 101) 3 (pt X 1) (.int .i64 e.tx.no), .val 2 (some 102) (pt X 0), .load 3 (some 103) 3 (pt X 0) (.int .i64 e.tx.fr), .idx 4 (some 104) 32 (pt NB 0) (.int .i64 e.tx.fr) (pt NB (0 + e.tx.fr.toNat)), .load 5 (some 105) 3 (pt NB (0 + e.tx.fr.toNat)) (.int .i64 (C.st.no e.tx.fr.toNat)), .alt 6 (some 106) (.bool (e.tx.no != C.st.no e.tx.fr.toNat)) (.bool false)] ⟨fun W h => ld_int (h.at 0 rfl) 1 rfl, fun W h => ld_int (h.at 0 rfl) 0 rfl, fun W h => idx_8 HE.out.2.2.1, fun W h => ld_no8 (h.at 3 rfl) (by have := HE.out.2.2.1; omega), congrArg Value.bool (bne_eq_false_iff_eq.2 HE.out.2.1), trivial⟩ hS ?_
              refine dD ?_
              try simp only [puts, Tk.put, Act.put, List.setIfInBounds_toArray, List.set_cons_zero, List.set_cons_succ]
              clear hS
              go_upto_region 25 with fail
              refine wp_region_fromM (fun W => Sep w [] [.blk X 44 (txc e.tx), .own evc 54 27 (.slice an D.ev.length cn) (D.ev), .own evc 54 27 (.slice aw C.ev.length cw) (C.ev), .blk NB 32 (noc C.st.no), .join (CHR B D v3 pv3 q3 bs3)] W) hM ?_
              clear hM
              rintro Y35 hM
              refine tF 6 [.val 0 (some 107) (pt X 0), .load 1 (some 108) 3 (pt X 0) (.int .i64 e.tx.fr), .idx 2 (some 109) 32 (pt NB 0) (.int .i64 e.tx.fr) (pt NB (0 + e.tx.fr.toNat)), .load 3 (some 110) 3 (pt NB (0 + e.tx.fr.toNat)) (.int .i64 (C.st.no e.tx.fr.toNat)), .alt 4 (some 111) (.int .i64 (IntKind.i64.wrap (C.st.no e.tx.fr.toNat + 1))) (.int .i64 (C.st.no e.tx.fr.toNat + 1)), .idx 5 (some 112) 32 (pt NB 0) (.int .i64 e.tx.fr) (pt NB (0 + e.tx.fr.toNat))] ⟨ld_int (hM.at 0 rfl) 0 rfl, idx_8 HE.out.2.2.1, ld_no8 (hM.at 3 rfl) (by have := HE.out.2.2.1; omega), congrArg (Value.int .i64) (IntWalk.i64_in _ (by have h1 := HE.out.2.1; have h2 := HE.out.2.2.2.1; omega)), idx_8 HE.out.2.2.1, trivial⟩ ?_
              refine sF 3 (pt NB (0 + e.tx.fr.toNat)) (.int .i64 (C.st.no e.tx.fr.toNat + 1)) (sto_no8 (hM.at 3 rfl) (by have := HE.out.2.2.1; omega) _) ?_
              replace hM := hM.set 3 (cs' := noc (updNo C.st.no e.tx.fr.toNat (C.st.no e.tx.fr.toNat + 1))) rfl rfl
              generalize World.setRow _ _ _ = Y36 at *
              refine dF ?_
              try simp only [puts, Tk.put, Act.put, List.setIfInBounds_toArray, List.set_cons_zero, List.set_cons_succ]
              have hno := HE.out.1
              rw [← hno] at hM
              clear hno
              go_upto_region 26 with fail
              refine wp_region_fromM (fun W => Sep w [] [.blk X 44 (txc e.tx), .own evc 54 27 (.slice an D.ev.length cn) (D.ev), .own evc 54 27 (.slice aw C.ev.length cw) (C.ev), .blk NB 32 (noc D.st.no), .join (CHR B D v3 pv3 q3 bs3)] W) hM ?_
              clear hM
              rintro Y37 hM
              refine tF 2 [.val 0 (some 113) (.slice an D.ev.length cn), .val 1 (some 114) (pt B 0)] trivial ?_
              refine cF (some 115) 21 #[pt B 0] ((chnTime_any _ (ChV.of (hM.oka 4 rfl))).mono ?_)
              rintro e W1 ⟨rfl, hb⟩
              replace hM := hM.below hb
              clear hb
              refine tF 5 [.val 3 (some 8) (.slice an D.ev.length cn), .val 4 (some 10) (.int .i64 D.st.tm)] trivial ?_
              refine dF ?_
              try simp only [puts, Tk.put, Act.put, List.setIfInBounds_toArray, List.set_cons_zero, List.set_cons_succ]
              have hM5 := Lib.hid (Sep.pick (l' := [.own evc 54 27 (.slice an D.ev.length cn) (D.ev), .blk NB 32 (noc D.st.no), .join (CHR B D v3 pv3 q3 bs3)]) hM [1, 3, 4] (by decide) rfl)
              clear hM
              have hq3 := HQ.out
              have hq4 := HQ2.out
              have hwr : IntKind.i64.wrap ((k : Int) + 1) = ((k + 1 : Nat) : Int) := (IntWalk.i64_in _ (by omega)).trans (by omega)
              go_wp2_with fail
              go_roundw
              case rel => exact ⟨k + 1, D, v3, pv3, q3, bs3, HQ.out, HQ2.out, by go_num, rfl, HD.out, hM5.out⟩
              case measure => have := HQ2.out; simp [intOf]; omega
      go_upto_region 8 with fail
      refine wp_region_fromM (fun W => Sep w [] [.own evc 54 27 (.slice aw C.ev.length cw) (C.ev), .blk NB 32 (noc C.st.no), .join (CHR B C v pv q bs)] W) hM ?_
      clear hM
      rintro Y38 hM
      refine tF 2 [.val 0 (some 22) (.int .i64 (k : Int)), .val 1 (some 23) (.slice pl l.length cl)] trivial ?_
      refine rF (some 24) (.int .i64 l.length) (Y38) ?_
      refine tF 8 [.alt 3 (some 25) (.bool (decide ((k : Int) < (l.length : Int)))) (.bool true), .val 4 (some 26) (.bool true), .val 5 (some 27) (.int .i64 (k : Int)), .alt 6 (some 28) (.bool (decide ((k : Int) < 30))) (.bool false), .val 7 (some 29) (.bool false)] ⟨congrArg Value.bool (decide_eq_true (by omega)), congrArg Value.bool (decide_eq_false (by omega)), trivial⟩ ?_
      refine dF ?_
      try simp only [puts, Tk.put, Act.put, List.setIfInBounds_toArray, List.set_cons_zero, List.set_cons_succ]
      go_upto_region 27 with fail
      refine wp_region_M (fun W => Sep w [] [.own evc 54 27 (.slice aw C.ev.length cw) (C.ev), .blk NB 32 (noc C.st.no), .join (CHR B C v pv q bs)] W) (fun W => Sep w [] [.own evc 54 27 (.slice aw C.ev.length cw) (C.ev), .blk NB 32 (noc C.st.no), .join (CHR B C v pv q bs)] W) hmx hM.drew ?_
      clear hM
      rintro Y39 hM
      have hS := hM.sub (.cons_cons _ (.cons_cons _ (.cons_cons _ .slnil)))
      refine tD 4 [.val 0 (some 116) (pt B 0), .load 3 (some 119) 32 (pt NB 0) (.agg (noc C.st.no).toArray)] ⟨fun W h => ld_no8A (h.at 1 rfl), trivial⟩ hS ?_
      refine oD 1 3 (cD (some 117) 20 #[pt B 0] ((chnState_any _ (ChV.of (hM.oka 2 rfl)) (by have := HC.out.lk; omega)).mono ?_))
      rintro e Y40 ⟨vs, rfl, hR⟩
      refine And.intro (hS.below hR.b) ?_
      replace hS := hS.below hR.b
      replace hM := hM.gain hR
      clear hR
      refine tD 2 [.val 2 (some 118) (.agg (noc C.st.no).toArray)] trivial hS ?_
      refine oD 4 1 (eqD (.tmp 118) (.tmp 119) 32 (some 120) (noc C.st.no).toArray (noc C.st.no).toArray true (eq_no Tryz.underlying32 9998 C.st.no _) hS ?_)
      refine tD 0 [.val 5 (some 6) (.bool true)] trivial hS ?_
      refine dD ?_
      try simp only [puts, Tk.put, Act.put, List.setIfInBounds_toArray, List.set_cons_zero, List.set_cons_succ]
      clear hS
      go_wp2_with fail
      go_ret
      exact ⟨rfl, hM.b⟩
    go_upto_region 8 with fail
    refine wp_region_fromM (fun W => Sep w [] [.own evc 54 27 (.slice aw C.ev.length cw) (C.ev), .blk NB 32 (noc C.st.no), .join (CHR B C v pv q bs)] W) hM ?_
    clear hM
    rintro Y41 hM
    refine tF 2 [.val 0 (some 22) (.int .i64 (k : Int)), .val 1 (some 23) (.slice pl l.length cl)] trivial ?_
    refine rF (some 24) (.int .i64 l.length) (Y41) ?_
    refine tF 8 [.alt 3 (some 25) (.bool (decide ((k : Int) < (l.length : Int)))) (.bool false), .val 4 (some 26) (.bool false), .skip 5 (some 27), .skip 6 (some 28), .val 7 (some 29) (.bool false)] ⟨congrArg Value.bool (decide_eq_false (by omega)), trivial⟩ ?_
    refine dF ?_
    try simp only [puts, Tk.put, Act.put, List.setIfInBounds_toArray, List.set_cons_zero, List.set_cons_succ]
    go_upto_region 27 with fail
    refine wp_region_M (fun W => Sep w [] [.own evc 54 27 (.slice aw C.ev.length cw) (C.ev), .blk NB 32 (noc C.st.no), .join (CHR B C v pv q bs)] W) (fun W => Sep w [] [.own evc 54 27 (.slice aw C.ev.length cw) (C.ev), .blk NB 32 (noc C.st.no), .join (CHR B C v pv q bs)] W) hmx hM.drew ?_
    clear hM
    rintro Y42 hM
    have hS := hM.sub (.cons_cons _ (.cons_cons _ (.cons_cons _ .slnil)))
    refine tD 4 [.val 0 (some 116) (pt B 0), .load 3 (some 119) 32 (pt NB 0) (.agg (noc C.st.no).toArray)] ⟨fun W h => ld_no8A (h.at 1 rfl), trivial⟩ hS ?_
    refine oD 1 3 (cD (some 117) 20 #[pt B 0] ((chnState_any _ (ChV.of (hM.oka 2 rfl)) (by have := HC.out.lk; omega)).mono ?_))
    rintro e Y43 ⟨vs, rfl, hR⟩
    refine And.intro (hS.below hR.b) ?_
    replace hS := hS.below hR.b
    replace hM := hM.gain hR
    clear hR
    refine tD 2 [.val 2 (some 118) (.agg (noc C.st.no).toArray)] trivial hS ?_
    refine oD 4 1 (eqD (.tmp 118) (.tmp 119) 32 (some 120) (noc C.st.no).toArray (noc C.st.no).toArray true (eq_no Tryz.underlying32 9998 C.st.no _) hS ?_)
    refine tD 0 [.val 5 (some 6) (.bool true)] trivial hS ?_
    refine dD ?_
    try simp only [puts, Tk.put, Act.put, List.setIfInBounds_toArray, List.set_cons_zero, List.set_cons_succ]
    clear hS
    go_wp2_with fail
    go_ret
    exact ⟨rfl, hM.b⟩
end Go.Proofs.YtfoemkmoambagaaGreat
namespace Go.Proofs.YtfoemkmoambagaaGreat
open Go.ChangeShapes Go.WideShapes Go.ChangeAt Go.RowKit Go.Deep
open Go.ChangeMaps (open_string)
set_option maxRecDepth 100000 in
theorem chainStays_lifted (os : Os) (started : os.Started) (H : Type) (enc : TypeId × Value → H) :
    ReturnsInHanded {} Tryz.checked os 6 .any (Rows.chainStaysSpec.pre6 enc Tryz.prog Tryz.f6 Rows.chainStaysRow.domain false) (Rows.chainStaysSpec.post enc Tryz.prog Tryz.f6 false true false false) := by
  refine returnsInHanded_of_change_sized (C := Tryz.checked) Tryz.own started (by kernel_rfl) Tryz.func6
    (ChangeSpec.witness6 (enc := enc) (C := Tryz.checked) false ⟨#[], #[.int .i64 0, .int .i64 0, .slice none 0 0], []⟩ 8 (by kernel_rfl) (by kernel_rfl) (by kernel_rfl) (by kernel_rfl)) ?_
  intro W base args ds gs before hval0 hW hcnd hsz0 _
  have hval : ∀ (j : Nat) t v, Tryz.f6.params[j]? = some t → args[j]? = some v → Value.okWide Tryz.prog W .any base t v := hval0
  have hW' := hW
  obtain ⟨p, q, hA0, hV, rfl, hfz, hnd⟩ := hW
  have hA : DataW.TrodAll enc Tryz.prog W 0 (fun _ => true) true Tryz.f6.params.toList args.toList ds p := hA0
  have hsz : (DataW.weightsEach Tryz.prog (Tryz.f6.params.toList ++ Rows.chainStaysSpec.plain.varTypes Tryz.prog) (ds ++ gs)).all (· ≤ reachBytes) = true := hsz0
  rw [Tryz.params6] at hA hval hsz
  obtain ⟨v0, v1, v2, d0, d1, d2, p0, p1, p2, rfl, rfl, rfl, h0, h1, h2⟩ := trodAll_three hA
  obtain ⟨rfl, rfl⟩ := trodVars_none hV
  obtain ⟨a2, len2, cap2, rfl⟩ := okWide_slice Tryz.underlying22 (hval 2 22 v2 rfl rfl)
  have k0 := h0
  have k1 := h1
  have k2 := h2
  have lt0 : ∀ x ∈ p0, x.block < W.heap.size := by obtain ⟨m, hm⟩ := k0; exact DataW.trod_lt m _ _ _ hm
  have lt1 : ∀ x ∈ p1, x.block < W.heap.size := by obtain ⟨m, hm⟩ := k1; exact DataW.trod_lt m _ _ _ hm
  have lt2 : ∀ x ∈ p2, x.block < W.heap.size := by obtain ⟨m, hm⟩ := k2; exact DataW.trod_lt m _ _ _ hm
  obtain ⟨z0, rfl, _, _, wf0⟩ := open_int Tryz.underlying3 (hval 0 3 v0 rfl rfl) h0
  obtain ⟨zl0, zh0⟩ := wf_i64 wf0
  obtain ⟨z1, rfl, _, _, wf1⟩ := open_int Tryz.underlying3 (hval 1 3 v1 rfl rfl) h1
  obtain ⟨zl1, zh1⟩ := wf_i64 wf1
  obtain ⟨l2, hsl2, hok2⟩ := open_ops h2 (fun n hn => sized_in hsz (j := 2) (t := 22) rfl rfl n hn)
  clear hA0 hval0
  refine (chainStays_any z0 z1 l2 _ W hsl2 (Nat.le_refl _) hok2).mono fun e W' ⟨he, bel⟩ => ?_
  subst he
  exact ⟨_, rfl, _, _, _, [], _, [], hW', trodAll_mk1 (shut_bool Tryz.underlying4 _), (trodAll_mk3 (Below.trod Tryz.laidOut (by kernel_rfl) (of_decide_eq_true (by kernel_rfl)) k0 bel lt0) (Below.trod Tryz.laidOut (by kernel_rfl) (of_decide_eq_true (by kernel_rfl)) k1 bel lt1) (Below.trod Tryz.laidOut (by kernel_rfl) (of_decide_eq_true (by kernel_rfl)) k2 bel lt2)), rfl, bel.frame _, fun h => by cases h⟩
theorem chainStays_over : Rows.chainStaysRow.holds Tryz.pinned (OpenSpec.ofChange Rows.chainStaysSpec) :=
  OpenClaim.holds_of_wide 6 Tryz.f6 rfl rfl rfl rfl rfl rfl rfl ⟨rfl, rfl, rfl, rfl, rfl⟩ rfl rfl rfl rfl rfl (by kernel_rfl) Tryz.func6 (by kernel_rfl)
    (of_decide_eq_true (by kernel_rfl)) (by unfold Func.isWrapper; first | (rw [if_pos (by decide +kernel)]; kernel_rfl) | (rw [if_neg (by decide +kernel)]; exact ⟨rfl, rfl⟩))
    (fun os started H enc _ => chainStays_lifted os started H enc)
theorem chainStays_proved : Rows.ChainStaysSaid := chainStays_over
end Go.Proofs.YtfoemkmoambagaaGreat
