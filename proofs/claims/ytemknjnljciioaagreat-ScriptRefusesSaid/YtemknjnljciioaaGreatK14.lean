/-
  The law: which steps can't be put, and how many; a beginning that ends within a step is none's; What all readings of arguments share; A slice of octets among the arguments; Sizes within an argument; A number and a text have one cell each; Octets within something that is handed in; A struct's value is its cells; Steps among the arguments
-/
import Derived.Test.YtemknjnljciioaaGreatRows
import Derived.ProofKit
import Derived.OpenShut
import Derived.Laws.IdiomArrays
import Derived.Lib.SmallJoins
import Derived.Below
import Derived.Deep.Slices
import Derived.SizedLaws
import Derived.Carry
import Derived.ChangeMaps5
import Derived.JoinedCond
import Derived.Deep.Fields
import Derived.Test.YtemknjnljciioaaGreatK13
namespace Go.Proofs.YtemknjnljciioaaGreat
open Go.RowKit Go.Shelf
attribute [local irreducible] wpFrom wpAnyH StepH
theorem made_sp (n : Nat) : (madeCells (Value.agg (spc noSp).toArray).cells (n * 5)).toList = flatR spc (List.replicate n noSp) := by
  apply List.ext_getElem?
  intro j
  by_cases hj : j < n * 5
  · have hk : j / 5 < n := by omega
    have hc := flat_cell (f := spc) spc_len (l := List.replicate n noSp) (k := j / 5) (x := noSp) (by rw [List.getElem?_replicate, if_pos hk]) (j := j % 5) (by omega)
    rw [show j / 5 * 5 + j % 5 = j by omega] at hc
    rw [hc]
    simp only [madeCells, Value.cells]
    rcases (show j % 5 = 0 ∨ j % 5 = 1 ∨ j % 5 = 2 ∨ j % 5 = 3 ∨ j % 5 = 4 by omega) with h2 | h2 | h2 | h2 | h2 <;> simp [hj, h2, spc, noSp]
  · rw [List.getElem?_eq_none (by simp [madeCells]; omega), List.getElem?_eq_none (by rw [flat_len spc_len, List.length_replicate]; omega)]
theorem makeSp (W : World) (n : Nat) (hn : n ≤ 1000) : ∃ v W', (Instr.makeSlice 30 (.int .i64 (n : Int)) (.int .i64 (n : Int))).run Tryz.prog W = .ok v W' ∧ W'.ownsRow W.heap.size 24 5 v (List.replicate n noSp).length (flatR spc (List.replicate n noSp)) ∧ Below W.heap.size W W' := by
  obtain ⟨i0, hi, hz0, hz1, hz2⟩ := info_parts infoSp
  obtain ⟨W', hrun, hO, hg⟩ := run_make_full W W.heap.size 30 24 i0 _ 5 Tryz.underlying30 hi hz0 hz1 .i64 .i64 n (by rw [hz2]; omega) (by unfold maxLen; omega) (Nat.le_refl _)
  rw [made_sp] at hO
  exact ⟨_, W', hrun, by rw [List.length_replicate]; exact hO, ⟨hg.os, hg.tape, hg.output, hg.size, fun k hk => hg.block k hk (by simp)⟩⟩
theorem hold_rep (m n : Nat) (W : World) : Holds m W (zsP (List.replicate n noSp)) := fun z hz => by
  obtain ⟨y, hy, rfl⟩ := List.mem_map.1 hz
  rw [(List.mem_replicate.1 hy).2]
  exact BSl.nil _ _ _
theorem ok_rep {n : Nat} : ∀ s ∈ (List.replicate n noSp).map plP, OkP s := fun s hs => by
  obtain ⟨y, hy, rfl⟩ := List.mem_map.1 hs
  rw [(List.mem_replicate.1 hy).2]
  exact ⟨bnd_fit (by simp [plP, noSp]), by simp [plP, noSp]⟩
theorem join_rep (n : Nat) : (joinP ((List.replicate n noSp).map plP)).length = 9 * n := by
  induction n with
  | zero => rfl
  | succ n ih =>
    rw [List.replicate_succ, List.map_cons, joinP_cons, List.length_append, octP_len, ih]
    simp only [plP, noSp, List.length_nil]
    omega
theorem rep_few {n : Nat} (h : n ≤ 512) : errP ((List.replicate n noSp).map plP) = 0 := (ok_err (by simpa using h) ok_rep (by rw [join_rep]; omega)).1
theorem rep_many {n : Nat} (h : 512 < n) : errP ((List.replicate n noSp).map plP) = 3 := by
  have h1 : chkP ((List.replicate n noSp).map plP) = 3 := if_pos (by simpa using h)
  exact (put_a (by rw [h1]; decide)).1.trans h1
theorem all_rep {n : Nat} : ∀ x ∈ List.replicate n noSp, x = noSp := fun _ h => (List.mem_replicate.1 h).2
def outP (s : Stp) : Nat → Bool
  | 0 => decide (s.ki < 0) || decide (255 < s.ki)
  | j + 1 => outP s j || decide (numP s (j + 1) < -32768) || decide (32767 < numP s (j + 1))
theorem out_0 {s : Stp} (h : decide (s.ki < 0) = true) : Value.bool true = .bool (outP s 0) := by
  rw [show outP s 0 = (decide (s.ki < 0) || decide (255 < s.ki)) from rfl, h]
  rfl
theorem out_1 {s : Stp} (h : decide (s.ki < 0) = false) : Value.bool (decide (255 < s.ki)) = .bool (outP s 0) := by
  rw [show outP s 0 = (decide (s.ki < 0) || decide (255 < s.ki)) from rfl, h]
  rfl
theorem out_a {s : Stp} {j : Nat} (h : outP s j = true) : Value.bool true = .bool (outP s (j + 1)) := by
  rw [show outP s (j + 1) = (outP s j || decide (numP s (j + 1) < -32768) || decide (32767 < numP s (j + 1))) from rfl, h]
  rfl
theorem out_b {s : Stp} {j : Nat} (h : outP s j = false) (h1 : decide (numP s (j + 1) < -32768) = true) : Value.bool true = .bool (outP s (j + 1)) := by
  rw [show outP s (j + 1) = (outP s j || decide (numP s (j + 1) < -32768) || decide (32767 < numP s (j + 1))) from rfl, h, h1]
  rfl
theorem out_c {s : Stp} {j : Nat} (h : outP s j = false) (h1 : decide (numP s (j + 1) < -32768) = false) : Value.bool (decide (32767 < numP s (j + 1))) = .bool (outP s (j + 1)) := by
  rw [show outP s (j + 1) = (outP s j || decide (numP s (j + 1) < -32768) || decide (32767 < numP s (j + 1))) from rfl, h, h1]
  rfl
theorem out_fit (s : Stp) : outP s 3 = !fitP s := by
  rw [Bool.eq_iff_iff]
  simp [outP, fitP, fitU, fitZ, numP]
  omega
theorem one_out {s : Stp} (h : outP s 3 = true) : errP [s] = 4 ∧ putP [s] = [] := by
  rw [out_fit] at h
  have h1 : chkP [s] = 4 := by
    unfold chkP
    rw [if_neg (by simp), if_pos (by rw [List.any_cons, h]; rfl)]
  have h2 := put_a (l := [s]) (by rw [h1]; decide)
  exact ⟨h2.1.trans h1, h2.2⟩
theorem one_long {s : Stp} (h : outP s 3 = false) (hl : 1024 < s.l.length) : errP [s] = 5 ∧ putP [s] = [] := by
  rw [out_fit] at h
  have h1 : chkP [s] = 5 := by
    unfold chkP
    rw [if_neg (by simp), if_neg (by rw [List.any_cons, h]; decide), if_pos (by rw [List.any_cons, show longP s = true from decide_eq_true hl]; rfl)]
  have h2 := put_a (l := [s]) (by rw [h1]; decide)
  exact ⟨h2.1.trans h1, h2.2⟩
theorem one_ok {s : Stp} (h : outP s 3 = false) (hl : s.l.length ≤ 1024) : errP [s] = 0 ∧ putP [s] = octP s ∧ OkP s := by
  rw [out_fit] at h
  have hok : OkP s := ⟨by simpa using h, hl⟩
  have h2 := ok_err (l := [s]) (by simp) (fun x hx => by obtain rfl := List.mem_singleton.1 hx; exact hok) (by rw [joinP_one, octP_len]; omega)
  exact ⟨h2.1, h2.2.trans (joinP_one s), hok⟩
theorem cut_read {s : Stp} (h : OkP s) {k : Nat} (hk : k < (octP s).length) {xs : List Sp} {er : Int} (hd : (er ≠ 0 ∧ xs = [] ∧ NoScr ((octP s).take k)) ∨ (er = 0 ∧ (octP s).take k = joinP (xs.map plP) ∧ (∀ s ∈ xs.map plP, OkP s) ∧ xs.length ≤ 512 ∧ ((octP s).take k).length ≤ 8192)) : (er == 0) = ((k : Int) == 0) := by
  by_cases h0 : k = 0
  · subst h0
    rcases hd with ⟨_, _, hn⟩ | ⟨h1, _⟩
    · exact (noScr (l := []) (fun _ h => (List.not_mem_nil h).elim) (by simp) (by simp [joinP]) (by simpa [joinP] using hn)).elim
    · rw [h1]
      rfl
  · rw [beq_eq_false_iff_ne.2 (show (k : Int) ≠ 0 by omega)]
    rcases hd with ⟨h1, _⟩ | ⟨_, h2, h3, _⟩
    · exact beq_eq_false_iff_ne.2 h1
    · refine absurd h2 fun h2 => ?_
      cases hx : xs.map plP with
      | nil =>
        rw [hx] at h2
        have := congrArg List.length h2
        rw [List.length_take, Nat.min_eq_left (by omega)] at this
        simp [joinP] at this
        omega
      | cons m ms =>
        rw [hx] at h2 h3
        have e : octP s ++ [] = octP m ++ (joinP ms ++ (octP s).drop k) := by
          rw [List.append_nil, ← List.append_assoc, ← joinP_cons, ← h2, List.take_append_drop]
        have h4 := (octs_got h []).1
        rw [e, (octs_got (h3 m (List.mem_cons_self ..)) _).1] at h4
        subst h4
        have := congrArg List.length (List.append_cancel_left e)
        rw [List.length_append, List.length_drop, List.length_nil] at this
        omega
def erW (n : Nat) : Int := if 512 < n then 3 else 0
def RunW (n : Nat) (w : World) (e : Ending) (W' : World) : Prop := ∃ p, e = .returned (.tuple #[.pointer p, .int .i64 (erW n)]) ∧ Below w.heap.size w W'
set_option maxRecDepth 100000 in
set_option maxHeartbeats 4000000 in
theorem runW_any (l : List Sp) (v : Value) (w : World) {lo hi : Nat} (hl : RSl spc lo hi w v l) (hhi : hi ≤ w.heap.size) (hz : ∀ x ∈ l, x = noSp) : Calls Tryz.prog 6 #[suv (Su.mk 1 0 31 0), v] w (RunW l.length w) := by
  have hmx : Tryz.prog.follows .mixedOrders = true := by kernel_rfl
  have HEl := Lib.hid (fun k x (hx : l[k]? = some x) => hl.elem spc_len hx Tryz.underlying30 (fun W => by kernel_rfl))
  obtain ⟨pl, cl, rfl⟩ := hl.slice
  have HLl := Lib.hid hl
  have HHl := Lib.hid hhi
  have HLENl := Lib.hid (show l.length ≤ 9223372036854775807 from by have h := hl.len; unfold maxLen at h; omega)
  clear hl hhi
  have HZ := Lib.hid hz
  clear hz
  have hM := Sep.start w
  go_enter Tryz.func6, Tryz.ntmps6
  go_upto_region 0 with fail
  refine wp_region_fromM (fun W => Sep w [] [] W) hM ?_
  clear hM
  rintro Y1 hM
  refine rF (some 2) (pt Y1.heap.size 0) (Y1.alloc (.cells (suc (Su.mk 1 0 31 0)).toArray 35)) ?_
  replace hM := hM.alloc 35 (suc (Su.mk 1 0 31 0))
  generalize World.alloc _ _ = Y2 at *
  generalize hNe : Y1.heap.size = N2 at *
  clear hNe
  refine tF 3 [.val 1 (some 4) (.pointer none), .val 2 (some 5) (.int .i64 0)] trivial ?_
  refine dF ?_
  try simp only [puts, Tk.put, Act.put, List.setIfInBounds_toArray, List.set_cons_zero, List.set_cons_succ]
  go_upto_region 1 with fail
  refine wp_region_fromM (fun W => Sep w [] [.blk N2 35 (suc (Su.mk 1 0 31 0))] W) hM ?_
  clear hM
  rintro Y3 hM
  refine tF 3 [.val 0 (some 10) (.slice pl l.length cl), .val 1 (some 11) (.int .i64 (l.length : Int)), .val 2 (some 12) (.bool (decide (512 < (l.length : Int))))] trivial ?_
  refine dF ?_
  try simp only [puts, Tk.put, Act.put, List.setIfInBounds_toArray, List.set_cons_zero, List.set_cons_succ]
  cases hb1 : decide (512 < (l.length : Int)) with
  | false =>
    have Hhb1 := Lib.hid hb1
    clear hb1
    have HN := Lib.hid (of_decide_eq_false Hhb1.out)
    go_upto_region 3 with fail
    refine wp_region_fromM (fun W => Sep w [] [.blk N2 35 (suc (Su.mk 1 0 31 0))] W) hM ?_
    clear hM
    rintro Y4 hM
    refine tF 1 [.load 0 (some 14) 35 (pt N2 0) (suv (Su.mk 1 0 31 0))] ⟨load_part (hM.at 0 rfl) 0 (suc (Su.mk 1 0 31 0)) rfl _ _ Tryz.underlying35 rfl (by kernel_rfl), trivial⟩ ?_
    refine cF (some 15) 10 #[suv (Su.mk 1 0 31 0)] ((newW_any _).mono ?_)
    rintro e Y5 ⟨o, rfl, hR⟩
    replace hM := hM.gain (Sep.close (ps := woR o) (l := []) hR)
    clear hR
    replace hM : Sep w [] [.join (woR o), .blk N2 35 (suc (Su.mk 1 0 31 0))] Y5 := hM
    refine tF 7 [.val 2 (some 13) (.tuple #[.pointer (some ⟨o.X, 0, none⟩), .int .i64 0]), .val 3 (some 16) (pt o.X 0), .val 4 (some 17) (.int .i64 0), .val 5 (some 6) (pt o.X 0), .val 6 (some 7) (.int .i64 0)] trivial ?_
    refine dF ?_
    try simp only [puts, Tk.put, Act.put, List.setIfInBounds_toArray, List.set_cons_zero, List.set_cons_succ]
    go_upto_region 4 with fail
    refine wp_region_fromM (fun W => Sep w [] [.join (woR o), .blk N2 35 (suc (Su.mk 1 0 31 0))] W) hM ?_
    clear hM
    rintro Y6 hM
    refine tF 2 [.val 0 (some 18) (.int .i64 0), .val 1 (some 19) (.bool false)] trivial ?_
    refine dF ?_
    try simp only [puts, Tk.put, Act.put, List.setIfInBounds_toArray, List.set_cons_zero, List.set_cons_succ]
    go_upto_region 6 with fail
    refine wp_region_fromM (fun W => Sep w [] [.join (woR o), .blk N2 35 (suc (Su.mk 1 0 31 0))] W) hM ?_
    clear hM
    rintro Y7 hM
    refine tF 3 [.val 0 (some 21) (.slice pl l.length cl), .val 1 (some 22) (.int .i64 (l.length : Int)), .val 2 (some 23) (.int .i64 0)] trivial ?_
    refine dF ?_
    try simp only [puts, Tk.put, Act.put, List.setIfInBounds_toArray, List.set_cons_zero, List.set_cons_succ]
    go_wp2_with fail
    go_loopw [23] (fun u23 wr => ∃ j : Nat, j ≤ l.length ∧ u23 = .int .i64 (j : Int) ∧ Sep w [] [.join (woR o), .blk N2 35 (suc (Su.mk 1 0 31 0))] wr) (fun u23 _ => l.length - (intOf u23).toNat)
    case atStart => exact ⟨0, Nat.zero_le _, rfl, hM⟩
    clear hM
    case round =>
      obtain ⟨j, hj, rfl, hM⟩ := hrel
      by_cases hlt : j < l.length
      case pos =>
        have HJ := Lib.hid hlt
        have hlt' : (j : Int) < (l.length : Int) := by omega
        have HLT := Lib.hid hlt'
        obtain ⟨x, hx⟩ : ∃ x, l[j]? = some x := ⟨_, List.getElem?_eq_getElem hlt⟩
        obtain ⟨bl, ol, _, _, hit, hct⟩ := HEl.out j x hx
        have HXl := Lib.hid hx
        have HIl := Lib.hid hit
        have HCl := Lib.hid hct
        clear hx hit hct
        have hxe := HZ.out x (List.mem_of_getElem? HXl.out)
        subst hxe
        clear hlt hlt'
        go_upto_region 7 with fail
        refine wp_region_fromM (fun W => Sep w [] [.join (woR o), .blk N2 35 (suc (Su.mk 1 0 31 0))] W) hM ?_
        clear hM
        rintro Y8 hM
        refine tF 1 [.alt 0 (some 24) (.bool (decide ((j : Int) < (l.length : Int)))) (.bool true)] ⟨congrArg Value.bool (decide_eq_true HLT.out), trivial⟩ ?_
        refine dF ?_
        try simp only [puts, Tk.put, Act.put, List.setIfInBounds_toArray, List.set_cons_zero, List.set_cons_succ]
        go_upto_region 8 with fail
        refine wp_region_fromM (fun W => Sep w [] [.join (woR o), .blk N2 35 (suc (Su.mk 1 0 31 0))] W) hM ?_
        clear hM
        rintro Y9 hM
        refine tF 2 [.idx 0 (some 25) 30 (.slice pl l.length cl) (.int .i64 (j : Int)) (pt bl ol), .load 1 (some 26) 24 (pt bl ol) (spv noSp)] ⟨HIl.out _, ld_cells (spc noSp) _ _ Tryz.underlying24 rfl (by kernel_rfl) (HCl.out _ (HLl.out.below hM.b HHl.out)), trivial⟩ ?_
        refine rF (some 9) (pt Y9.heap.size 0) (Y9.alloc (.cells (spc noSp).toArray 24)) ?_
        replace hM := hM.alloc 24 (spc noSp)
        generalize World.alloc _ _ = Y10 at *
        generalize hNe : Y9.heap.size = N10 at *
        clear hNe
        have hst := sto_part (spc noSp) (hM.at 0 rfl) 0 24 (spv noSp) (spc noSp) rfl (by kernel_rfl) (Nat.le_of_ble_eq_true rfl) rfl rfl
        refine sF 24 (pt N10 0) (spv noSp) (hst) ?_
        clear hst
        replace hM := hM.set 0 (cs' := spc noSp) rfl rfl
        generalize World.setRow _ _ _ = Y11 at *
        refine dF ?_
        try simp only [puts, Tk.put, Act.put, List.setIfInBounds_toArray, List.set_cons_zero, List.set_cons_succ]
        go_upto_region 9 with fail
        refine wp_region_fromM (fun W => Sep w [] [.blk N10 24 (spc noSp), .join (woR o), .blk N2 35 (suc (Su.mk 1 0 31 0))] W) hM ?_
        clear hM
        rintro Y12 hM
        refine tF 2 [.val 0 (some 27) (pt o.X 0), .load 1 (some 28) 24 (pt N10 0) (spv noSp)] ⟨load_part (hM.at 0 rfl) 0 (spc noSp) rfl _ _ Tryz.underlying24 rfl (by kernel_rfl), trivial⟩ ?_
        refine cF (some 29) 11 #[pt o.X 0, spv noSp] ((stepW_any o _ (hM.oka 1 rfl)).mono ?_)
        rintro e Y13 ⟨rfl, hT⟩
        replace hM := hM.turn 1 rfl hT rfl
        clear hT
        replace hM : Sep w [] [.blk N10 24 (spc noSp), .join (woR o), .blk N2 35 (suc (Su.mk 1 0 31 0))] Y13 := hM
        refine dF ?_
        try simp only [puts, Tk.put, Act.put, List.setIfInBounds_toArray, List.set_cons_zero, List.set_cons_succ]
        go_upto_region 10 with fail
        refine wp_region_fromM (fun W => Sep w [] [.blk N10 24 (spc noSp), .join (woR o), .blk N2 35 (suc (Su.mk 1 0 31 0))] W) hM ?_
        clear hM
        rintro Y14 hM
        refine tF 2 [.alt 0 (some 30) (.int .i64 (IntKind.i64.wrap ((j : Int) + 1))) (.int .i64 ((j + 1 : Nat) : Int)), .val 1 (some 23) (.int .i64 ((j + 1 : Nat) : Int))] ⟨congrArg (Value.int .i64) ((IntWalk.i64_in _ (by have := HLENl.out; have := HJ.out; omega)).trans (by omega)), trivial⟩ ?_
        refine dF ?_
        try simp only [puts, Tk.put, Act.put, List.setIfInBounds_toArray, List.set_cons_zero, List.set_cons_succ]
        have hM1 : Sep w [] [.join (woR o), .blk N2 35 (suc (Su.mk 1 0 31 0))] Y14 := hM.pick [1, 2] (by decide) rfl
        have HM1 := Lib.hid hM1
        clear hM hM1
        go_wp2_with fail
        go_roundw
        case rel => exact ⟨j + 1, HJ.out, rfl, HM1.out⟩
        case measure => have := HJ.out; simp [intOf]; omega
      case neg =>
        obtain rfl : j = l.length := by omega
        go_upto_region 7 with fail
        refine wp_region_fromM (fun W => Sep w [] [.join (woR o), .blk N2 35 (suc (Su.mk 1 0 31 0))] W) hM ?_
        clear hM
        rintro Y15 hM
        refine tF 1 [.alt 0 (some 24) (.bool (decide ((l.length : Int) < (l.length : Int)))) (.bool false)] ⟨congrArg Value.bool (decide_eq_false (by omega)), trivial⟩ ?_
        refine dF ?_
        try simp only [puts, Tk.put, Act.put, List.setIfInBounds_toArray, List.set_cons_zero, List.set_cons_succ]
        go_upto_region 11 with fail
        refine wp_region_fromM (fun W => Sep w [] [.join (woR o), .blk N2 35 (suc (Su.mk 1 0 31 0))] W) hM ?_
        clear hM
        rintro Y16 hM
        refine tF 3 [.val 0 (some 31) (pt o.X 0), .val 1 (some 4) (pt o.X 0), .val 2 (some 5) (.int .i64 0)] trivial ?_
        refine dF ?_
        try simp only [puts, Tk.put, Act.put, List.setIfInBounds_toArray, List.set_cons_zero, List.set_cons_succ]
        go_wp2_with fail
        go_ret2
        exact ⟨_, by rw [show erW l.length = 0 from if_neg (by have h := HN.out; omega)]; rfl, hM.b⟩
  | true =>
    have Hhb1 := Lib.hid hb1
    clear hb1
    have HN := Lib.hid (of_decide_eq_true Hhb1.out)
    go_upto_region 2 with fail
    refine wp_region_fromM (fun W => Sep w [] [.blk N2 35 (suc (Su.mk 1 0 31 0))] W) hM ?_
    clear hM
    rintro Y17 hM
    refine tF 2 [.val 0 (some 4) (.pointer none), .val 1 (some 5) (.int .i64 3)] trivial ?_
    refine dF ?_
    try simp only [puts, Tk.put, Act.put, List.setIfInBounds_toArray, List.set_cons_zero, List.set_cons_succ]
    go_wp2_with fail
    go_ret2
    exact ⟨none, by rw [show erW l.length = 3 from if_pos (by have h := HN.out; omega)]; rfl, hM.b⟩
end Go.Proofs.YtemknjnljciioaaGreat
namespace Go.Proofs.YtemknjnljciioaaGreat
open Go.ChangeShapes Go.WideShapes Go.ChangeAt Go.RowKit
theorem Tryz.own : ownKnob Tryz.prog.godebug = none := by kernel_rfl
theorem Tryz.laidOut : laidOutB Tryz.prog = true := by kernel_rfl
theorem wf_i64 {x : Int} (h : (Lit.int .i64 x).wf = true) : -9223372036854775808 ≤ x ∧ x ≤ 9223372036854775807 := by
  simp [Lit.wf, IntKind.min, IntKind.max, IntKind.bits, IntKind.signed] at h
  omega
theorem list_of {α : Type} {Q : Nat → α → Prop} : ∀ {n : Nat}, (∀ i, i < n → ∃ x, Q i x) → ∃ l : List α, l.length = n ∧ ∀ k x, l[k]? = some x → Q k x
  | 0, _ => ⟨[], rfl, fun k x h => by simp at h⟩
  | n + 1, h => by
    obtain ⟨l, hl, hq⟩ := list_of (n := n) (fun i hi => h i (by omega))
    obtain ⟨y, hy⟩ := h n (by omega)
    refine ⟨l ++ [y], by simp [hl], fun k x hx => ?_⟩
    by_cases hk : k < n
    · rw [List.getElem?_append_left (by omega)] at hx
      exact hq k x hx
    · rw [List.getElem?_append_right (by omega)] at hx
      have : k = n := by
        have := (List.getElem?_eq_some_iff.1 hx).1
        simp at this
        omega
      subst this
      simp [hl] at hx
      rw [← hx]; exact hy
theorem add_plain (b off q : Nat) : (⟨b, off, none⟩ : Addr).add q = ⟨b, off + q, none⟩ := by cases q <;> simp [Addr.add]
end Go.Proofs.YtemknjnljciioaaGreat
namespace Go.Proofs.YtemknjnljciioaaGreat
open Go.ChangeShapes Go.WideShapes Go.ChangeAt Go.RowKit Go.Deep
theorem Tryz.bytes8 : Tryz.prog.bytesOf 5 = 1 := by kernel_rfl
theorem Tryz.cells8 : Tryz.prog.cellsOf 5 = 1 := by kernel_rfl
theorem wf_u8 {x : Int} (h : (Lit.int .u8 x).wf = true) : ∃ b : UInt8, x = (b.toNat : Int) := by
  have h' : 0 ≤ x ∧ x < 256 := by
    simp [Lit.wf, IntKind.min, IntKind.max, IntKind.bits, IntKind.signed] at h
    omega
  refine ⟨UInt8.ofNat x.toNat, ?_⟩
  rw [UInt8.toNat_ofNat']
  omega
theorem open_bytes {H : Type} {enc : TypeId × Value → H} {W : World} {base : Nat} {spare : Nat → Bool} {held : Bool} {a : Option Addr} {len cap : Nat} {d : DataW H} {p : List MemPlace}
    (h : DataW.Trod enc Tryz.prog W base spare held 22 (.slice a len cap) d p) : ∃ zs : List UInt8, len = zs.length ∧ BSl 0 W.heap.size W (.slice a len cap) zs ∧ (zs = [] ∨ ∃ el sp, d = .slice el sp ∧ el.length = zs.length) := by
  obtain ⟨fuel, hf⟩ := h
  rcases open_slice1 Tryz.underlying22 Tryz.cells8 hf with h0 | ⟨ad, l, c, m, n, V, D, Pl, hcs, hb, hl, hm, hmm, hx, hi⟩
  · obtain ⟨hcs, _⟩ := h0
    simp [Value.cells] at hcs
    obtain ⟨rfl, rfl, rfl⟩ := hcs
    exact ⟨[], rfl, ⟨none, 0, rfl, Nat.le_refl _, .inl rfl⟩, .inl rfl⟩
  · simp [Value.cells] at hcs
    obtain ⟨rfl, rfl, rfl⟩ := hcs
    have hlm : len ≤ m := by rw [hmm]; split <;> omega
    have key : ∀ i, i < len → ∃ x : UInt8, W.cell? (ad.add i) = some (bv x) := fun i hil => by
      obtain ⟨hc, ht⟩ := hi i (by omega)
      obtain ⟨x, e, _, w0⟩ := DataW.trod_int Tryz.underlying5 ht
      simp at e
      obtain ⟨b, rfl⟩ := wf_u8 w0
      exact ⟨b, by rw [hc, e]⟩
    obtain ⟨zs, hz, hq⟩ := list_of key
    refine ⟨zs, hz.symm, ⟨some ad, cap, by rw [hz], by rw [hz]; exact hl, ?_⟩, .inr ⟨_, _, (Prod.mk.inj hx).1, by simp [hz]⟩⟩
    by_cases hlen : len = 0
    · exact .inl (List.length_eq_zero_iff.1 (by omega))
    · obtain ⟨x, h0⟩ := key 0 (by omega)
      obtain ⟨b, off, sp⟩ := ad
      have hsp : sp = none := by
        cases sp with
        | none => rfl
        | some _ => simp [Addr.add, World.cell?] at h0; split at h0 <;> simp at h0
      subst hsp
      refine .inr ⟨b, off, rfl, Nat.zero_le _, World.block_lt_of_cell? W _ h0, fun k x hx => ?_⟩
      have := hq k x hx
      rwa [add_plain] at this
end Go.Proofs.YtemknjnljciioaaGreat
namespace Go.Proofs.YtemknjnljciioaaGreat
open Go.ChangeShapes Go.WideShapes Go.ChangeAt Go.RowKit Go.Deep
theorem sized_in {H : Type} {P : Program} {ts : List TypeId} {ds : List (DataW H)} (h : (DataW.weightsEach P ts ds).all (· ≤ reachBytes) = true) {j : Nat} {t : TypeId} {d : DataW H} (ht : ts[j]? = some t) (hd : ds[j]? = some d) (n : Nat) (hn : n ∈ d.weights P t) : n ≤ 140737488351232 := by
  have := List.all_eq_true.1 h _ (DataW.weights_mem_each ht hd n hn)
  have h2 := of_decide_eq_true this
  simp only [reachBytes] at h2
  exact h2
end Go.Proofs.YtemknjnljciioaaGreat
namespace Go.Proofs.YtemknjnljciioaaGreat
theorem Tryz.cellsInt : Tryz.prog.cellsOf 3 = 1 := by kernel_rfl
end Go.Proofs.YtemknjnljciioaaGreat
namespace Go.Proofs.YtemknjnljciioaaGreat
open Go.ChangeShapes Go.WideShapes Go.ChangeAt Go.RowKit Go.Deep
theorem cellsOctN : Tryz.prog.cellsOf 22 = 1 := by kernel_rfl
theorem trod_z {H : Type} {enc : TypeId × Value → H} {w : World} {base : Nat} {spare : Nat → Bool} {held : Bool} {fuel : Nat} {v : Value} {x : DataW H × List MemPlace}
    (h : DataW.trod enc Tryz.prog w base spare held fuel 22 [v] = some x) (hw : ∀ m ∈ x.1.weights Tryz.prog 22, m ≤ 140737488351232) :
    ∃ z : Zs, BSl 0 w.heap.size w (.slice z.a z.l.length z.c) z.l ∧ z.l.length ≤ 140737488351232 ∧ v = .slice z.a z.l.length z.c := by
  obtain ⟨a', l', c', e'⟩ := Joins.slice_form Tryz.underlying22 h
  have hv : v = .slice a' l' c' := by simpa using e'
  subst hv
  obtain ⟨d, p⟩ := x
  obtain ⟨zs, hl', hz, hq⟩ := open_bytes (a := a') (len := l') (cap := c') (d := d) (p := p) ⟨fuel, by simpa [Value.cells] using h⟩
  subst hl'
  refine ⟨⟨a', c', zs⟩, hz, ?_, rfl⟩
  rcases hq with rfl | ⟨el, sp, e2, hel⟩
  · simp
  · have := hw ((el.length + sp.length) * Tryz.prog.bytesOf 5) (by rw [e2]; simp [DataW.weights, Tryz.underlying22])
    rw [Tryz.bytes8] at this
    dsimp only
    omega
-- HERE
end Go.Proofs.YtemknjnljciioaaGreat
namespace Go.Proofs.YtemknjnljciioaaGreat
open Go.ChangeShapes Go.WideShapes Go.ChangeAt Go.RowKit Go.Deep
set_option maxRecDepth 100000 in
theorem agg_of {v : Value} {w : World} {r : Reach} {b0 t : Nat} {fs : Array Field} (hu : Tryz.prog.underlying t = some (.struct fs)) (hv : Value.okWide Tryz.prog w r b0 t v) : ∃ cs, v = .agg cs := by
  obtain ⟨cs, rfl, _⟩ : ∃ cs, v = .agg cs ∧ cs.size = Tryz.prog.cellsOf t ∧ Row.okWide Tryz.prog w r b0 t cs := by
    simpa [Value.okWide, hu] using hv
  exact ⟨cs, rfl⟩
-- HERE
end Go.Proofs.YtemknjnljciioaaGreat
namespace Go.Proofs.YtemknjnljciioaaGreat
open Go.ChangeShapes Go.WideShapes Go.ChangeAt Go.RowKit Go.Deep
theorem cellsSp : Tryz.prog.cellsOf 24 = 5 := by kernel_rfl
set_option maxRecDepth 100000 in
theorem trod_sp {H : Type} {enc : TypeId × Value → H} {w : World} {base : Nat} {spare : Nat → Bool} {held : Bool} {fuel : Nat} {cs : List Value} {x : DataW H × List MemPlace}
    (h : DataW.trod enc Tryz.prog w base spare held fuel 24 cs = some x) (hw : ∀ m ∈ x.1.weights Tryz.prog 24, m ≤ 140737488351232) :
    ∃ y : Sp, (BSl 0 w.heap.size w (.slice y.ad y.l.length y.cp) y.l ∧ y.l.length ≤ 140737488351232) ∧ cs = spc y := by
  obtain ⟨xs, n, _, hx, hcl, hlen, hg⟩ := DataW.trod_struct Tryz.underlying24 h
  rw [cellsSp] at hcl
  match cs, hcl with
  | [c0, c1, c2, c3, c4], _ =>
  match xs, hlen with
  | [y0, y1, y2, y3, y4], _ =>
  have h0 := hg 0 ⟨ "Kind", 3, 0, false, "", "", 0⟩ rfl
  have h1 := hg 1 ⟨ "A", 3, 1, false, "", "", 8⟩ rfl
  have h2 := hg 2 ⟨ "B", 3, 2, false, "", "", 16⟩ rfl
  have h3 := hg 3 ⟨ "C", 3, 3, false, "", "", 24⟩ rfl
  have h4 := hg 4 ⟨ "Data", 22, 4, false, "", "", 32⟩ rfl
  dsimp only at h0 h1 h2 h3 h4
  rw [Tryz.cellsInt] at h0 h1 h2 h3
  rw [cellsOctN] at h4
  simp only [List.drop_succ_cons, List.drop_zero, List.take_succ_cons, List.take_zero, List.getElem?_cons_zero, List.getElem?_cons_succ] at h0 h1 h2 h3 h4
  obtain ⟨z0, e0, _, _⟩ := DataW.trod_int Tryz.underlying3 h0
  obtain ⟨z1, e1, _, _⟩ := DataW.trod_int Tryz.underlying3 h1
  obtain ⟨z2, e2, _, _⟩ := DataW.trod_int Tryz.underlying3 h2
  obtain ⟨z3, e3, _, _⟩ := DataW.trod_int Tryz.underlying3 h3
  simp at e0 e1 e2 e3
  subst e0 e1 e2 e3
  obtain ⟨z, g1, g2, rfl⟩ := trod_z h4 fun m hm => hw m (by rw [hx]; simp [DataW.weights, DataW.weightsEach, Tryz.underlying24, hm])
  exact ⟨⟨z0, z1, z2, z3, z.a, z.c, z.l⟩, ⟨g1, g2⟩, rfl⟩
set_option maxRecDepth 100000 in
theorem open_sp {H : Type} {enc : TypeId × Value → H} {r : Reach} {W : World} {b0 base : Nat} {spare : Nat → Bool} {held : Bool} {v : Value} {d : DataW H} {p : List MemPlace}
    (hv : Value.okWide Tryz.prog W r b0 24 v) (h : DataW.Trod enc Tryz.prog W base spare held 24 v d p) (hw : ∀ m ∈ d.weights Tryz.prog 24, m ≤ 140737488351232) :
    ∃ y : Sp, v = spv y ∧ BSl 0 W.heap.size W (.slice y.ad y.l.length y.cp) y.l ∧ y.l.length ≤ 140737488351232 := by
  obtain ⟨cs, rfl⟩ := agg_of Tryz.underlying24 hv
  obtain ⟨fuel, hf⟩ := h
  obtain ⟨y, ⟨h1, h2⟩, hc⟩ := trod_sp hf hw
  refine ⟨y, ?_, h1, h2⟩
  have : cs.toList = spc y := hc
  rw [show cs = (spc y).toArray from by rw [← this]]
end Go.Proofs.YtemknjnljciioaaGreat
