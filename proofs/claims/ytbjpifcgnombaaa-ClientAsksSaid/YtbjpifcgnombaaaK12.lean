/-
  The reference's Public, Parts, Open; The reference's rows, root, path; A room: the best bid; a room is made, an ask is opened, a bid is kept
-/
import Derived.OneCell
import Derived.Outline
import Derived.Lib.AppendZeros
import Derived.Test.YtbjpifcgnombaaaK11
namespace Go.Proofs.Ytbjpifcgnombaaa
open Go.RowKit Go.Shelf
def catL (zs : List ByteArray) : ByteArray := zs.foldl (· ++ ·) ⟨#[]⟩
theorem catL_snoc (zs : List ByteArray) (x : ByteArray) : catL (zs ++ [x]) = catL zs ++ x := by unfold catL; rw [List.foldl_append]; rfl
theorem catL_list (zs : List ByteArray) : (catL zs).data.toList = (zs.map fun s => s.data.toList).flatten := by
  rw [← List.reverse_reverse zs]
  generalize zs.reverse = r
  induction r with
  | nil => rfl
  | cons x r ih =>
    rw [List.reverse_cons, catL_snoc, List.map_append, List.flatten_append, ← ih]
    simp
theorem catL_le (zs : List ByteArray) (m : Nat) (h : ∀ x ∈ zs, x.size ≤ m) : (catL zs).size ≤ zs.length * m := by
  have e : (catL zs).size = (catL zs).data.toList.length := rfl
  rw [e, catL_list]
  exact flatten_le _ m zs h
theorem joinB_of (zs : List ByteArray) : joinB zs = shortB (catL zs).data.toList := by rw [catL_list]; rfl
theorem catL_take {zs : List ByteArray} {k : Nat} {x : ByteArray} (h : zs[k]? = some x) : catL (zs.take (k + 1)) = catL (zs.take k) ++ x := by
  rw [List.take_add_one, h]; exact catL_snoc _ _
theorem textRow {lo n : Nat} {W : World} {v : Value} {zs : List ByteArray} (hn : zs.length = n + 1) (h : W.ownsRow lo 9 1 v (n + 1) (zs.map tv)) :
    ∃ g c, v = .slice (some ⟨g, 0, none⟩) (n + 1) c ∧ g < W.heap.size ∧ ∀ k x, zs[k]? = some x → W.cell? ⟨g, k, none⟩ = some (.string x) := by
  have hq := VSl.of_own (vs := zs.map tv) (by rw [List.length_map, hn]; exact h)
  obtain ⟨g, c, rfl⟩ := ownsRow_succ h
  obtain ⟨a', c', e, hc, h0 | ⟨b, off, ha, _, hb, hr⟩⟩ := hq
  · have := congrArg List.length h0
    rw [List.length_map, hn] at this
    simp at this
  · rw [List.length_map, hn] at e
    cases e
    cases ha
    exact ⟨g, c, rfl, hb, fun k x hk => by
      have := hr k (.string x) (by rw [List.getElem?_map, hk]; rfl)
      rwa [Nat.zero_add] at this⟩
set_option maxRecDepth 100000 in
set_option maxHeartbeats 4000000 in
theorem refPublic_any (s : ByteArray) (hs : s.size ≤ 140737488352000) (z : Int) (w : World) :
    Calls Try.prog 36 #[.string s, .int .i64 z] w fun e W' => e = .returned (.string (publicB s (lfN z))) ∧ Below w.heap.size w W' := by
  have hp : Hid (publicB s (lfN z) = shortB (catL (walked (begs s (lfN z)) fun _ => 3)).data.toList) := Lib.hid (joinB_of _)
  go_enter Try.func36, Try.ntmps36
  go_wp2_with fail
  refine (refBegin_any s hs z _).mono ?_
  rintro e w1 ⟨v1, rfl, hown1, hb1⟩
  have hbl := begs_length s (lfN z)
  have hm : ∀ x ∈ begs s (lfN z), x.size ≤ 8 := fun x hx => by rw [begs_mem hx]; omega
  generalize begs s (lfN z) = bs at *
  obtain ⟨g, c, rfl, hgw, hcell⟩ := textRow (n := 14) hbl hown1
  have HC := Lib.hid hcell
  have HM := Lib.hid hm
  have HBL := Lib.hid hbl
  clear hcell hm hbl hown1
  go_wp2
  go_loopw [6, 7] (fun v i wr => ∃ k : Nat, k ≤ 15 ∧ i = .int .i64 (k : Nat) ∧ v = .string (catL ((walked bs fun _ => 3).take k)) ∧ Below w1.heap.size w1 wr) (fun _ i _ => 15 - (intOf i).toNat)
  case atStart => exact ⟨0, by omega, rfl, rfl, Below.refl _ _⟩
  case round =>
    obtain ⟨k, hk, rfl, rfl, hB⟩ := hrel
    by_cases hlt : k < 15
    · obtain ⟨x, hx⟩ : ∃ x, bs[k]? = some x := ⟨_, List.getElem?_eq_getElem (by rw [HBL.out]; exact hlt)⟩
      have c0 := (hB.cell (p := ⟨g, k, none⟩) hgw).trans (HC.out k x hx)
      have hxs := HM.out x (List.mem_of_getElem? hx)
      have hlk := linkB_size x 3
      have hwk : (walked bs fun _ => 3)[k]? = some (linkB x 3) := by rw [walked_at (fun _ => 3) hx]; rfl
      have HK := Lib.hid (catL_take hwk)
      have hcs := catL_le ((walked bs fun _ => 3).take k) 8 (fun y hy => by have := walked_mem HM.out (List.mem_of_mem_take hy); omega)
      rw [List.length_take, walked_length, HBL.out] at hcs
      have hadd : ¬ 9223372036854775807 < (catL ((walked bs fun _ => 3).take k)).size + (linkB x 3).size := by omega
      have hlt' : (k : Int) < 15 := by omega
      have HLT := Lib.hid hlt
      clear hx hwk hcs hlt hk
      generalize catL ((walked bs fun _ => 3).take k) = cs at *
      go_wp2_with fail
      refine (refWalk_any x (by omega) 3 _).mono ?_
      rw [show stp 3 = 3 from rfl]
      rintro e w2 ⟨rfl, hb2⟩
      go_wp2_with fail
      go_roundw
      case rel => exact ⟨k + 1, HLT.out, by simp, by rw [HK.out], hB.trans (hb2.mono hB.size)⟩
      case measure => have := HLT.out; simp [intOf]; omega
    · obtain rfl : k = 15 := by omega
      have hcs := catL_le (walked bs fun _ => 3) 8 (fun y hy => by have := walked_mem HM.out hy; omega)
      rw [walked_length, HBL.out] at hcs
      rw [List.take_of_length_le (by rw [walked_length, HBL.out]; omega)]
      generalize catL (walked bs fun _ => 3) = cs at *
      go_wp2_with fail
      refine (refShort_any cs (by omega) _).mono ?_
      rintro e w2 ⟨rfl, hb2⟩
      go_wp2_with fail
      go_ret
      exact ⟨by rw [hp.out]; rfl, hb1.trans ((hB.trans (hb2.mono hB.size)).mono hb1.size)⟩
end Go.Proofs.Ytbjpifcgnombaaa
namespace Go.Proofs.Ytbjpifcgnombaaa
open Go.RowKit Go.Shelf
theorem joinM_of (a b : ByteArray) : joinM a b = shortB (a ++ b).data.toList := by
  unfold joinM
  congr 1
theorem row_le {i h : Nat} (hi : (i + 1) * 2 ^ (h + 1) ≤ 8) : (2 * i + 1) * 2 ^ h ≤ 8 ∧ (2 * i + 1 + 1) * 2 ^ h ≤ 8 := by
  have e1 : (i + 1) * 2 ^ (h + 1) = (2 * i + 1 + 1) * 2 ^ h := by
    rw [Nat.pow_succ, Nat.mul_comm (2 ^ h) 2, ← Nat.mul_assoc]
    congr 1
    omega
  have e2 : (2 * i + 1) * 2 ^ h ≤ (2 * i + 1 + 1) * 2 ^ h := Nat.mul_le_mul_right _ (by omega)
  omega
set_option maxRecDepth 100000 in
set_option maxHeartbeats 2000000 in
theorem refRow_any (s : ByteArray) (hs : s.size ≤ 140737488352000) : ∀ (h i : Nat) (_ : h ≤ 3) (_ : (i + 1) * 2 ^ h ≤ 8) (w : World),
    Calls Try.prog 24 #[.string s, .int .i64 ((i * 2 ^ h : Nat) : Int), .int .i64 ((2 ^ h : Nat) : Int)] w fun e W' => e = .returned (.string (nodeB s h i)) ∧ Below w.heap.size w W'
  | 0, i, _, hi, w => by
    have hf : lfN ((i * 2 ^ 0 : Nat) : Int) = i := by have := lfN_cases ((i * 2 ^ 0 : Nat) : Int); simp at this hi ⊢; omega
    have HF : Hid (nodeB s 0 i = publicB s (lfN ((i * 2 ^ 0 : Nat) : Int))) := Lib.hid (by rw [hf]; rfl)
    clear hf
    rw [show ((2 ^ 0 : Nat) : Int) = 1 from rfl]
    generalize ((i * 2 ^ 0 : Nat) : Int) = z at *
    clear hi
    go_enter Try.func24, Try.ntmps24
    go_wp2_with fail
    refine (refPublic_any s hs z _).mono ?_
    rintro e w1 ⟨rfl, hb1⟩
    go_wp2_with fail
    go_ret
    exact ⟨by rw [HF.out]; rfl, hb1⟩
  | h + 1, i, hh, hi, w => by
    have ih1 := refRow_any s hs h (2 * i) (by omega) (row_le hi).1
    have ih2 := refRow_any s hs h (2 * i + 1) (by omega) (row_le hi).2
    have HJ : Hid (nodeB s (h + 1) i = joinM (nodeB s h (2 * i)) (nodeB s h (2 * i + 1))) := Lib.hid rfl
    have hz1 := nodeB_size s h (2 * i)
    have hz2 := nodeB_size s h (2 * i + 1)
    have hp1 : 1 ≤ 2 ^ h := Nat.one_le_two_pow
    have e1 : 2 * i * 2 ^ h = i * 2 ^ (h + 1) := by rw [Nat.pow_succ]; generalize 2 ^ h = p; rw [Nat.mul_comm 2 i, Nat.mul_assoc, Nat.mul_comm 2 p]
    have e2 : (2 * i + 1) * 2 ^ h = i * 2 ^ (h + 1) + 2 ^ h := by rw [Nat.add_mul, e1, Nat.one_mul]
    have e3 : 2 ^ (h + 1) = 2 * 2 ^ h := by rw [Nat.pow_succ, Nat.mul_comm]
    have e4 : (i + 1) * 2 ^ (h + 1) = i * 2 ^ (h + 1) + 2 ^ (h + 1) := by rw [Nat.add_mul, Nat.one_mul]
    rw [e1] at ih1
    rw [e2] at ih2
    rw [e4] at hi
    clear e1 e2 e4
    generalize i * 2 ^ (h + 1) = q at *
    rw [e3] at hi ⊢
    clear e3
    generalize 2 ^ h = p at *
    generalize nodeB s h (2 * i) = x at *
    generalize nodeB s h (2 * i + 1) = y at *
    have hd : ((2 * p : Nat) : Int) / 2 = (p : Int) := by omega
    have hne : (((2 * p : Nat) : Int) == 1) = false := by simp; omega
    have hc : ((q + p : Nat) : Int) = (q : Int) + (p : Int) := by simp
    rw [hc] at ih2
    clear hc
    have hq : (q : Int) ≤ 8 := by omega
    have hp8 : (p : Int) ≤ 8 := by omega
    generalize hP : 2 * p = P at *
    have hP8 : (P : Int) ≤ 8 := by omega
    have IH1 := Lib.hid ih1
    have IH2 := Lib.hid ih2
    have HX := Lib.hid hz1
    have HY := Lib.hid hz2
    clear ih1 ih2 hP hz1 hz2 hi
    go_enter Try.func24, Try.ntmps24
    go_wp2_with fail
    refine (IH1.out _).mono ?_
    rintro e w1 ⟨rfl, hb1⟩
    go_wp2_with fail
    refine (IH2.out _).mono ?_
    rintro e w2 ⟨rfl, hb2⟩
    have hadd : ¬ 9223372036854775807 < x.size + y.size := by have := HX.out; have := HY.out; omega
    go_wp2_with fail
    refine (refShort_any (x ++ y) (by rw [ByteArray.size_append]; have := HX.out; have := HY.out; omega) _).mono ?_
    rw [← joinM_of]
    rintro e w3 ⟨rfl, hb3⟩
    go_wp2_with fail
    go_ret
    exact ⟨by rw [HJ.out]; rfl, chain (chain hb1 hb2) hb3⟩
end Go.Proofs.Ytbjpifcgnombaaa
namespace Go.Proofs.Ytbjpifcgnombaaa
open Go.RowKit Go.Shelf
attribute [local irreducible] wpFrom wpAnyH StepH
def NewRm (R : Rm) (w : World) (e : Ending) (W' : World) : Prop := ∃ B va vb, e = .returned (.pointer (some ⟨B, 0, none⟩)) ∧ Sep w [] (RMR B R va vb) W'
theorem clipLt_any {lo hi : Nat} {a : Option Addr} {cap : Nat} {l : List Lt} (w : World) (hl : RSl ltc lo hi w (.slice a l.length cap) l) : Calls Try.prog 33 #[.slice a l.length cap] w fun e W' => e = .returned (.slice a l.length l.length) ∧ W' = w := by
  have hcap : l.length ≤ cap := by obtain ⟨_, _, e, h, _⟩ := hl; cases e; exact h
  have hmax := hl.len
  unfold maxLen at hmax
  clear hl
  generalize l.length = n at *
  go_enter Try.func33, Try.ntmps33
  go_wp2
  go_ret
  exact ⟨rfl, rfl⟩
theorem open_err {R : Rm} {a : Ak} {now : Int} (h : (errA a != 0) = true) : openR R a now = (R, errA a) := if_pos (bne_iff_ne.1 h)
theorem open_is {R : Rm} {a : Ak} {now : Int} (h : (errA a != 0) = false) (h' : (openL R.ls a).isSome = true) : openR R a now = (R, 32) := by
  unfold openR
  rw [if_neg (fun e => e (bne_eq_false_iff_eq.1 h)), if_pos h']
theorem open_full {R : Rm} {a : Ak} {now : Int} (h : (errA a != 0) = false) (h' : (openL R.ls a).isSome = false) (h3 : decide (8 ≤ (R.ls.length : Int)) = true) : openR R a now = (R, 10) := by
  unfold openR
  rw [if_neg (fun e => e (bne_eq_false_iff_eq.1 h)), if_neg (by rw [h']; decide), if_pos (by have h := of_decide_eq_true h3; omega)]
theorem open_yes {R : Rm} {a : Ak} {now z : Int} (h : (errA a != 0) = false) (h' : (openL R.ls a).isSome = false) (h3 : decide (8 ≤ (R.ls.length : Int)) = false) (hz : sinceI now = z) : openR R a now = ({ R with ls := R.ls ++ [⟨a, z⟩] }, 0) := by
  unfold openR
  rw [if_neg (fun e => e (bne_eq_false_iff_eq.1 h)), if_neg (by rw [h']; decide), if_neg (by have h := of_decide_eq_false h3; omega), hz]
theorem since_neg {t : Int} (h : decide (t < 0) = true) : sinceI t = 0 := if_pos (.inl (of_decide_eq_true h))
theorem since_big {t : Int} (h : decide (1099511627776 < t) = true) : sinceI t = 0 := if_pos (.inr (of_decide_eq_true h))
theorem since_in {t : Int} (h : decide (t < 0) = false) (h' : decide (1099511627776 < t) = false) : sinceI t = t := if_neg fun e => e.elim (of_decide_eq_false h) (of_decide_eq_false h')
set_option maxRecDepth 100000 in
set_option maxHeartbeats 4000000 in
theorem rmOpen_any {B : Nat} {R : Rm} {va vb : Value} (a : Ak) (now : Int) (w : World) (h : ROk (.join (RMR B R va vb)) w) : Calls Try.prog 19 #[.pointer (some ⟨B, 0, none⟩), akv a, .int .i64 now] w (RmR B (.join (RMR B R va vb)) (openR R a now).1 (.int .i64 (openR R a now).2) w) := by
  have hmx : Try.prog.follows .mixedOrders = true := by kernel_rfl
  have hM := Sep.begin h
  obtain ⟨pa, ca, rfl⟩ := (hM.oka 1 rfl).slice ltc_len
  obtain ⟨pb, cb, rfl⟩ := (hM.oka 2 rfl).slice bdc_len
  clear h
  replace hM : Sep w (Res.join (RMR B R (.slice pa R.ls.length ca) (.slice pb R.bs.length cb))).foot [.blk B 77 (rmc true R.r0 R.r1 (.slice pa R.ls.length ca) (.slice pb R.bs.length cb)), .own ltc 87 10 (.slice pa R.ls.length ca) (R.ls), .own bdc 33 16 (.slice pb R.bs.length cb) (R.bs)] w := hM
  go_enter Try.func19, Try.ntmps19
  go_upto_region 0 with fail
  refine wp_region_fromM (fun W => Sep w (Res.join (RMR B R (.slice pa R.ls.length ca) (.slice pb R.bs.length cb))).foot [.blk B 77 (rmc true R.r0 R.r1 (.slice pa R.ls.length ca) (.slice pb R.bs.length cb)), .own ltc 87 10 (.slice pa R.ls.length ca) (R.ls), .own bdc 33 16 (.slice pb R.bs.length cb) (R.bs)] W) hM ?_
  clear hM
  rintro Y1 hM
  refine rF (some 4) (pt Y1.heap.size 0) (Y1.alloc (.cells (akc a).toArray 26)) ?_
  replace hM := hM.alloc 26 (akc a)
  generalize World.alloc _ _ = Y2 at *
  generalize hNe : Y1.heap.size = N2 at *
  clear hNe
  refine tF 2 [.val 1 (some 6) (.int .i64 0)] trivial ?_
  refine dF ?_
  try simp only [puts, Tk.put, Act.put, List.setIfInBounds_toArray, List.set_cons_zero, List.set_cons_succ]
  go_upto_region 1 with fail
  refine wp_region_fromM (fun W => Sep w (Res.join (RMR B R (.slice pa R.ls.length ca) (.slice pb R.bs.length cb))).foot [.blk N2 26 (akc a), .blk B 77 (rmc true R.r0 R.r1 (.slice pa R.ls.length ca) (.slice pb R.bs.length cb)), .own ltc 87 10 (.slice pa R.ls.length ca) (R.ls), .own bdc 33 16 (.slice pb R.bs.length cb) (R.bs)] W) hM ?_
  clear hM
  rintro Y3 hM
  refine tF 1 [.val 0 (some 10) (pt B 0)] trivial ?_
  refine cF (some 11) 30 #[pt B 0] ((rmThere_yes _ (hM.at 1 rfl)).mono ?_)
  rintro e Y4 ⟨rfl, hb⟩
  replace hM := hM.below hb
  clear hb
  refine tF 3 [.val 2 (some 12) (.bool false)] trivial ?_
  refine dF ?_
  try simp only [puts, Tk.put, Act.put, List.setIfInBounds_toArray, List.set_cons_zero, List.set_cons_succ]
  go_upto_region 3 with fail
  refine wp_region_fromM (fun W => Sep w (Res.join (RMR B R (.slice pa R.ls.length ca) (.slice pb R.bs.length cb))).foot [.blk N2 26 (akc a), .blk B 77 (rmc true R.r0 R.r1 (.slice pa R.ls.length ca) (.slice pb R.bs.length cb)), .own ltc 87 10 (.slice pa R.ls.length ca) (R.ls), .own bdc 33 16 (.slice pb R.bs.length cb) (R.bs)] W) hM ?_
  clear hM
  rintro Y5 hM
  refine tF 1 [.load 0 (some 13) 26 (pt N2 0) (akv a)] ⟨load_part (hM.at 0 rfl) 0 (akc a) rfl _ _ Try.underlying26 rfl (by kernel_rfl), trivial⟩ ?_
  refine cF (some 14) 31 #[akv a] ((checkAsk_any a _).mono ?_)
  rintro e Y6 ⟨rfl, hb⟩
  replace hM := hM.below hb
  clear hb
  refine tF 3 [.val 2 (some 7) (.int .i64 (errA a))] trivial ?_
  refine dF ?_
  try simp only [puts, Tk.put, Act.put, List.setIfInBounds_toArray, List.set_cons_zero, List.set_cons_succ]
  go_upto_region 4 with fail
  refine wp_region_fromM (fun W => Sep w (Res.join (RMR B R (.slice pa R.ls.length ca) (.slice pb R.bs.length cb))).foot [.blk N2 26 (akc a), .blk B 77 (rmc true R.r0 R.r1 (.slice pa R.ls.length ca) (.slice pb R.bs.length cb)), .own ltc 87 10 (.slice pa R.ls.length ca) (R.ls), .own bdc 33 16 (.slice pb R.bs.length cb) (R.bs)] W) hM ?_
  clear hM
  rintro Y7 hM
  refine tF 2 [.val 0 (some 15) (.int .i64 (errA a)), .val 1 (some 16) (.bool ((errA a) != 0))] trivial ?_
  refine dF ?_
  try simp only [puts, Tk.put, Act.put, List.setIfInBounds_toArray, List.set_cons_zero, List.set_cons_succ]
  cases hb1 : (errA a) != 0 with
  | false =>
    have Hhb1 := Lib.hid hb1
    clear hb1
    go_upto_region 6 with fail
    refine wp_region_fromM (fun W => Sep w (Res.join (RMR B R (.slice pa R.ls.length ca) (.slice pb R.bs.length cb))).foot [.blk N2 26 (akc a), .blk B 77 (rmc true R.r0 R.r1 (.slice pa R.ls.length ca) (.slice pb R.bs.length cb)), .own ltc 87 10 (.slice pa R.ls.length ca) (R.ls), .own bdc 33 16 (.slice pb R.bs.length cb) (R.bs)] W) hM ?_
    clear hM
    rintro Y8 hM
    refine tF 2 [.val 0 (some 19) (pt B 0), .load 1 (some 20) 26 (pt N2 0) (akv a)] ⟨load_part (hM.at 0 rfl) 0 (akc a) rfl _ _ Try.underlying26 rfl (by kernel_rfl), trivial⟩ ?_
    refine cF (some 21) 32 #[pt B 0, akv a] ((rmOpened_any a _ (⟨hM.at 1 rfl, (hM.oka 2 rfl).rsl ltc_len, (hM.oka 3 rfl).rsl bdc_len⟩)).mono ?_)
    rintro e Y9 ⟨rfl, hb⟩
    replace hM := hM.below hb
    clear hb
    refine tF 6 [.val 3 (some 18) (.tuple #[ltv ((openL R.ls a).getD noL), .bool (openL R.ls a).isSome]), .val 4 (some 22) (ltv ((openL R.ls a).getD noL)), .val 5 (some 23) (.bool (openL R.ls a).isSome)] trivial ?_
    refine rF (some 8) (pt Y9.heap.size 0) (Y9.alloc (.cells (ltc noL).toArray 87)) ?_
    replace hM := hM.alloc 87 (ltc noL)
    generalize World.alloc _ _ = Y10 at *
    generalize hNe : Y9.heap.size = N10 at *
    clear hNe
    have hst := sto_part (ltc ((openL R.ls a).getD noL)) (hM.at 0 rfl) 0 87 (ltv ((openL R.ls a).getD noL)) (ltc ((openL R.ls a).getD noL)) rfl (by kernel_rfl) (Nat.le_of_ble_eq_true rfl) rfl rfl
    refine sF 87 (pt N10 0) (ltv ((openL R.ls a).getD noL)) (hst) ?_
    clear hst
    replace hM := hM.set 0 (cs' := ltc ((openL R.ls a).getD noL)) rfl rfl
    generalize World.setRow _ _ _ = Y11 at *
    refine tF 9 [.val 8 (some 9) (.bool (openL R.ls a).isSome)] trivial ?_
    refine dF ?_
    try simp only [puts, Tk.put, Act.put, List.setIfInBounds_toArray, List.set_cons_zero, List.set_cons_succ]
    go_upto_region 7 with fail
    refine wp_region_fromM (fun W => Sep w (Res.join (RMR B R (.slice pa R.ls.length ca) (.slice pb R.bs.length cb))).foot [.blk N10 87 (ltc ((openL R.ls a).getD noL)), .blk N2 26 (akc a), .blk B 77 (rmc true R.r0 R.r1 (.slice pa R.ls.length ca) (.slice pb R.bs.length cb)), .own ltc 87 10 (.slice pa R.ls.length ca) (R.ls), .own bdc 33 16 (.slice pb R.bs.length cb) (R.bs)] W) hM ?_
    clear hM
    rintro Y12 hM
    refine tF 1 [.val 0 (some 24) (.bool (openL R.ls a).isSome)] trivial ?_
    refine dF ?_
    try simp only [puts, Tk.put, Act.put, List.setIfInBounds_toArray, List.set_cons_zero, List.set_cons_succ]
    cases hb2 : (openL R.ls a).isSome with
    | false =>
      have Hhb2 := Lib.hid hb2
      clear hb2
      go_upto_region 9 with fail
      refine wp_region_fromM (fun W => Sep w (Res.join (RMR B R (.slice pa R.ls.length ca) (.slice pb R.bs.length cb))).foot [.blk N10 87 (ltc ((openL R.ls a).getD noL)), .blk N2 26 (akc a), .blk B 77 (rmc true R.r0 R.r1 (.slice pa R.ls.length ca) (.slice pb R.bs.length cb)), .own ltc 87 10 (.slice pa R.ls.length ca) (R.ls), .own bdc 33 16 (.slice pb R.bs.length cb) (R.bs)] W) hM ?_
      clear hM
      rintro Y13 hM
      refine tF 6 [.val 0 (some 25) (pt B 0), .val 1 (some 26) (pt B 0), .val 2 (some 27) (pt B 3), .load 3 (some 28) 74 (pt B 3) (.slice pa R.ls.length ca), .val 4 (some 29) (.int .i64 (R.ls.length : Int)), .val 5 (some 30) (.bool (decide (8 ≤ (R.ls.length : Int))))] ⟨ld_any _ _ Try.underlying74 rfl (hM.at 2 rfl) 3 rfl, trivial⟩ ?_
      refine dF ?_
      try simp only [puts, Tk.put, Act.put, List.setIfInBounds_toArray, List.set_cons_zero, List.set_cons_succ]
      cases hb3 : decide (8 ≤ (R.ls.length : Int)) with
      | false =>
        have Hhb3 := Lib.hid hb3
        clear hb3
        go_upto_region 11 with fail
        refine wp_region_fromM (fun W => Sep w (Res.join (RMR B R (.slice pa R.ls.length ca) (.slice pb R.bs.length cb))).foot [.blk N10 87 (ltc ((openL R.ls a).getD noL)), .blk N2 26 (akc a), .blk B 77 (rmc true R.r0 R.r1 (.slice pa R.ls.length ca) (.slice pb R.bs.length cb)), .own ltc 87 10 (.slice pa R.ls.length ca) (R.ls), .own bdc 33 16 (.slice pb R.bs.length cb) (R.bs)] W) hM ?_
        clear hM
        rintro Y14 hM
        refine tF 3 [.val 0 (some 31) (.int .i64 now), .val 1 (some 32) (.bool (decide (now < 0))), .val 2 (some 33) (.bool (decide (now < 0)))] trivial ?_
        cases hb4 : decide (now < 0) with
        | false =>
          have Hhb4 := Lib.hid hb4
          clear hb4
          refine tF 6 [.val 3 (some 34) (.int .i64 now), .val 4 (some 35) (.bool (decide (1099511627776 < now))), .val 5 (some 36) (.bool (decide (1099511627776 < now)))] trivial ?_
          refine dF ?_
          try simp only [puts, Tk.put, Act.put, List.setIfInBounds_toArray, List.set_cons_zero, List.set_cons_succ]
          cases hb5 : decide (1099511627776 < now) with
          | false =>
            have Hhb5 := Lib.hid hb5
            clear hb5
            go_upto_region 13 with fail
            refine wp_region_M (fun W => Sep w (Res.join (RMR B R (.slice pa R.ls.length ca) (.slice pb R.bs.length cb))).foot [.blk N10 87 (ltc ((openL R.ls a).getD noL)), .blk N2 26 (akc a), .own bdc 33 16 (.slice pb R.bs.length cb) (R.bs)] W) (fun W => Sep w (Res.join (RMR B R (.slice pa R.ls.length ca) (.slice pb R.bs.length cb))).foot [.blk N10 87 (ltc ((openL R.ls a).getD noL)), .blk N2 26 (akc a), .blk B 77 (rmc true R.r0 R.r1 (.slice pa R.ls.length ca) (.slice pb R.bs.length cb)), .own ltc 87 10 (.slice pa R.ls.length ca) (R.ls), .own bdc 33 16 (.slice pb R.bs.length cb) (R.bs)] W) hmx hM.drew ?_
            clear hM
            rintro Y15 hM
            have hS := hM.sub (.cons_cons _ (.cons_cons _ (.cons _ (.cons _ (.cons_cons _ .slnil)))))
            refine tD 7 [.val 0 (some 37) (pt B 0), .val 1 (some 38) (pt B 0), .val 2 (some 39) (pt B 0), .val 3 (some 40) (pt B 3), .load 6 (some 43) 26 (pt N2 0) (akv a), .val 7 (some 44) (.int .i64 now), .val 8 (some 45) (ltv (Lt.mk a now))] ⟨fun W h => load_part (h.at 1 rfl) 0 (akc a) rfl _ _ Try.underlying26 rfl (by kernel_rfl), trivial⟩ hS ?_
            refine oT 4 9 6 ?_ ?_
            · refine lD (some 41) 74 (pt B 3) (.slice pa R.ls.length ca) (ld_any _ _ Try.underlying74 rfl (hM.at 2 rfl) 3 rfl) (hS) ?_
              refine oT 5 9 5 ?_ ?_
              · refine cD (some 42) 33 #[.slice pa R.ls.length ca] ((clipLt_any _ ((hM.oka 3 rfl).rsl ltc_len)).mono ?_)
                rintro e Y16 ⟨rfl, rfl⟩
                refine And.intro (hS) ?_
                refine oD 9 4 (rD (some 46) (.slice (some ⟨Y16.heap.size, 0, none⟩) 1 1) (Y16.alloc (.cells (ltc (Lt.mk a now)).toArray 87)) (hS.other _) ?_)
                replace hS := hS.other (.cells (ltc (Lt.mk a now)).toArray 87)
                replace hM := hM.alloc 87 (ltc (Lt.mk a now))
                generalize World.alloc _ _ = Y17 at *
                generalize hNe : Y16.heap.size = N17 at *
                clear hNe
                obtain ⟨v18, Y18, hrun, ht⟩ := own_clip1 infoLt rfl (by decide) Try.underlying74 ltc_len ltc_one (hM.oka 4 rfl) (Lt.mk a now) (hM.at 0 rfl) (by decide) (by have h := of_decide_eq_false Hhb3.out; omega) 74
                obtain ⟨pv18, cv18, rfl⟩ := ht.ok.slice ltc_len
                have hM1 := hM.turn 4 rfl ht rfl
                clear ht
                refine oD 10 3 (stepH_append (d := some 47) (t := 74) (t' := 74) (ty := 74) (v := .slice pa R.ls.length R.ls.length) (x := .slice (some ⟨N17, 0, none⟩) 1 1) (by kernel_rfl) hrun (hM1.sub (.cons _ (.cons_cons _ (.cons_cons _ (.cons _ (.cons _ (.cons_cons _ .slnil))))))) ?_)
                replace hS := hM1.sub (.cons _ (.cons_cons _ (.cons_cons _ (.cons _ (.cons _ (.cons_cons _ .slnil))))))
                replace hM := hM1
                clear hM1 hrun
                refine tD 1 [.val 11 (some 48) (pt B 0), .val 12 (some 49) (pt B 3)] trivial hS ?_
                have hst := (sto_part (rmc true R.r0 R.r1 (.slice pv18 (R.ls ++ [Lt.mk a now]).length cv18) (.slice pb R.bs.length cb)) (hM.at 3 rfl) 3 74 (.slice pv18 (R.ls ++ [Lt.mk a now]).length cv18) ([.slice pv18 (R.ls ++ [Lt.mk a now]).length cv18]) rfl (by kernel_rfl) (Nat.le_of_ble_eq_true rfl) rfl rfl)
                have hM1 := hM.set 3 (cs' := rmc true R.r0 R.r1 (.slice pv18 (R.ls ++ [Lt.mk a now]).length cv18) (.slice pb R.bs.length cb)) rfl rfl
                refine oD 13 0 (sD 74 (pt B 3) (.slice pv18 (R.ls ++ [Lt.mk a now]).length cv18) (hst) (hM1.sub (.cons _ (.cons_cons _ (.cons_cons _ (.cons _ (.cons _ (.cons_cons _ .slnil))))))) ?_)
                clear hst
                replace hS := hM1.sub (.cons _ (.cons_cons _ (.cons_cons _ (.cons _ (.cons _ (.cons_cons _ .slnil))))))
                replace hM := hM1
                clear hM1
                generalize World.setRow _ _ _ = Y19 at *
                refine dD ?_
                try simp only [puts, Tk.put, Act.put, List.setIfInBounds_toArray, List.set_cons_zero, List.set_cons_succ]
                clear hS
                go_upto_region 14 with fail
                refine wp_region_fromM (fun W => Sep w (Res.join (RMR B R (.slice pa R.ls.length ca) (.slice pb R.bs.length cb))).foot [.blk N17 87 (ltc (Lt.mk a now)), .blk N10 87 (ltc ((openL R.ls a).getD noL)), .blk N2 26 (akc a), .blk B 77 (rmc true R.r0 R.r1 (.slice pv18 (R.ls ++ [Lt.mk a now]).length cv18) (.slice pb R.bs.length cb)), .own ltc 87 10 (.slice pv18 (R.ls ++ [Lt.mk a now]).length cv18) (R.ls ++ [Lt.mk a now]), .own bdc 33 16 (.slice pb R.bs.length cb) (R.bs)] W) hM ?_
                clear hM
                rintro Y20 hM
                refine tF 1 [.val 0 (some 6) (.int .i64 0)] trivial ?_
                refine dF ?_
                try simp only [puts, Tk.put, Act.put, List.setIfInBounds_toArray, List.set_cons_zero, List.set_cons_succ]
                go_wp2_with fail
                go_ret
                rw [open_yes Hhb1.out Hhb2.out Hhb3.out (since_in Hhb4.out Hhb5.out)]
                exact ⟨rfl, _, _, Sep.fin (hM.pick [3, 4, 5] (by decide) rfl) (List.Sublist.refl _)⟩
              · refine rD (some 46) (.slice (some ⟨Y15.heap.size, 0, none⟩) 1 1) (Y15.alloc (.cells (ltc (Lt.mk a now)).toArray 87)) (hS.other _) ?_
                replace hS := hS.other (.cells (ltc (Lt.mk a now)).toArray 87)
                replace hM := hM.alloc 87 (ltc (Lt.mk a now))
                generalize World.alloc _ _ = Y21 at *
                generalize hNe : Y15.heap.size = N21 at *
                clear hNe
                refine oD 5 4 (cD (some 42) 33 #[.slice pa R.ls.length ca] ((clipLt_any _ ((hM.oka 4 rfl).rsl ltc_len)).mono ?_))
                rintro e Y22 ⟨rfl, rfl⟩
                refine And.intro (hS) ?_
                obtain ⟨v23, Y23, hrun, ht⟩ := own_clip1 infoLt rfl (by decide) Try.underlying74 ltc_len ltc_one (hM.oka 4 rfl) (Lt.mk a now) (hM.at 0 rfl) (by decide) (by have h := of_decide_eq_false Hhb3.out; omega) 74
                obtain ⟨pv23, cv23, rfl⟩ := ht.ok.slice ltc_len
                have hM1 := hM.turn 4 rfl ht rfl
                clear ht
                refine oD 10 3 (stepH_append (d := some 47) (t := 74) (t' := 74) (ty := 74) (v := .slice pa R.ls.length R.ls.length) (x := .slice (some ⟨N21, 0, none⟩) 1 1) (by kernel_rfl) hrun (hM1.sub (.cons _ (.cons_cons _ (.cons_cons _ (.cons _ (.cons _ (.cons_cons _ .slnil))))))) ?_)
                replace hS := hM1.sub (.cons _ (.cons_cons _ (.cons_cons _ (.cons _ (.cons _ (.cons_cons _ .slnil))))))
                replace hM := hM1
                clear hM1 hrun
                refine tD 1 [.val 11 (some 48) (pt B 0), .val 12 (some 49) (pt B 3)] trivial hS ?_
                have hst := (sto_part (rmc true R.r0 R.r1 (.slice pv23 (R.ls ++ [Lt.mk a now]).length cv23) (.slice pb R.bs.length cb)) (hM.at 3 rfl) 3 74 (.slice pv23 (R.ls ++ [Lt.mk a now]).length cv23) ([.slice pv23 (R.ls ++ [Lt.mk a now]).length cv23]) rfl (by kernel_rfl) (Nat.le_of_ble_eq_true rfl) rfl rfl)
                have hM1 := hM.set 3 (cs' := rmc true R.r0 R.r1 (.slice pv23 (R.ls ++ [Lt.mk a now]).length cv23) (.slice pb R.bs.length cb)) rfl rfl
                refine oD 13 0 (sD 74 (pt B 3) (.slice pv23 (R.ls ++ [Lt.mk a now]).length cv23) (hst) (hM1.sub (.cons _ (.cons_cons _ (.cons_cons _ (.cons _ (.cons _ (.cons_cons _ .slnil))))))) ?_)
                clear hst
                replace hS := hM1.sub (.cons _ (.cons_cons _ (.cons_cons _ (.cons _ (.cons _ (.cons_cons _ .slnil))))))
                replace hM := hM1
                clear hM1
                generalize World.setRow _ _ _ = Y24 at *
                refine dD ?_
                try simp only [puts, Tk.put, Act.put, List.setIfInBounds_toArray, List.set_cons_zero, List.set_cons_succ]
                clear hS
                go_upto_region 14 with fail
                refine wp_region_fromM (fun W => Sep w (Res.join (RMR B R (.slice pa R.ls.length ca) (.slice pb R.bs.length cb))).foot [.blk N21 87 (ltc (Lt.mk a now)), .blk N10 87 (ltc ((openL R.ls a).getD noL)), .blk N2 26 (akc a), .blk B 77 (rmc true R.r0 R.r1 (.slice pv23 (R.ls ++ [Lt.mk a now]).length cv23) (.slice pb R.bs.length cb)), .own ltc 87 10 (.slice pv23 (R.ls ++ [Lt.mk a now]).length cv23) (R.ls ++ [Lt.mk a now]), .own bdc 33 16 (.slice pb R.bs.length cb) (R.bs)] W) hM ?_
                clear hM
                rintro Y25 hM
                refine tF 1 [.val 0 (some 6) (.int .i64 0)] trivial ?_
                refine dF ?_
                try simp only [puts, Tk.put, Act.put, List.setIfInBounds_toArray, List.set_cons_zero, List.set_cons_succ]
                go_wp2_with fail
                go_ret
                rw [open_yes Hhb1.out Hhb2.out Hhb3.out (since_in Hhb4.out Hhb5.out)]
                exact ⟨rfl, _, _, Sep.fin (hM.pick [3, 4, 5] (by decide) rfl) (List.Sublist.refl _)⟩
            · refine rD (some 46) (.slice (some ⟨Y15.heap.size, 0, none⟩) 1 1) (Y15.alloc (.cells (ltc (Lt.mk a now)).toArray 87)) (hS.other _) ?_
              replace hS := hS.other (.cells (ltc (Lt.mk a now)).toArray 87)
              replace hM := hM.alloc 87 (ltc (Lt.mk a now))
              generalize World.alloc _ _ = Y26 at *
              generalize hNe : Y15.heap.size = N26 at *
              clear hNe
              refine oD 4 5 (lD (some 41) 74 (pt B 3) (.slice pa R.ls.length ca) (ld_any _ _ Try.underlying74 rfl (hM.at 3 rfl) 3 rfl) (hS) ?_)
              refine oD 5 4 (cD (some 42) 33 #[.slice pa R.ls.length ca] ((clipLt_any _ ((hM.oka 4 rfl).rsl ltc_len)).mono ?_))
              rintro e Y27 ⟨rfl, rfl⟩
              refine And.intro (hS) ?_
              obtain ⟨v28, Y28, hrun, ht⟩ := own_clip1 infoLt rfl (by decide) Try.underlying74 ltc_len ltc_one (hM.oka 4 rfl) (Lt.mk a now) (hM.at 0 rfl) (by decide) (by have h := of_decide_eq_false Hhb3.out; omega) 74
              obtain ⟨pv28, cv28, rfl⟩ := ht.ok.slice ltc_len
              have hM1 := hM.turn 4 rfl ht rfl
              clear ht
              refine oD 10 3 (stepH_append (d := some 47) (t := 74) (t' := 74) (ty := 74) (v := .slice pa R.ls.length R.ls.length) (x := .slice (some ⟨N26, 0, none⟩) 1 1) (by kernel_rfl) hrun (hM1.sub (.cons _ (.cons_cons _ (.cons_cons _ (.cons _ (.cons _ (.cons_cons _ .slnil))))))) ?_)
              replace hS := hM1.sub (.cons _ (.cons_cons _ (.cons_cons _ (.cons _ (.cons _ (.cons_cons _ .slnil))))))
              replace hM := hM1
              clear hM1 hrun
              refine tD 1 [.val 11 (some 48) (pt B 0), .val 12 (some 49) (pt B 3)] trivial hS ?_
              have hst := (sto_part (rmc true R.r0 R.r1 (.slice pv28 (R.ls ++ [Lt.mk a now]).length cv28) (.slice pb R.bs.length cb)) (hM.at 3 rfl) 3 74 (.slice pv28 (R.ls ++ [Lt.mk a now]).length cv28) ([.slice pv28 (R.ls ++ [Lt.mk a now]).length cv28]) rfl (by kernel_rfl) (Nat.le_of_ble_eq_true rfl) rfl rfl)
              have hM1 := hM.set 3 (cs' := rmc true R.r0 R.r1 (.slice pv28 (R.ls ++ [Lt.mk a now]).length cv28) (.slice pb R.bs.length cb)) rfl rfl
              refine oD 13 0 (sD 74 (pt B 3) (.slice pv28 (R.ls ++ [Lt.mk a now]).length cv28) (hst) (hM1.sub (.cons _ (.cons_cons _ (.cons_cons _ (.cons _ (.cons _ (.cons_cons _ .slnil))))))) ?_)
              clear hst
              replace hS := hM1.sub (.cons _ (.cons_cons _ (.cons_cons _ (.cons _ (.cons _ (.cons_cons _ .slnil))))))
              replace hM := hM1
              clear hM1
              generalize World.setRow _ _ _ = Y29 at *
              refine dD ?_
              try simp only [puts, Tk.put, Act.put, List.setIfInBounds_toArray, List.set_cons_zero, List.set_cons_succ]
              clear hS
              go_upto_region 14 with fail
              refine wp_region_fromM (fun W => Sep w (Res.join (RMR B R (.slice pa R.ls.length ca) (.slice pb R.bs.length cb))).foot [.blk N26 87 (ltc (Lt.mk a now)), .blk N10 87 (ltc ((openL R.ls a).getD noL)), .blk N2 26 (akc a), .blk B 77 (rmc true R.r0 R.r1 (.slice pv28 (R.ls ++ [Lt.mk a now]).length cv28) (.slice pb R.bs.length cb)), .own ltc 87 10 (.slice pv28 (R.ls ++ [Lt.mk a now]).length cv28) (R.ls ++ [Lt.mk a now]), .own bdc 33 16 (.slice pb R.bs.length cb) (R.bs)] W) hM ?_
              clear hM
              rintro Y30 hM
              refine tF 1 [.val 0 (some 6) (.int .i64 0)] trivial ?_
              refine dF ?_
              try simp only [puts, Tk.put, Act.put, List.setIfInBounds_toArray, List.set_cons_zero, List.set_cons_succ]
              go_wp2_with fail
              go_ret
              rw [open_yes Hhb1.out Hhb2.out Hhb3.out (since_in Hhb4.out Hhb5.out)]
              exact ⟨rfl, _, _, Sep.fin (hM.pick [3, 4, 5] (by decide) rfl) (List.Sublist.refl _)⟩
          | true =>
            have Hhb5 := Lib.hid hb5
            clear hb5
            go_upto_region 12 with fail
            refine wp_region_fromM (fun W => Sep w (Res.join (RMR B R (.slice pa R.ls.length ca) (.slice pb R.bs.length cb))).foot [.blk N10 87 (ltc ((openL R.ls a).getD noL)), .blk N2 26 (akc a), .blk B 77 (rmc true R.r0 R.r1 (.slice pa R.ls.length ca) (.slice pb R.bs.length cb)), .own ltc 87 10 (.slice pa R.ls.length ca) (R.ls), .own bdc 33 16 (.slice pb R.bs.length cb) (R.bs)] W) hM ?_
            clear hM
            rintro Y31 hM
            refine tF 1 [.val 0 (some 2) (.int .i64 0)] trivial ?_
            refine dF ?_
            try simp only [puts, Tk.put, Act.put, List.setIfInBounds_toArray, List.set_cons_zero, List.set_cons_succ]
            go_upto_region 13 with fail
            refine wp_region_M (fun W => Sep w (Res.join (RMR B R (.slice pa R.ls.length ca) (.slice pb R.bs.length cb))).foot [.blk N10 87 (ltc ((openL R.ls a).getD noL)), .blk N2 26 (akc a), .own bdc 33 16 (.slice pb R.bs.length cb) (R.bs)] W) (fun W => Sep w (Res.join (RMR B R (.slice pa R.ls.length ca) (.slice pb R.bs.length cb))).foot [.blk N10 87 (ltc ((openL R.ls a).getD noL)), .blk N2 26 (akc a), .blk B 77 (rmc true R.r0 R.r1 (.slice pa R.ls.length ca) (.slice pb R.bs.length cb)), .own ltc 87 10 (.slice pa R.ls.length ca) (R.ls), .own bdc 33 16 (.slice pb R.bs.length cb) (R.bs)] W) hmx hM.drew ?_
            clear hM
            rintro Y32 hM
            have hS := hM.sub (.cons_cons _ (.cons_cons _ (.cons _ (.cons _ (.cons_cons _ .slnil)))))
            refine tD 7 [.val 0 (some 37) (pt B 0), .val 1 (some 38) (pt B 0), .val 2 (some 39) (pt B 0), .val 3 (some 40) (pt B 3), .load 6 (some 43) 26 (pt N2 0) (akv a), .val 7 (some 44) (.int .i64 0), .val 8 (some 45) (ltv (Lt.mk a 0))] ⟨fun W h => load_part (h.at 1 rfl) 0 (akc a) rfl _ _ Try.underlying26 rfl (by kernel_rfl), trivial⟩ hS ?_
            refine oT 4 9 6 ?_ ?_
            · refine lD (some 41) 74 (pt B 3) (.slice pa R.ls.length ca) (ld_any _ _ Try.underlying74 rfl (hM.at 2 rfl) 3 rfl) (hS) ?_
              refine oT 5 9 5 ?_ ?_
              · refine cD (some 42) 33 #[.slice pa R.ls.length ca] ((clipLt_any _ ((hM.oka 3 rfl).rsl ltc_len)).mono ?_)
                rintro e Y33 ⟨rfl, rfl⟩
                refine And.intro (hS) ?_
                refine oD 9 4 (rD (some 46) (.slice (some ⟨Y33.heap.size, 0, none⟩) 1 1) (Y33.alloc (.cells (ltc (Lt.mk a 0)).toArray 87)) (hS.other _) ?_)
                replace hS := hS.other (.cells (ltc (Lt.mk a 0)).toArray 87)
                replace hM := hM.alloc 87 (ltc (Lt.mk a 0))
                generalize World.alloc _ _ = Y34 at *
                generalize hNe : Y33.heap.size = N34 at *
                clear hNe
                obtain ⟨v35, Y35, hrun, ht⟩ := own_clip1 infoLt rfl (by decide) Try.underlying74 ltc_len ltc_one (hM.oka 4 rfl) (Lt.mk a 0) (hM.at 0 rfl) (by decide) (by have h := of_decide_eq_false Hhb3.out; omega) 74
                obtain ⟨pv35, cv35, rfl⟩ := ht.ok.slice ltc_len
                have hM1 := hM.turn 4 rfl ht rfl
                clear ht
                refine oD 10 3 (stepH_append (d := some 47) (t := 74) (t' := 74) (ty := 74) (v := .slice pa R.ls.length R.ls.length) (x := .slice (some ⟨N34, 0, none⟩) 1 1) (by kernel_rfl) hrun (hM1.sub (.cons _ (.cons_cons _ (.cons_cons _ (.cons _ (.cons _ (.cons_cons _ .slnil))))))) ?_)
                replace hS := hM1.sub (.cons _ (.cons_cons _ (.cons_cons _ (.cons _ (.cons _ (.cons_cons _ .slnil))))))
                replace hM := hM1
                clear hM1 hrun
                refine tD 1 [.val 11 (some 48) (pt B 0), .val 12 (some 49) (pt B 3)] trivial hS ?_
                have hst := (sto_part (rmc true R.r0 R.r1 (.slice pv35 (R.ls ++ [Lt.mk a 0]).length cv35) (.slice pb R.bs.length cb)) (hM.at 3 rfl) 3 74 (.slice pv35 (R.ls ++ [Lt.mk a 0]).length cv35) ([.slice pv35 (R.ls ++ [Lt.mk a 0]).length cv35]) rfl (by kernel_rfl) (Nat.le_of_ble_eq_true rfl) rfl rfl)
                have hM1 := hM.set 3 (cs' := rmc true R.r0 R.r1 (.slice pv35 (R.ls ++ [Lt.mk a 0]).length cv35) (.slice pb R.bs.length cb)) rfl rfl
                refine oD 13 0 (sD 74 (pt B 3) (.slice pv35 (R.ls ++ [Lt.mk a 0]).length cv35) (hst) (hM1.sub (.cons _ (.cons_cons _ (.cons_cons _ (.cons _ (.cons _ (.cons_cons _ .slnil))))))) ?_)
                clear hst
                replace hS := hM1.sub (.cons _ (.cons_cons _ (.cons_cons _ (.cons _ (.cons _ (.cons_cons _ .slnil))))))
                replace hM := hM1
                clear hM1
                generalize World.setRow _ _ _ = Y36 at *
                refine dD ?_
                try simp only [puts, Tk.put, Act.put, List.setIfInBounds_toArray, List.set_cons_zero, List.set_cons_succ]
                clear hS
                go_upto_region 14 with fail
                refine wp_region_fromM (fun W => Sep w (Res.join (RMR B R (.slice pa R.ls.length ca) (.slice pb R.bs.length cb))).foot [.blk N34 87 (ltc (Lt.mk a 0)), .blk N10 87 (ltc ((openL R.ls a).getD noL)), .blk N2 26 (akc a), .blk B 77 (rmc true R.r0 R.r1 (.slice pv35 (R.ls ++ [Lt.mk a 0]).length cv35) (.slice pb R.bs.length cb)), .own ltc 87 10 (.slice pv35 (R.ls ++ [Lt.mk a 0]).length cv35) (R.ls ++ [Lt.mk a 0]), .own bdc 33 16 (.slice pb R.bs.length cb) (R.bs)] W) hM ?_
                clear hM
                rintro Y37 hM
                refine tF 1 [.val 0 (some 6) (.int .i64 0)] trivial ?_
                refine dF ?_
                try simp only [puts, Tk.put, Act.put, List.setIfInBounds_toArray, List.set_cons_zero, List.set_cons_succ]
                go_wp2_with fail
                go_ret
                rw [open_yes Hhb1.out Hhb2.out Hhb3.out (since_big Hhb5.out)]
                exact ⟨rfl, _, _, Sep.fin (hM.pick [3, 4, 5] (by decide) rfl) (List.Sublist.refl _)⟩
              · refine rD (some 46) (.slice (some ⟨Y32.heap.size, 0, none⟩) 1 1) (Y32.alloc (.cells (ltc (Lt.mk a 0)).toArray 87)) (hS.other _) ?_
                replace hS := hS.other (.cells (ltc (Lt.mk a 0)).toArray 87)
                replace hM := hM.alloc 87 (ltc (Lt.mk a 0))
                generalize World.alloc _ _ = Y38 at *
                generalize hNe : Y32.heap.size = N38 at *
                clear hNe
                refine oD 5 4 (cD (some 42) 33 #[.slice pa R.ls.length ca] ((clipLt_any _ ((hM.oka 4 rfl).rsl ltc_len)).mono ?_))
                rintro e Y39 ⟨rfl, rfl⟩
                refine And.intro (hS) ?_
                obtain ⟨v40, Y40, hrun, ht⟩ := own_clip1 infoLt rfl (by decide) Try.underlying74 ltc_len ltc_one (hM.oka 4 rfl) (Lt.mk a 0) (hM.at 0 rfl) (by decide) (by have h := of_decide_eq_false Hhb3.out; omega) 74
                obtain ⟨pv40, cv40, rfl⟩ := ht.ok.slice ltc_len
                have hM1 := hM.turn 4 rfl ht rfl
                clear ht
                refine oD 10 3 (stepH_append (d := some 47) (t := 74) (t' := 74) (ty := 74) (v := .slice pa R.ls.length R.ls.length) (x := .slice (some ⟨N38, 0, none⟩) 1 1) (by kernel_rfl) hrun (hM1.sub (.cons _ (.cons_cons _ (.cons_cons _ (.cons _ (.cons _ (.cons_cons _ .slnil))))))) ?_)
                replace hS := hM1.sub (.cons _ (.cons_cons _ (.cons_cons _ (.cons _ (.cons _ (.cons_cons _ .slnil))))))
                replace hM := hM1
                clear hM1 hrun
                refine tD 1 [.val 11 (some 48) (pt B 0), .val 12 (some 49) (pt B 3)] trivial hS ?_
                have hst := (sto_part (rmc true R.r0 R.r1 (.slice pv40 (R.ls ++ [Lt.mk a 0]).length cv40) (.slice pb R.bs.length cb)) (hM.at 3 rfl) 3 74 (.slice pv40 (R.ls ++ [Lt.mk a 0]).length cv40) ([.slice pv40 (R.ls ++ [Lt.mk a 0]).length cv40]) rfl (by kernel_rfl) (Nat.le_of_ble_eq_true rfl) rfl rfl)
                have hM1 := hM.set 3 (cs' := rmc true R.r0 R.r1 (.slice pv40 (R.ls ++ [Lt.mk a 0]).length cv40) (.slice pb R.bs.length cb)) rfl rfl
                refine oD 13 0 (sD 74 (pt B 3) (.slice pv40 (R.ls ++ [Lt.mk a 0]).length cv40) (hst) (hM1.sub (.cons _ (.cons_cons _ (.cons_cons _ (.cons _ (.cons _ (.cons_cons _ .slnil))))))) ?_)
                clear hst
                replace hS := hM1.sub (.cons _ (.cons_cons _ (.cons_cons _ (.cons _ (.cons _ (.cons_cons _ .slnil))))))
                replace hM := hM1
                clear hM1
                generalize World.setRow _ _ _ = Y41 at *
                refine dD ?_
                try simp only [puts, Tk.put, Act.put, List.setIfInBounds_toArray, List.set_cons_zero, List.set_cons_succ]
                clear hS
                go_upto_region 14 with fail
                refine wp_region_fromM (fun W => Sep w (Res.join (RMR B R (.slice pa R.ls.length ca) (.slice pb R.bs.length cb))).foot [.blk N38 87 (ltc (Lt.mk a 0)), .blk N10 87 (ltc ((openL R.ls a).getD noL)), .blk N2 26 (akc a), .blk B 77 (rmc true R.r0 R.r1 (.slice pv40 (R.ls ++ [Lt.mk a 0]).length cv40) (.slice pb R.bs.length cb)), .own ltc 87 10 (.slice pv40 (R.ls ++ [Lt.mk a 0]).length cv40) (R.ls ++ [Lt.mk a 0]), .own bdc 33 16 (.slice pb R.bs.length cb) (R.bs)] W) hM ?_
                clear hM
                rintro Y42 hM
                refine tF 1 [.val 0 (some 6) (.int .i64 0)] trivial ?_
                refine dF ?_
                try simp only [puts, Tk.put, Act.put, List.setIfInBounds_toArray, List.set_cons_zero, List.set_cons_succ]
                go_wp2_with fail
                go_ret
                rw [open_yes Hhb1.out Hhb2.out Hhb3.out (since_big Hhb5.out)]
                exact ⟨rfl, _, _, Sep.fin (hM.pick [3, 4, 5] (by decide) rfl) (List.Sublist.refl _)⟩
            · refine rD (some 46) (.slice (some ⟨Y32.heap.size, 0, none⟩) 1 1) (Y32.alloc (.cells (ltc (Lt.mk a 0)).toArray 87)) (hS.other _) ?_
              replace hS := hS.other (.cells (ltc (Lt.mk a 0)).toArray 87)
              replace hM := hM.alloc 87 (ltc (Lt.mk a 0))
              generalize World.alloc _ _ = Y43 at *
              generalize hNe : Y32.heap.size = N43 at *
              clear hNe
              refine oD 4 5 (lD (some 41) 74 (pt B 3) (.slice pa R.ls.length ca) (ld_any _ _ Try.underlying74 rfl (hM.at 3 rfl) 3 rfl) (hS) ?_)
              refine oD 5 4 (cD (some 42) 33 #[.slice pa R.ls.length ca] ((clipLt_any _ ((hM.oka 4 rfl).rsl ltc_len)).mono ?_))
              rintro e Y44 ⟨rfl, rfl⟩
              refine And.intro (hS) ?_
              obtain ⟨v45, Y45, hrun, ht⟩ := own_clip1 infoLt rfl (by decide) Try.underlying74 ltc_len ltc_one (hM.oka 4 rfl) (Lt.mk a 0) (hM.at 0 rfl) (by decide) (by have h := of_decide_eq_false Hhb3.out; omega) 74
              obtain ⟨pv45, cv45, rfl⟩ := ht.ok.slice ltc_len
              have hM1 := hM.turn 4 rfl ht rfl
              clear ht
              refine oD 10 3 (stepH_append (d := some 47) (t := 74) (t' := 74) (ty := 74) (v := .slice pa R.ls.length R.ls.length) (x := .slice (some ⟨N43, 0, none⟩) 1 1) (by kernel_rfl) hrun (hM1.sub (.cons _ (.cons_cons _ (.cons_cons _ (.cons _ (.cons _ (.cons_cons _ .slnil))))))) ?_)
              replace hS := hM1.sub (.cons _ (.cons_cons _ (.cons_cons _ (.cons _ (.cons _ (.cons_cons _ .slnil))))))
              replace hM := hM1
              clear hM1 hrun
              refine tD 1 [.val 11 (some 48) (pt B 0), .val 12 (some 49) (pt B 3)] trivial hS ?_
              have hst := (sto_part (rmc true R.r0 R.r1 (.slice pv45 (R.ls ++ [Lt.mk a 0]).length cv45) (.slice pb R.bs.length cb)) (hM.at 3 rfl) 3 74 (.slice pv45 (R.ls ++ [Lt.mk a 0]).length cv45) ([.slice pv45 (R.ls ++ [Lt.mk a 0]).length cv45]) rfl (by kernel_rfl) (Nat.le_of_ble_eq_true rfl) rfl rfl)
              have hM1 := hM.set 3 (cs' := rmc true R.r0 R.r1 (.slice pv45 (R.ls ++ [Lt.mk a 0]).length cv45) (.slice pb R.bs.length cb)) rfl rfl
              refine oD 13 0 (sD 74 (pt B 3) (.slice pv45 (R.ls ++ [Lt.mk a 0]).length cv45) (hst) (hM1.sub (.cons _ (.cons_cons _ (.cons_cons _ (.cons _ (.cons _ (.cons_cons _ .slnil))))))) ?_)
              clear hst
              replace hS := hM1.sub (.cons _ (.cons_cons _ (.cons_cons _ (.cons _ (.cons _ (.cons_cons _ .slnil))))))
              replace hM := hM1
              clear hM1
              generalize World.setRow _ _ _ = Y46 at *
              refine dD ?_
              try simp only [puts, Tk.put, Act.put, List.setIfInBounds_toArray, List.set_cons_zero, List.set_cons_succ]
              clear hS
              go_upto_region 14 with fail
              refine wp_region_fromM (fun W => Sep w (Res.join (RMR B R (.slice pa R.ls.length ca) (.slice pb R.bs.length cb))).foot [.blk N43 87 (ltc (Lt.mk a 0)), .blk N10 87 (ltc ((openL R.ls a).getD noL)), .blk N2 26 (akc a), .blk B 77 (rmc true R.r0 R.r1 (.slice pv45 (R.ls ++ [Lt.mk a 0]).length cv45) (.slice pb R.bs.length cb)), .own ltc 87 10 (.slice pv45 (R.ls ++ [Lt.mk a 0]).length cv45) (R.ls ++ [Lt.mk a 0]), .own bdc 33 16 (.slice pb R.bs.length cb) (R.bs)] W) hM ?_
              clear hM
              rintro Y47 hM
              refine tF 1 [.val 0 (some 6) (.int .i64 0)] trivial ?_
              refine dF ?_
              try simp only [puts, Tk.put, Act.put, List.setIfInBounds_toArray, List.set_cons_zero, List.set_cons_succ]
              go_wp2_with fail
              go_ret
              rw [open_yes Hhb1.out Hhb2.out Hhb3.out (since_big Hhb5.out)]
              exact ⟨rfl, _, _, Sep.fin (hM.pick [3, 4, 5] (by decide) rfl) (List.Sublist.refl _)⟩
        | true =>
          have Hhb4 := Lib.hid hb4
          clear hb4
          refine tF 6 [.skip 3 (some 34), .skip 4 (some 35), .val 5 (some 36) (.bool true)] trivial ?_
          refine dF ?_
          try simp only [puts, Tk.put, Act.put, List.setIfInBounds_toArray, List.set_cons_zero, List.set_cons_succ]
          go_upto_region 12 with fail
          refine wp_region_fromM (fun W => Sep w (Res.join (RMR B R (.slice pa R.ls.length ca) (.slice pb R.bs.length cb))).foot [.blk N10 87 (ltc ((openL R.ls a).getD noL)), .blk N2 26 (akc a), .blk B 77 (rmc true R.r0 R.r1 (.slice pa R.ls.length ca) (.slice pb R.bs.length cb)), .own ltc 87 10 (.slice pa R.ls.length ca) (R.ls), .own bdc 33 16 (.slice pb R.bs.length cb) (R.bs)] W) hM ?_
          clear hM
          rintro Y48 hM
          refine tF 1 [.val 0 (some 2) (.int .i64 0)] trivial ?_
          refine dF ?_
          try simp only [puts, Tk.put, Act.put, List.setIfInBounds_toArray, List.set_cons_zero, List.set_cons_succ]
          go_upto_region 13 with fail
          refine wp_region_M (fun W => Sep w (Res.join (RMR B R (.slice pa R.ls.length ca) (.slice pb R.bs.length cb))).foot [.blk N10 87 (ltc ((openL R.ls a).getD noL)), .blk N2 26 (akc a), .own bdc 33 16 (.slice pb R.bs.length cb) (R.bs)] W) (fun W => Sep w (Res.join (RMR B R (.slice pa R.ls.length ca) (.slice pb R.bs.length cb))).foot [.blk N10 87 (ltc ((openL R.ls a).getD noL)), .blk N2 26 (akc a), .blk B 77 (rmc true R.r0 R.r1 (.slice pa R.ls.length ca) (.slice pb R.bs.length cb)), .own ltc 87 10 (.slice pa R.ls.length ca) (R.ls), .own bdc 33 16 (.slice pb R.bs.length cb) (R.bs)] W) hmx hM.drew ?_
          clear hM
          rintro Y49 hM
          have hS := hM.sub (.cons_cons _ (.cons_cons _ (.cons _ (.cons _ (.cons_cons _ .slnil)))))
          refine tD 7 [.val 0 (some 37) (pt B 0), .val 1 (some 38) (pt B 0), .val 2 (some 39) (pt B 0), .val 3 (some 40) (pt B 3), .load 6 (some 43) 26 (pt N2 0) (akv a), .val 7 (some 44) (.int .i64 0), .val 8 (some 45) (ltv (Lt.mk a 0))] ⟨fun W h => load_part (h.at 1 rfl) 0 (akc a) rfl _ _ Try.underlying26 rfl (by kernel_rfl), trivial⟩ hS ?_
          refine oT 4 9 6 ?_ ?_
          · refine lD (some 41) 74 (pt B 3) (.slice pa R.ls.length ca) (ld_any _ _ Try.underlying74 rfl (hM.at 2 rfl) 3 rfl) (hS) ?_
            refine oT 5 9 5 ?_ ?_
            · refine cD (some 42) 33 #[.slice pa R.ls.length ca] ((clipLt_any _ ((hM.oka 3 rfl).rsl ltc_len)).mono ?_)
              rintro e Y50 ⟨rfl, rfl⟩
              refine And.intro (hS) ?_
              refine oD 9 4 (rD (some 46) (.slice (some ⟨Y50.heap.size, 0, none⟩) 1 1) (Y50.alloc (.cells (ltc (Lt.mk a 0)).toArray 87)) (hS.other _) ?_)
              replace hS := hS.other (.cells (ltc (Lt.mk a 0)).toArray 87)
              replace hM := hM.alloc 87 (ltc (Lt.mk a 0))
              generalize World.alloc _ _ = Y51 at *
              generalize hNe : Y50.heap.size = N51 at *
              clear hNe
              obtain ⟨v52, Y52, hrun, ht⟩ := own_clip1 infoLt rfl (by decide) Try.underlying74 ltc_len ltc_one (hM.oka 4 rfl) (Lt.mk a 0) (hM.at 0 rfl) (by decide) (by have h := of_decide_eq_false Hhb3.out; omega) 74
              obtain ⟨pv52, cv52, rfl⟩ := ht.ok.slice ltc_len
              have hM1 := hM.turn 4 rfl ht rfl
              clear ht
              refine oD 10 3 (stepH_append (d := some 47) (t := 74) (t' := 74) (ty := 74) (v := .slice pa R.ls.length R.ls.length) (x := .slice (some ⟨N51, 0, none⟩) 1 1) (by kernel_rfl) hrun (hM1.sub (.cons _ (.cons_cons _ (.cons_cons _ (.cons _ (.cons _ (.cons_cons _ .slnil))))))) ?_)
              replace hS := hM1.sub (.cons _ (.cons_cons _ (.cons_cons _ (.cons _ (.cons _ (.cons_cons _ .slnil))))))
              replace hM := hM1
              clear hM1 hrun
              refine tD 1 [.val 11 (some 48) (pt B 0), .val 12 (some 49) (pt B 3)] trivial hS ?_
              have hst := (sto_part (rmc true R.r0 R.r1 (.slice pv52 (R.ls ++ [Lt.mk a 0]).length cv52) (.slice pb R.bs.length cb)) (hM.at 3 rfl) 3 74 (.slice pv52 (R.ls ++ [Lt.mk a 0]).length cv52) ([.slice pv52 (R.ls ++ [Lt.mk a 0]).length cv52]) rfl (by kernel_rfl) (Nat.le_of_ble_eq_true rfl) rfl rfl)
              have hM1 := hM.set 3 (cs' := rmc true R.r0 R.r1 (.slice pv52 (R.ls ++ [Lt.mk a 0]).length cv52) (.slice pb R.bs.length cb)) rfl rfl
              refine oD 13 0 (sD 74 (pt B 3) (.slice pv52 (R.ls ++ [Lt.mk a 0]).length cv52) (hst) (hM1.sub (.cons _ (.cons_cons _ (.cons_cons _ (.cons _ (.cons _ (.cons_cons _ .slnil))))))) ?_)
              clear hst
              replace hS := hM1.sub (.cons _ (.cons_cons _ (.cons_cons _ (.cons _ (.cons _ (.cons_cons _ .slnil))))))
              replace hM := hM1
              clear hM1
              generalize World.setRow _ _ _ = Y53 at *
              refine dD ?_
              try simp only [puts, Tk.put, Act.put, List.setIfInBounds_toArray, List.set_cons_zero, List.set_cons_succ]
              clear hS
              go_upto_region 14 with fail
              refine wp_region_fromM (fun W => Sep w (Res.join (RMR B R (.slice pa R.ls.length ca) (.slice pb R.bs.length cb))).foot [.blk N51 87 (ltc (Lt.mk a 0)), .blk N10 87 (ltc ((openL R.ls a).getD noL)), .blk N2 26 (akc a), .blk B 77 (rmc true R.r0 R.r1 (.slice pv52 (R.ls ++ [Lt.mk a 0]).length cv52) (.slice pb R.bs.length cb)), .own ltc 87 10 (.slice pv52 (R.ls ++ [Lt.mk a 0]).length cv52) (R.ls ++ [Lt.mk a 0]), .own bdc 33 16 (.slice pb R.bs.length cb) (R.bs)] W) hM ?_
              clear hM
              rintro Y54 hM
              refine tF 1 [.val 0 (some 6) (.int .i64 0)] trivial ?_
              refine dF ?_
              try simp only [puts, Tk.put, Act.put, List.setIfInBounds_toArray, List.set_cons_zero, List.set_cons_succ]
              go_wp2_with fail
              go_ret
              rw [open_yes Hhb1.out Hhb2.out Hhb3.out (since_neg Hhb4.out)]
              exact ⟨rfl, _, _, Sep.fin (hM.pick [3, 4, 5] (by decide) rfl) (List.Sublist.refl _)⟩
            · refine rD (some 46) (.slice (some ⟨Y49.heap.size, 0, none⟩) 1 1) (Y49.alloc (.cells (ltc (Lt.mk a 0)).toArray 87)) (hS.other _) ?_
              replace hS := hS.other (.cells (ltc (Lt.mk a 0)).toArray 87)
              replace hM := hM.alloc 87 (ltc (Lt.mk a 0))
              generalize World.alloc _ _ = Y55 at *
              generalize hNe : Y49.heap.size = N55 at *
              clear hNe
              refine oD 5 4 (cD (some 42) 33 #[.slice pa R.ls.length ca] ((clipLt_any _ ((hM.oka 4 rfl).rsl ltc_len)).mono ?_))
              rintro e Y56 ⟨rfl, rfl⟩
              refine And.intro (hS) ?_
              obtain ⟨v57, Y57, hrun, ht⟩ := own_clip1 infoLt rfl (by decide) Try.underlying74 ltc_len ltc_one (hM.oka 4 rfl) (Lt.mk a 0) (hM.at 0 rfl) (by decide) (by have h := of_decide_eq_false Hhb3.out; omega) 74
              obtain ⟨pv57, cv57, rfl⟩ := ht.ok.slice ltc_len
              have hM1 := hM.turn 4 rfl ht rfl
              clear ht
              refine oD 10 3 (stepH_append (d := some 47) (t := 74) (t' := 74) (ty := 74) (v := .slice pa R.ls.length R.ls.length) (x := .slice (some ⟨N55, 0, none⟩) 1 1) (by kernel_rfl) hrun (hM1.sub (.cons _ (.cons_cons _ (.cons_cons _ (.cons _ (.cons _ (.cons_cons _ .slnil))))))) ?_)
              replace hS := hM1.sub (.cons _ (.cons_cons _ (.cons_cons _ (.cons _ (.cons _ (.cons_cons _ .slnil))))))
              replace hM := hM1
              clear hM1 hrun
              refine tD 1 [.val 11 (some 48) (pt B 0), .val 12 (some 49) (pt B 3)] trivial hS ?_
              have hst := (sto_part (rmc true R.r0 R.r1 (.slice pv57 (R.ls ++ [Lt.mk a 0]).length cv57) (.slice pb R.bs.length cb)) (hM.at 3 rfl) 3 74 (.slice pv57 (R.ls ++ [Lt.mk a 0]).length cv57) ([.slice pv57 (R.ls ++ [Lt.mk a 0]).length cv57]) rfl (by kernel_rfl) (Nat.le_of_ble_eq_true rfl) rfl rfl)
              have hM1 := hM.set 3 (cs' := rmc true R.r0 R.r1 (.slice pv57 (R.ls ++ [Lt.mk a 0]).length cv57) (.slice pb R.bs.length cb)) rfl rfl
              refine oD 13 0 (sD 74 (pt B 3) (.slice pv57 (R.ls ++ [Lt.mk a 0]).length cv57) (hst) (hM1.sub (.cons _ (.cons_cons _ (.cons_cons _ (.cons _ (.cons _ (.cons_cons _ .slnil))))))) ?_)
              clear hst
              replace hS := hM1.sub (.cons _ (.cons_cons _ (.cons_cons _ (.cons _ (.cons _ (.cons_cons _ .slnil))))))
              replace hM := hM1
              clear hM1
              generalize World.setRow _ _ _ = Y58 at *
              refine dD ?_
              try simp only [puts, Tk.put, Act.put, List.setIfInBounds_toArray, List.set_cons_zero, List.set_cons_succ]
              clear hS
              go_upto_region 14 with fail
              refine wp_region_fromM (fun W => Sep w (Res.join (RMR B R (.slice pa R.ls.length ca) (.slice pb R.bs.length cb))).foot [.blk N55 87 (ltc (Lt.mk a 0)), .blk N10 87 (ltc ((openL R.ls a).getD noL)), .blk N2 26 (akc a), .blk B 77 (rmc true R.r0 R.r1 (.slice pv57 (R.ls ++ [Lt.mk a 0]).length cv57) (.slice pb R.bs.length cb)), .own ltc 87 10 (.slice pv57 (R.ls ++ [Lt.mk a 0]).length cv57) (R.ls ++ [Lt.mk a 0]), .own bdc 33 16 (.slice pb R.bs.length cb) (R.bs)] W) hM ?_
              clear hM
              rintro Y59 hM
              refine tF 1 [.val 0 (some 6) (.int .i64 0)] trivial ?_
              refine dF ?_
              try simp only [puts, Tk.put, Act.put, List.setIfInBounds_toArray, List.set_cons_zero, List.set_cons_succ]
              go_wp2_with fail
              go_ret
              rw [open_yes Hhb1.out Hhb2.out Hhb3.out (since_neg Hhb4.out)]
              exact ⟨rfl, _, _, Sep.fin (hM.pick [3, 4, 5] (by decide) rfl) (List.Sublist.refl _)⟩
          · refine rD (some 46) (.slice (some ⟨Y49.heap.size, 0, none⟩) 1 1) (Y49.alloc (.cells (ltc (Lt.mk a 0)).toArray 87)) (hS.other _) ?_
            replace hS := hS.other (.cells (ltc (Lt.mk a 0)).toArray 87)
            replace hM := hM.alloc 87 (ltc (Lt.mk a 0))
            generalize World.alloc _ _ = Y60 at *
            generalize hNe : Y49.heap.size = N60 at *
            clear hNe
            refine oD 4 5 (lD (some 41) 74 (pt B 3) (.slice pa R.ls.length ca) (ld_any _ _ Try.underlying74 rfl (hM.at 3 rfl) 3 rfl) (hS) ?_)
            refine oD 5 4 (cD (some 42) 33 #[.slice pa R.ls.length ca] ((clipLt_any _ ((hM.oka 4 rfl).rsl ltc_len)).mono ?_))
            rintro e Y61 ⟨rfl, rfl⟩
            refine And.intro (hS) ?_
            obtain ⟨v62, Y62, hrun, ht⟩ := own_clip1 infoLt rfl (by decide) Try.underlying74 ltc_len ltc_one (hM.oka 4 rfl) (Lt.mk a 0) (hM.at 0 rfl) (by decide) (by have h := of_decide_eq_false Hhb3.out; omega) 74
            obtain ⟨pv62, cv62, rfl⟩ := ht.ok.slice ltc_len
            have hM1 := hM.turn 4 rfl ht rfl
            clear ht
            refine oD 10 3 (stepH_append (d := some 47) (t := 74) (t' := 74) (ty := 74) (v := .slice pa R.ls.length R.ls.length) (x := .slice (some ⟨N60, 0, none⟩) 1 1) (by kernel_rfl) hrun (hM1.sub (.cons _ (.cons_cons _ (.cons_cons _ (.cons _ (.cons _ (.cons_cons _ .slnil))))))) ?_)
            replace hS := hM1.sub (.cons _ (.cons_cons _ (.cons_cons _ (.cons _ (.cons _ (.cons_cons _ .slnil))))))
            replace hM := hM1
            clear hM1 hrun
            refine tD 1 [.val 11 (some 48) (pt B 0), .val 12 (some 49) (pt B 3)] trivial hS ?_
            have hst := (sto_part (rmc true R.r0 R.r1 (.slice pv62 (R.ls ++ [Lt.mk a 0]).length cv62) (.slice pb R.bs.length cb)) (hM.at 3 rfl) 3 74 (.slice pv62 (R.ls ++ [Lt.mk a 0]).length cv62) ([.slice pv62 (R.ls ++ [Lt.mk a 0]).length cv62]) rfl (by kernel_rfl) (Nat.le_of_ble_eq_true rfl) rfl rfl)
            have hM1 := hM.set 3 (cs' := rmc true R.r0 R.r1 (.slice pv62 (R.ls ++ [Lt.mk a 0]).length cv62) (.slice pb R.bs.length cb)) rfl rfl
            refine oD 13 0 (sD 74 (pt B 3) (.slice pv62 (R.ls ++ [Lt.mk a 0]).length cv62) (hst) (hM1.sub (.cons _ (.cons_cons _ (.cons_cons _ (.cons _ (.cons _ (.cons_cons _ .slnil))))))) ?_)
            clear hst
            replace hS := hM1.sub (.cons _ (.cons_cons _ (.cons_cons _ (.cons _ (.cons _ (.cons_cons _ .slnil))))))
            replace hM := hM1
            clear hM1
            generalize World.setRow _ _ _ = Y63 at *
            refine dD ?_
            try simp only [puts, Tk.put, Act.put, List.setIfInBounds_toArray, List.set_cons_zero, List.set_cons_succ]
            clear hS
            go_upto_region 14 with fail
            refine wp_region_fromM (fun W => Sep w (Res.join (RMR B R (.slice pa R.ls.length ca) (.slice pb R.bs.length cb))).foot [.blk N60 87 (ltc (Lt.mk a 0)), .blk N10 87 (ltc ((openL R.ls a).getD noL)), .blk N2 26 (akc a), .blk B 77 (rmc true R.r0 R.r1 (.slice pv62 (R.ls ++ [Lt.mk a 0]).length cv62) (.slice pb R.bs.length cb)), .own ltc 87 10 (.slice pv62 (R.ls ++ [Lt.mk a 0]).length cv62) (R.ls ++ [Lt.mk a 0]), .own bdc 33 16 (.slice pb R.bs.length cb) (R.bs)] W) hM ?_
            clear hM
            rintro Y64 hM
            refine tF 1 [.val 0 (some 6) (.int .i64 0)] trivial ?_
            refine dF ?_
            try simp only [puts, Tk.put, Act.put, List.setIfInBounds_toArray, List.set_cons_zero, List.set_cons_succ]
            go_wp2_with fail
            go_ret
            rw [open_yes Hhb1.out Hhb2.out Hhb3.out (since_neg Hhb4.out)]
            exact ⟨rfl, _, _, Sep.fin (hM.pick [3, 4, 5] (by decide) rfl) (List.Sublist.refl _)⟩
      | true =>
        have Hhb3 := Lib.hid hb3
        clear hb3
        go_upto_region 10 with fail
        refine wp_region_fromM (fun W => Sep w (Res.join (RMR B R (.slice pa R.ls.length ca) (.slice pb R.bs.length cb))).foot [.blk N10 87 (ltc ((openL R.ls a).getD noL)), .blk N2 26 (akc a), .blk B 77 (rmc true R.r0 R.r1 (.slice pa R.ls.length ca) (.slice pb R.bs.length cb)), .own ltc 87 10 (.slice pa R.ls.length ca) (R.ls), .own bdc 33 16 (.slice pb R.bs.length cb) (R.bs)] W) hM ?_
        clear hM
        rintro Y65 hM
        refine tF 1 [.val 0 (some 6) (.int .i64 10)] trivial ?_
        refine dF ?_
        try simp only [puts, Tk.put, Act.put, List.setIfInBounds_toArray, List.set_cons_zero, List.set_cons_succ]
        go_wp2_with fail
        go_ret
        rw [open_full Hhb1.out Hhb2.out Hhb3.out]
        exact ⟨rfl, _, _, Sep.fin (hM.pick [2, 3, 4] (by decide) rfl) (List.Sublist.refl _)⟩
    | true =>
      have Hhb2 := Lib.hid hb2
      clear hb2
      go_upto_region 8 with fail
      refine wp_region_fromM (fun W => Sep w (Res.join (RMR B R (.slice pa R.ls.length ca) (.slice pb R.bs.length cb))).foot [.blk N10 87 (ltc ((openL R.ls a).getD noL)), .blk N2 26 (akc a), .blk B 77 (rmc true R.r0 R.r1 (.slice pa R.ls.length ca) (.slice pb R.bs.length cb)), .own ltc 87 10 (.slice pa R.ls.length ca) (R.ls), .own bdc 33 16 (.slice pb R.bs.length cb) (R.bs)] W) hM ?_
      clear hM
      rintro Y66 hM
      refine tF 1 [.val 0 (some 6) (.int .i64 32)] trivial ?_
      refine dF ?_
      try simp only [puts, Tk.put, Act.put, List.setIfInBounds_toArray, List.set_cons_zero, List.set_cons_succ]
      go_wp2_with fail
      go_ret
      rw [open_is Hhb1.out Hhb2.out]
      exact ⟨rfl, _, _, Sep.fin (hM.pick [2, 3, 4] (by decide) rfl) (List.Sublist.refl _)⟩
  | true =>
    have Hhb1 := Lib.hid hb1
    clear hb1
    go_upto_region 5 with fail
    refine wp_region_fromM (fun W => Sep w (Res.join (RMR B R (.slice pa R.ls.length ca) (.slice pb R.bs.length cb))).foot [.blk N2 26 (akc a), .blk B 77 (rmc true R.r0 R.r1 (.slice pa R.ls.length ca) (.slice pb R.bs.length cb)), .own ltc 87 10 (.slice pa R.ls.length ca) (R.ls), .own bdc 33 16 (.slice pb R.bs.length cb) (R.bs)] W) hM ?_
    clear hM
    rintro Y67 hM
    refine tF 2 [.val 0 (some 17) (.int .i64 (errA a)), .val 1 (some 6) (.int .i64 (errA a))] trivial ?_
    refine dF ?_
    try simp only [puts, Tk.put, Act.put, List.setIfInBounds_toArray, List.set_cons_zero, List.set_cons_succ]
    go_wp2_with fail
    go_ret
    rw [open_err Hhb1.out]
    exact ⟨rfl, _, _, Sep.fin (hM.pick [1, 2, 3] (by decide) rfl) (List.Sublist.refl _)⟩
end Go.Proofs.Ytbjpifcgnombaaa
