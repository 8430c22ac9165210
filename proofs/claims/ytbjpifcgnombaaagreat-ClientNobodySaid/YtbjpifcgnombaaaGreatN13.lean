/-
  The reference's Public, Parts, Open; The reference's rows, root, path; A room: the best bid; a room is made, an ask is opened, a bid is kept; A disk: the program's functions; A user: its fee, its seed, whether it is up; a user is made
-/
import Derived.OneCell
import Derived.Outline
import Derived.Lib.AppendZeros
import Derived.Test.YtbjpifcgnombaaaGreatN12
namespace Go.Proofs.YtbjpifcgnombaaaGreat
open Go.RowKit Go.Shelf
def catL (zs : List ByteArray) : ByteArray := zs.foldl (· ++ ·) ⟨#[]⟩
theorem catL_snoc (zs : List ByteArray) (x : ByteArray) : catL (zs ++ [x]) = catL zs ++ x := by unfold catL; rw [List.foldl_append]; rfl
theorem catL_list (zs : List ByteArray) : (catL zs).data.toList = (zs.map fun s => s.data.toList).flatten := by
  rw [← List.reverse_reverse zs]
  generalize zs.reverse = r
  induction r with
  | nil => rfl
  | cons x r ih =>
    rw [List.reverse_cons, catL_snoc, List.map_append, List.flatten_append, ← ih]
    simp
theorem catL_le (zs : List ByteArray) (m : Nat) (h : ∀ x ∈ zs, x.size ≤ m) : (catL zs).size ≤ zs.length * m := by
  have e : (catL zs).size = (catL zs).data.toList.length := rfl
  rw [e, catL_list]
  exact flatten_le _ m zs h
theorem joinB_of (zs : List ByteArray) : joinB zs = shortB (catL zs).data.toList := by rw [catL_list]; rfl
theorem catL_take {zs : List ByteArray} {k : Nat} {x : ByteArray} (h : zs[k]? = some x) : catL (zs.take (k + 1)) = catL (zs.take k) ++ x := by
  rw [List.take_add_one, h]; exact catL_snoc _ _
theorem textRow {lo n : Nat} {W : World} {v : Value} {zs : List ByteArray} (hn : zs.length = n + 1) (h : W.ownsRow lo 9 1 v (n + 1) (zs.map tv)) :
    ∃ g c, v = .slice (some ⟨g, 0, none⟩) (n + 1) c ∧ g < W.heap.size ∧ ∀ k x, zs[k]? = some x → W.cell? ⟨g, k, none⟩ = some (.string x) := by
  have hq := VSl.of_own (vs := zs.map tv) (by rw [List.length_map, hn]; exact h)
  obtain ⟨g, c, rfl⟩ := ownsRow_succ h
  obtain ⟨a', c', e, hc, h0 | ⟨b, off, ha, _, hb, hr⟩⟩ := hq
  · have := congrArg List.length h0
    rw [List.length_map, hn] at this
    simp at this
  · rw [List.length_map, hn] at e
    cases e
    cases ha
    exact ⟨g, c, rfl, hb, fun k x hk => by
      have := hr k (.string x) (by rw [List.getElem?_map, hk]; rfl)
      rwa [Nat.zero_add] at this⟩
set_option maxRecDepth 100000 in
set_option maxHeartbeats 4000000 in
theorem refPublic_any (s : ByteArray) (hs : s.size ≤ 140737488352000) (z : Int) (w : World) :
    Calls Tryz.prog 142 #[.string s, .int .i64 z] w fun e W' => e = .returned (.string (publicB s (lfN z))) ∧ Below w.heap.size w W' := by
  have hp : Hid (publicB s (lfN z) = shortB (catL (walked (begs s (lfN z)) fun _ => 3)).data.toList) := Lib.hid (joinB_of _)
  go_enter Tryz.func142, Tryz.ntmps142
  go_wp2_with fail
  refine (refBegin_any s hs z _).mono ?_
  rintro e w1 ⟨v1, rfl, hown1, hb1⟩
  have hbl := begs_length s (lfN z)
  have hm : ∀ x ∈ begs s (lfN z), x.size ≤ 8 := fun x hx => by rw [begs_mem hx]; omega
  generalize begs s (lfN z) = bs at *
  obtain ⟨g, c, rfl, hgw, hcell⟩ := textRow (n := 14) hbl hown1
  have HC := Lib.hid hcell
  have HM := Lib.hid hm
  have HBL := Lib.hid hbl
  clear hcell hm hbl hown1
  go_wp2
  go_loopw [6, 7] (fun v i wr => ∃ k : Nat, k ≤ 15 ∧ i = .int .i64 (k : Nat) ∧ v = .string (catL ((walked bs fun _ => 3).take k)) ∧ Below w1.heap.size w1 wr) (fun _ i _ => 15 - (intOf i).toNat)
  case atStart => exact ⟨0, by omega, rfl, rfl, Below.refl _ _⟩
  case round =>
    obtain ⟨k, hk, rfl, rfl, hB⟩ := hrel
    by_cases hlt : k < 15
    · obtain ⟨x, hx⟩ : ∃ x, bs[k]? = some x := ⟨_, List.getElem?_eq_getElem (by rw [HBL.out]; exact hlt)⟩
      have c0 := (hB.cell (p := ⟨g, k, none⟩) hgw).trans (HC.out k x hx)
      have hxs := HM.out x (List.mem_of_getElem? hx)
      have hlk := linkB_size x 3
      have hwk : (walked bs fun _ => 3)[k]? = some (linkB x 3) := by rw [walked_at (fun _ => 3) hx]; rfl
      have HK := Lib.hid (catL_take hwk)
      have hcs := catL_le ((walked bs fun _ => 3).take k) 8 (fun y hy => by have := walked_mem HM.out (List.mem_of_mem_take hy); omega)
      rw [List.length_take, walked_length, HBL.out] at hcs
      have hadd : ¬ 9223372036854775807 < (catL ((walked bs fun _ => 3).take k)).size + (linkB x 3).size := by omega
      have hlt' : (k : Int) < 15 := by omega
      have HLT := Lib.hid hlt
      clear hx hwk hcs hlt hk
      generalize catL ((walked bs fun _ => 3).take k) = cs at *
      go_wp2_with fail
      refine (refWalk_any x (by omega) 3 _).mono ?_
      rw [show stp 3 = 3 from rfl]
      rintro e w2 ⟨rfl, hb2⟩
      go_wp2_with fail
      go_roundw
      case rel => exact ⟨k + 1, HLT.out, by simp, by rw [HK.out], hB.trans (hb2.mono hB.size)⟩
      case measure => have := HLT.out; simp [intOf]; omega
    · obtain rfl : k = 15 := by omega
      have hcs := catL_le (walked bs fun _ => 3) 8 (fun y hy => by have := walked_mem HM.out hy; omega)
      rw [walked_length, HBL.out] at hcs
      rw [List.take_of_length_le (by rw [walked_length, HBL.out]; omega)]
      generalize catL (walked bs fun _ => 3) = cs at *
      go_wp2_with fail
      refine (refShort_any cs (by omega) _).mono ?_
      rintro e w2 ⟨rfl, hb2⟩
      go_wp2_with fail
      go_ret
      exact ⟨by rw [hp.out]; rfl, hb1.trans ((hB.trans (hb2.mono hB.size)).mono hb1.size)⟩
end Go.Proofs.YtbjpifcgnombaaaGreat
namespace Go.Proofs.YtbjpifcgnombaaaGreat
open Go.RowKit Go.Shelf
theorem joinM_of (a b : ByteArray) : joinM a b = shortB (a ++ b).data.toList := by
  unfold joinM
  congr 1
theorem row_le {i h : Nat} (hi : (i + 1) * 2 ^ (h + 1) ≤ 8) : (2 * i + 1) * 2 ^ h ≤ 8 ∧ (2 * i + 1 + 1) * 2 ^ h ≤ 8 := by
  have e1 : (i + 1) * 2 ^ (h + 1) = (2 * i + 1 + 1) * 2 ^ h := by
    rw [Nat.pow_succ, Nat.mul_comm (2 ^ h) 2, ← Nat.mul_assoc]
    congr 1
    omega
  have e2 : (2 * i + 1) * 2 ^ h ≤ (2 * i + 1 + 1) * 2 ^ h := Nat.mul_le_mul_right _ (by omega)
  omega
set_option maxRecDepth 100000 in
set_option maxHeartbeats 2000000 in
theorem refRow_any (s : ByteArray) (hs : s.size ≤ 140737488352000) : ∀ (h i : Nat) (_ : h ≤ 3) (_ : (i + 1) * 2 ^ h ≤ 8) (w : World),
    Calls Tryz.prog 71 #[.string s, .int .i64 ((i * 2 ^ h : Nat) : Int), .int .i64 ((2 ^ h : Nat) : Int)] w fun e W' => e = .returned (.string (nodeB s h i)) ∧ Below w.heap.size w W'
  | 0, i, _, hi, w => by
    have hf : lfN ((i * 2 ^ 0 : Nat) : Int) = i := by have := lfN_cases ((i * 2 ^ 0 : Nat) : Int); simp at this hi ⊢; omega
    have HF : Hid (nodeB s 0 i = publicB s (lfN ((i * 2 ^ 0 : Nat) : Int))) := Lib.hid (by rw [hf]; rfl)
    clear hf
    rw [show ((2 ^ 0 : Nat) : Int) = 1 from rfl]
    generalize ((i * 2 ^ 0 : Nat) : Int) = z at *
    clear hi
    go_enter Tryz.func71, Tryz.ntmps71
    go_wp2_with fail
    refine (refPublic_any s hs z _).mono ?_
    rintro e w1 ⟨rfl, hb1⟩
    go_wp2_with fail
    go_ret
    exact ⟨by rw [HF.out]; rfl, hb1⟩
  | h + 1, i, hh, hi, w => by
    have ih1 := refRow_any s hs h (2 * i) (by omega) (row_le hi).1
    have ih2 := refRow_any s hs h (2 * i + 1) (by omega) (row_le hi).2
    have HJ : Hid (nodeB s (h + 1) i = joinM (nodeB s h (2 * i)) (nodeB s h (2 * i + 1))) := Lib.hid rfl
    have hz1 := nodeB_size s h (2 * i)
    have hz2 := nodeB_size s h (2 * i + 1)
    have hp1 : 1 ≤ 2 ^ h := Nat.one_le_two_pow
    have e1 : 2 * i * 2 ^ h = i * 2 ^ (h + 1) := by rw [Nat.pow_succ]; generalize 2 ^ h = p; rw [Nat.mul_comm 2 i, Nat.mul_assoc, Nat.mul_comm 2 p]
    have e2 : (2 * i + 1) * 2 ^ h = i * 2 ^ (h + 1) + 2 ^ h := by rw [Nat.add_mul, e1, Nat.one_mul]
    have e3 : 2 ^ (h + 1) = 2 * 2 ^ h := by rw [Nat.pow_succ, Nat.mul_comm]
    have e4 : (i + 1) * 2 ^ (h + 1) = i * 2 ^ (h + 1) + 2 ^ (h + 1) := by rw [Nat.add_mul, Nat.one_mul]
    rw [e1] at ih1
    rw [e2] at ih2
    rw [e4] at hi
    clear e1 e2 e4
    generalize i * 2 ^ (h + 1) = q at *
    rw [e3] at hi ⊢
    clear e3
    generalize 2 ^ h = p at *
    generalize nodeB s h (2 * i) = x at *
    generalize nodeB s h (2 * i + 1) = y at *
    have hd : ((2 * p : Nat) : Int) / 2 = (p : Int) := by omega
    have hne : (((2 * p : Nat) : Int) == 1) = false := by simp; omega
    have hc : ((q + p : Nat) : Int) = (q : Int) + (p : Int) := by simp
    rw [hc] at ih2
    clear hc
    have hq : (q : Int) ≤ 8 := by omega
    have hp8 : (p : Int) ≤ 8 := by omega
    generalize hP : 2 * p = P at *
    have hP8 : (P : Int) ≤ 8 := by omega
    have IH1 := Lib.hid ih1
    have IH2 := Lib.hid ih2
    have HX := Lib.hid hz1
    have HY := Lib.hid hz2
    clear ih1 ih2 hP hz1 hz2 hi
    go_enter Tryz.func71, Tryz.ntmps71
    go_wp2_with fail
    refine (IH1.out _).mono ?_
    rintro e w1 ⟨rfl, hb1⟩
    go_wp2_with fail
    refine (IH2.out _).mono ?_
    rintro e w2 ⟨rfl, hb2⟩
    have hadd : ¬ 9223372036854775807 < x.size + y.size := by have := HX.out; have := HY.out; omega
    go_wp2_with fail
    refine (refShort_any (x ++ y) (by rw [ByteArray.size_append]; have := HX.out; have := HY.out; omega) _).mono ?_
    rw [← joinM_of]
    rintro e w3 ⟨rfl, hb3⟩
    go_wp2_with fail
    go_ret
    exact ⟨by rw [HJ.out]; rfl, chain (chain hb1 hb2) hb3⟩
end Go.Proofs.YtbjpifcgnombaaaGreat
namespace Go.Proofs.YtbjpifcgnombaaaGreat
open Go.RowKit Go.Shelf
attribute [local irreducible] wpFrom wpAnyH StepH
def NewRm (R : Rm) (w : World) (e : Ending) (W' : World) : Prop := ∃ B va vb, e = .returned (.pointer (some ⟨B, 0, none⟩)) ∧ Sep w [] (RMR B R va vb) W'
end Go.Proofs.YtbjpifcgnombaaaGreat
namespace Go.Proofs.YtbjpifcgnombaaaGreat
open Go.RowKit Go.Shelf
attribute [local irreducible] wpFrom wpAnyH StepH
theorem room_eq (n : Int) : max2I 0 (min2I n 65536) = ((newD n).rm : Int) := by
  rw [max2I_eq, min2I_eq]
  show _ = ((roomN n : Nat) : Int)
  unfold roomN
  omega
def DkN (D : Dk) (w : World) (e : Ending) (W' : World) : Prop := ∃ B v, e = .returned (.pointer (some ⟨B, 0, none⟩)) ∧ Sep w [] (DKR B D v) W'
set_option maxRecDepth 100000 in
set_option maxHeartbeats 4000000 in
theorem dkNew_any (n : Int) (w : World) : Calls Tryz.prog 69 #[.int .i64 n] w (DkN (newD n) w) := by
  have hmx : Tryz.prog.follows .mixedOrders = true := by kernel_rfl
  have hM := Sep.start w
  go_enter Tryz.func69, Tryz.ntmps69
  go_upto_region 0 with fail
  refine wp_region_fromM (fun W => Sep w [] [] W) hM ?_
  clear hM
  rintro Y1 hM
  refine tF 1 [.val 0 (some 2) (.pointer none)] trivial ?_
  refine dF ?_
  try simp only [puts, Tk.put, Act.put, List.setIfInBounds_toArray, List.set_cons_zero, List.set_cons_succ]
  go_upto_region 1 with fail
  refine wp_region_fromM (fun W => Sep w [] [] W) hM ?_
  clear hM
  rintro Y2 hM
  refine tF 4 [.val 0 (some 3) (.int .i64 n), .val 1 (some 4) (.int .i64 (min2I n 65536)), .val 2 (some 5) (.int .i64 (max2I 0 (min2I n 65536))), .val 3 (some 6) (.agg (dkc true (max2I 0 (min2I n 65536)) (.slice none 0 0) 0).toArray)] trivial ?_
  refine rF (some 7) (pt Y2.heap.size 0) (Y2.alloc (.cells (dkc true (max2I 0 (min2I n 65536)) (.slice none 0 0) 0).toArray 205)) ?_
  replace hM := hM.alloc 205 (dkc true (max2I 0 (min2I n 65536)) (.slice none 0 0) 0)
  generalize World.alloc _ _ = Y3 at *
  generalize hNe : Y2.heap.size = B at *
  clear hNe
  refine tF 6 [.val 5 (some 2) (pt B 0)] trivial ?_
  refine dF ?_
  try simp only [puts, Tk.put, Act.put, List.setIfInBounds_toArray, List.set_cons_zero, List.set_cons_succ]
  rw [room_eq] at hM
  have hM2 : Sep w [] (DKR B (newD n) (.slice none 0 0)) _ := (hM.octN (BSl.nil _ _ _) (Below.refl _ _)).pick [1, 0] (by decide) rfl
  go_wp2_with fail
  go_ret
  exact ⟨B, _, rfl, hM2⟩
end Go.Proofs.YtbjpifcgnombaaaGreat
namespace Go.Proofs.YtbjpifcgnombaaaGreat
open Go.RowKit Go.Shelf
attribute [local irreducible] wpFrom wpAnyH StepH
def fauI (dn : Bool) : Int := if dn = true then 17 else 0
set_option maxRecDepth 100000 in
set_option maxHeartbeats 4000000 in
theorem seed_any (u : Int) (w : World) : Calls Tryz.prog 29 #[.int .i64 u] w fun e W' => e = .returned (.string (seedB u)) ∧ Below w.heap.size w W' := by
  have hmx : Tryz.prog.follows .mixedOrders = true := by kernel_rfl
  have hM := Sep.start w
  go_enter Tryz.func29, Tryz.ntmps29
  go_upto_region 0 with fail
  refine wp_region_fromM (fun W => Sep w [] [] W) hM ?_
  clear hM
  rintro Y1 hM
  refine tF 1 [.val 0 (some 2) (.string ⟨#[]⟩)] trivial ?_
  refine dF ?_
  try simp only [puts, Tk.put, Act.put, List.setIfInBounds_toArray, List.set_cons_zero, List.set_cons_succ]
  go_upto_region 1 with fail
  refine wp_region_fromM (fun W => Sep w [] [] W) hM ?_
  clear hM
  rintro Y2 hM
  refine tF 1 [.val 0 (some 3) (.int .i64 u)] trivial ?_
  refine cF (some 4) 72 #[.int .i64 u, .int .i64 1] ((num_any u 1 (by decide) (by decide) _).mono ?_)
  rintro e Y3 ⟨v3o, rfl, hO, hb⟩
  replace hM := hM.octN hO hb
  clear hO hb
  obtain ⟨a3o, c3o, rfl, _⟩ := (hM.oka 0 rfl).octs.slice
  refine cvF (.tmp 4) (some 5) (.slice a3o (octs (two u) 1).length c3o) (.string (txB (octs (two u) 1))) (cvT (hM.oka 0 rfl).octs) ?_
  refine catF (.const (.string ⟨#[117, 115, 101, 114]⟩)) (.tmp 5) 9 9 (some 6) [117, 115, 101, 114] (octs (two u) 1) (Nat.le_of_ble_eq_true rfl) ?_
  refine tF 5 [.val 4 (some 2) (.string (seedB u))] trivial ?_
  refine dF ?_
  try simp only [puts, Tk.put, Act.put, List.setIfInBounds_toArray, List.set_cons_zero, List.set_cons_succ]
  go_wp2_with fail
  go_ret
  exact ⟨rfl, hM.b⟩
set_option maxRecDepth 100000 in
set_option maxHeartbeats 4000000 in
theorem clThere_any {C D : Nat} {m : Me} {v q : Value} {dn : Bool} (w : World) (hC : Blk w C 90 (clc m (.pointer (some ⟨D, 0, none⟩)) v q dn)) : Calls Tryz.prog 36 #[.pointer (some ⟨C, 0, none⟩)] w fun e W' => e = .returned (.bool true) ∧ Below w.heap.size w W' := by
  have hmx : Tryz.prog.follows .mixedOrders = true := by kernel_rfl
  have HC := Lib.hid hC
  clear hC
  have hM := Sep.start w
  go_enter Tryz.func36, Tryz.ntmps36
  go_upto_region 0 with fail
  refine wp_region_fromM (fun W => Sep w [] [] W) hM ?_
  clear hM
  rintro Y1 hM
  refine tF 1 [.val 0 (some 2) (.bool false)] trivial ?_
  refine dF ?_
  try simp only [puts, Tk.put, Act.put, List.setIfInBounds_toArray, List.set_cons_zero, List.set_cons_succ]
  go_upto_region 1 with fail
  refine wp_region_fromM (fun W => Sep w [] [] W) hM ?_
  clear hM
  rintro Y2 hM
  refine tF 11 [.val 0 (some 3) (pt C 0), .val 1 (some 4) (.bool true), .val 2 (some 5) (.bool true), .val 3 (some 6) (pt C 0), .val 4 (some 7) (pt C 0), .val 5 (some 8) (pt C 0), .val 6 (some 9) (pt C 5), .load 7 (some 10) 84 (pt C 5) (.pointer (some ⟨D, 0, none⟩)), .val 8 (some 11) (.bool true), .val 9 (some 12) (.bool true), .val 10 (some 2) (.bool true)] ⟨ld_any _ _ Tryz.underlying84 rfl (HC.out.below hM.b HC.out.lt) 5 rfl, trivial⟩ ?_
  refine dF ?_
  try simp only [puts, Tk.put, Act.put, List.setIfInBounds_toArray, List.set_cons_zero, List.set_cons_succ]
  go_wp2_with fail
  go_ret
  exact ⟨rfl, hM.b⟩
set_option maxRecDepth 100000 in
set_option maxHeartbeats 4000000 in
theorem clFault_any {C D : Nat} {m : Me} {v q : Value} {dn : Bool} (w : World) (hC : Blk w C 90 (clc m (.pointer (some ⟨D, 0, none⟩)) v q dn)) : Calls Tryz.prog 53 #[.pointer (some ⟨C, 0, none⟩)] w fun e W' => e = .returned (.int .i64 (fauI dn)) ∧ Below w.heap.size w W' := by
  have hmx : Tryz.prog.follows .mixedOrders = true := by kernel_rfl
  have HC := Lib.hid hC
  clear hC
  have hM := Sep.start w
  go_enter Tryz.func53, Tryz.ntmps53
  go_upto_region 0 with fail
  refine wp_region_fromM (fun W => Sep w [] [] W) hM ?_
  clear hM
  rintro Y1 hM
  refine tF 1 [.val 0 (some 2) (.int .i64 0)] trivial ?_
  refine dF ?_
  try simp only [puts, Tk.put, Act.put, List.setIfInBounds_toArray, List.set_cons_zero, List.set_cons_succ]
  go_upto_region 1 with fail
  refine wp_region_fromM (fun W => Sep w [] [] W) hM ?_
  clear hM
  rintro Y2 hM
  refine tF 1 [.val 0 (some 3) (pt C 0)] trivial ?_
  refine cF (some 4) 36 #[pt C 0] ((clThere_any _ (HC.out.below hM.b HC.out.lt)).mono ?_)
  rintro e Y3 ⟨rfl, hb⟩
  replace hM := hM.below hb
  clear hb
  refine tF 3 [.val 2 (some 5) (.bool false)] trivial ?_
  refine dF ?_
  try simp only [puts, Tk.put, Act.put, List.setIfInBounds_toArray, List.set_cons_zero, List.set_cons_succ]
  go_upto_region 3 with fail
  refine wp_region_fromM (fun W => Sep w [] [] W) hM ?_
  clear hM
  rintro Y4 hM
  refine tF 4 [.val 0 (some 6) (pt C 0), .val 1 (some 7) (pt C 0), .val 2 (some 8) (pt C 8), .load 3 (some 9) 4 (pt C 8) (.bool dn)] ⟨ld_any _ _ Tryz.underlying4 rfl (HC.out.below hM.b HC.out.lt) 8 rfl, trivial⟩ ?_
  refine dF ?_
  try simp only [puts, Tk.put, Act.put, List.setIfInBounds_toArray, List.set_cons_zero, List.set_cons_succ]
  cases hb1 : dn with
  | false =>
    have Hhb1 := Lib.hid hb1
    clear hb1
    go_upto_region 5 with fail
    refine wp_region_fromM (fun W => Sep w [] [] W) hM ?_
    clear hM
    rintro Y5 hM
    refine tF 1 [.val 0 (some 2) (.int .i64 0)] trivial ?_
    refine dF ?_
    try simp only [puts, Tk.put, Act.put, List.setIfInBounds_toArray, List.set_cons_zero, List.set_cons_succ]
    go_wp2_with fail
    go_ret
    exact ⟨by rw [Hhb1.out]; rfl, hM.b⟩
  | true =>
    have Hhb1 := Lib.hid hb1
    clear hb1
    go_upto_region 4 with fail
    refine wp_region_fromM (fun W => Sep w [] [] W) hM ?_
    clear hM
    rintro Y6 hM
    refine tF 1 [.val 0 (some 2) (.int .i64 17)] trivial ?_
    refine dF ?_
    try simp only [puts, Tk.put, Act.put, List.setIfInBounds_toArray, List.set_cons_zero, List.set_cons_succ]
    go_wp2_with fail
    go_ret
    exact ⟨by rw [Hhb1.out]; rfl, hM.b⟩
set_option maxRecDepth 100000 in
set_option maxHeartbeats 4000000 in
theorem clDown_any {C D : Nat} {m : Me} {v q : Value} {dn : Bool} (w : World) (hC : Blk w C 90 (clc m (.pointer (some ⟨D, 0, none⟩)) v q dn)) : Calls Tryz.prog 23 #[.pointer (some ⟨C, 0, none⟩)] w fun e W' => e = .returned (.bool dn) ∧ Below w.heap.size w W' := by
  have hmx : Tryz.prog.follows .mixedOrders = true := by kernel_rfl
  have HC := Lib.hid hC
  clear hC
  have hM := Sep.start w
  go_enter Tryz.func23, Tryz.ntmps23
  go_upto_region 0 with fail
  refine wp_region_fromM (fun W => Sep w [] [] W) hM ?_
  clear hM
  rintro Y1 hM
  refine tF 1 [.val 0 (some 2) (.bool false)] trivial ?_
  refine dF ?_
  try simp only [puts, Tk.put, Act.put, List.setIfInBounds_toArray, List.set_cons_zero, List.set_cons_succ]
  go_upto_region 1 with fail
  refine wp_region_fromM (fun W => Sep w [] [] W) hM ?_
  clear hM
  rintro Y2 hM
  refine tF 1 [.val 0 (some 3) (pt C 0)] trivial ?_
  refine cF (some 4) 53 #[pt C 0] ((clFault_any _ (HC.out.below hM.b HC.out.lt)).mono ?_)
  rintro e Y3 ⟨rfl, hb⟩
  replace hM := hM.below hb
  clear hb
  refine tF 4 [.val 2 (some 5) (.bool ((fauI dn) != 0)), .val 3 (some 2) (.bool ((fauI dn) != 0))] trivial ?_
  refine dF ?_
  try simp only [puts, Tk.put, Act.put, List.setIfInBounds_toArray, List.set_cons_zero, List.set_cons_succ]
  go_wp2_with fail
  go_ret
  exact ⟨by cases dn <;> rfl, hM.b⟩
set_option maxRecDepth 100000 in
set_option maxHeartbeats 4000000 in
theorem clRoot_any {C D : Nat} {m : Me} {v q : Value} {dn : Bool} (w : World) (hC : Blk w C 90 (clc m (.pointer (some ⟨D, 0, none⟩)) v q dn)) : Calls Tryz.prog 9 #[.pointer (some ⟨C, 0, none⟩)] w fun e W' => e = .returned (.string m.rt) ∧ Below w.heap.size w W' := by
  have hmx : Tryz.prog.follows .mixedOrders = true := by kernel_rfl
  have HC := Lib.hid hC
  clear hC
  have hM := Sep.start w
  go_enter Tryz.func9, Tryz.ntmps9
  go_upto_region 0 with fail
  refine wp_region_fromM (fun W => Sep w [] [] W) hM ?_
  clear hM
  rintro Y1 hM
  refine tF 1 [.val 0 (some 2) (.string ⟨#[]⟩)] trivial ?_
  refine dF ?_
  try simp only [puts, Tk.put, Act.put, List.setIfInBounds_toArray, List.set_cons_zero, List.set_cons_succ]
  go_upto_region 1 with fail
  refine wp_region_fromM (fun W => Sep w [] [] W) hM ?_
  clear hM
  rintro Y2 hM
  refine tF 1 [.val 0 (some 3) (pt C 0)] trivial ?_
  refine cF (some 4) 36 #[pt C 0] ((clThere_any _ (HC.out.below hM.b HC.out.lt)).mono ?_)
  rintro e Y3 ⟨rfl, hb⟩
  replace hM := hM.below hb
  clear hb
  refine tF 3 [.val 2 (some 5) (.bool false)] trivial ?_
  refine dF ?_
  try simp only [puts, Tk.put, Act.put, List.setIfInBounds_toArray, List.set_cons_zero, List.set_cons_succ]
  go_upto_region 3 with fail
  refine wp_region_fromM (fun W => Sep w [] [] W) hM ?_
  clear hM
  rintro Y4 hM
  refine tF 7 [.val 0 (some 6) (pt C 0), .val 1 (some 7) (pt C 0), .val 2 (some 8) (pt C 0), .val 3 (some 9) (pt C 0), .val 4 (some 10) (pt C 1), .load 5 (some 11) 9 (pt C 1) (.string m.rt), .val 6 (some 2) (.string m.rt)] ⟨ld_any _ _ Tryz.underlying9 rfl (HC.out.below hM.b HC.out.lt) 1 rfl, trivial⟩ ?_
  refine dF ?_
  try simp only [puts, Tk.put, Act.put, List.setIfInBounds_toArray, List.set_cons_zero, List.set_cons_succ]
  go_wp2_with fail
  go_ret
  exact ⟨rfl, hM.b⟩
theorem two_at {W : World} {N o : Nat} {T : TypeId} {cs : List Value} {s0 s1 : ByteArray} (h : Blk W N T cs) (h0 : cs[o]? = some (.string s0)) (h1 : cs[o + 1]? = some (.string s1)) : ∀ q u, [Value.string s0, Value.string s1][q]? = some u → W.cell? ((⟨N, o, none⟩ : Addr).add q) = some u := fun q u hu => by
  rw [addr_add, h.cell]
  match q, hu with
  | 0, hu => exact h0.trans hu
  | 1, hu => exact h1.trans hu
  | q + 2, hu => simp at hu
set_option maxRecDepth 100000 in
set_option maxHeartbeats 4000000 in
theorem rmNew_at {N : Nat} {T : TypeId} {cs : List Value} (o : Nat) (s0 s1 : ByteArray) (w : World) (hn : Blk w N T cs) (h0 : cs[o]? = some (.string s0)) (h1 : cs[o + 1]? = some (.string s1)) : Calls Tryz.prog 70 #[.slice (some ⟨N, o, none⟩) 2 2] w (NewRm ⟨s0, s1, [], []⟩ w) := by
  have hmx : Tryz.prog.follows .mixedOrders = true := by kernel_rfl
  have HN := Lib.hid hn
  clear hn
  have hM := Sep.start w
  go_enter Tryz.func70, Tryz.ntmps70
  go_upto_region 0 with fail
  refine wp_region_fromM (fun W => Sep w [] [] W) hM ?_
  clear hM
  rintro Y1 hM
  refine tF 1 [.val 0 (some 2) (.pointer none)] trivial ?_
  refine dF ?_
  try simp only [puts, Tk.put, Act.put, List.setIfInBounds_toArray, List.set_cons_zero, List.set_cons_succ]
  go_upto_region 1 with fail
  refine wp_region_fromM (fun W => Sep w [] [] W) hM ?_
  clear hM
  rintro Y2 hM
  refine tF 1 [.val 0 (some 4) (.agg (rmc true ⟨#[]⟩ ⟨#[]⟩ (.slice none 0 0) (.slice none 0 0)).toArray)] trivial ?_
  refine rF (some 5) (pt Y2.heap.size 0) (Y2.alloc (.cells (rmc true ⟨#[]⟩ ⟨#[]⟩ (.slice none 0 0) (.slice none 0 0)).toArray 220)) ?_
  replace hM := hM.alloc 220 (rmc true ⟨#[]⟩ ⟨#[]⟩ (.slice none 0 0) (.slice none 0 0))
  generalize World.alloc _ _ = Y3 at *
  generalize hNe : Y2.heap.size = N3 at *
  clear hNe
  refine tF 3 [.val 2 (some 3) (pt N3 0)] trivial ?_
  refine dF ?_
  try simp only [puts, Tk.put, Act.put, List.setIfInBounds_toArray, List.set_cons_zero, List.set_cons_succ]
  go_upto_region 2 with fail
  refine wp_region_fromM (fun W => Sep w [] [.blk N3 220 (rmc true ⟨#[]⟩ ⟨#[]⟩ (.slice none 0 0) (.slice none 0 0))] W) hM ?_
  clear hM
  rintro Y4 hM
  refine tF 5 [.val 0 (some 6) (pt N3 0), .val 1 (some 7) (pt N3 0), .val 2 (some 8) (pt N3 1), .slc 3 (some 9) 81 (pt N3 1) none none none (.slice (some ⟨N3, 1, none⟩) 2 2), .val 4 (some 10) (.slice (some ⟨N, o, none⟩) 2 2)] ⟨slice_arr2 (c := 1) Tryz.underlying81 (fun W => by kernel_rfl) _ _ _, trivial⟩ ?_
  have hrun : (Builtin.copy_ #[61, 61] 3 #[.slice (some ⟨N3, 1, none⟩) 2 2, .slice (some ⟨N, o, none⟩) 2 2]).run Tryz.prog Y4 = .ok (.int .i64 2) (Y4.setRow N3 (rmc true s0 s1 (.slice none 0 0) (.slice none 0 0)).toArray) := run_copy_row (P := Tryz.prog) Y4 61 61 3 9 N3 1 2 2 ⟨N, o, none⟩ 2 2 (rmc true ⟨#[]⟩ ⟨#[]⟩ (.slice none 0 0) (.slice none 0 0)).toArray 220 [.string s0, .string s1] Tryz.underlying61 (by kernel_rfl) (hM.at 0 rfl) rfl (two_at (HN.out.below hM.b HN.out.lt) h0 h1) (Nat.le_of_ble_eq_true rfl) (by simp [Value.oneCell'])
  refine cpF 61 61 3 (some 11) (.slice (some ⟨N3, 1, none⟩) 2 2) (.slice (some ⟨N, o, none⟩) 2 2) (.int .i64 2) hrun ?_
  clear hrun
  replace hM := hM.set 0 (cs' := rmc true s0 s1 (.slice none 0 0) (.slice none 0 0)) rfl rfl
  generalize World.setRow _ _ _ = Y5 at *
  refine dF ?_
  try simp only [puts, Tk.put, Act.put, List.setIfInBounds_toArray, List.set_cons_zero, List.set_cons_succ]
  go_upto_region 3 with fail
  refine wp_region_fromM (fun W => Sep w [] [.blk N3 220 (rmc true s0 s1 (.slice none 0 0) (.slice none 0 0))] W) hM ?_
  clear hM
  rintro Y6 hM
  refine tF 2 [.val 0 (some 12) (pt N3 0), .val 1 (some 2) (pt N3 0)] trivial ?_
  refine dF ?_
  try simp only [puts, Tk.put, Act.put, List.setIfInBounds_toArray, List.set_cons_zero, List.set_cons_succ]
  replace hM := (hM.nil ltc 210 10).nil bdc 64 16
  go_wp2_with fail
  go_ret
  exact ⟨_, _, _, rfl, hM.pick [2, 1, 0] (by decide) rfl⟩
def NewCl (c : Cl) (w : World) (e : Ending) (W' : World) : Prop := ∃ C D R vo vp va vb, e = .returned (.tuple #[.pointer (some ⟨C, 0, none⟩), .int .i64 0]) ∧ Sep w [] (CLR C D R c vo vp va vb) W'
def newU (u : Int) (r0 r1 : ByteArray) (d n : Int) : Cl := ⟨⟨u, rootB (seedB u), r0, r1, d⟩, newD n, [], ⟨r0, r1, [], []⟩, false⟩
set_option maxRecDepth 100000 in
set_option maxHeartbeats 4000000 in
theorem clNew_nil (u d n : Int) (w : World) (hu : 0 ≤ u ∧ u < 2) : Calls Tryz.prog 27 #[.int .i64 u, .slice none 0 0, .int .i64 d, .int .i64 n] w (NewCl (newU u (⟨#[]⟩) (⟨#[]⟩) d n) w) := by
  have hmx : Tryz.prog.follows .mixedOrders = true := by kernel_rfl
  have HU := Lib.hid hu
  clear hu
  have hM := Sep.start w
  go_enter Tryz.func27, Tryz.ntmps27
  go_upto_region 0 with fail
  refine wp_region_fromM (fun W => Sep w [] [] W) hM ?_
  clear hM
  rintro Y1 hM
  refine tF 2 [.val 0 (some 8) (.pointer none), .val 1 (some 9) (.int .i64 0)] trivial ?_
  refine dF ?_
  try simp only [puts, Tk.put, Act.put, List.setIfInBounds_toArray, List.set_cons_zero, List.set_cons_succ]
  go_upto_region 1 with fail
  refine wp_region_fromM (fun W => Sep w [] [] W) hM ?_
  clear hM
  rintro Y2 hM
  refine tF 6 [.val 0 (some 11) (.int .i64 u), .alt 1 (some 12) (.bool (decide (u < 0))) (.bool false), .val 2 (some 13) (.bool false), .val 3 (some 14) (.int .i64 u), .alt 4 (some 15) (.bool (decide (2 ≤ u))) (.bool false), .val 5 (some 16) (.bool false)] ⟨congrArg Value.bool (decide_eq_false (by have := HU.out; omega)), congrArg Value.bool (decide_eq_false (by have := HU.out; omega)), trivial⟩ ?_
  refine dF ?_
  try simp only [puts, Tk.put, Act.put, List.setIfInBounds_toArray, List.set_cons_zero, List.set_cons_succ]
  go_upto_region 3 with fail
  refine wp_region_fromM (fun W => Sep w [] [] W) hM ?_
  clear hM
  rintro Y3 hM
  refine tF 2 [.val 0 (some 17) (.int .i64 u), .val 1 (some 18) (.int .i64 u)] trivial ?_
  refine cF (some 19) 29 #[.int .i64 u] ((seed_any u _).mono ?_)
  rintro e Y4 ⟨rfl, hb⟩
  replace hM := hM.below hb
  clear hb
  refine cF (some 20) 30 #[.string (seedB u)] ((root_any (seedB u) (by rw [seedB_size]; decide) _).mono ?_)
  rintro e Y5 ⟨rfl, hb⟩
  replace hM := hM.below hb
  clear hb
  refine tF 6 [.val 4 (some 21) (.int .i64 d), .val 5 (some 22) (.agg (mec (Me.mk u (rootB (seedB u)) ⟨#[]⟩ ⟨#[]⟩ d)).toArray)] trivial ?_
  refine rF (some 10) (pt Y5.heap.size 0) (Y5.alloc (.cells (mec (Me.mk 0 ⟨#[]⟩ ⟨#[]⟩ ⟨#[]⟩ 0)).toArray 83)) ?_
  replace hM := hM.alloc 83 (mec (Me.mk 0 ⟨#[]⟩ ⟨#[]⟩ ⟨#[]⟩ 0))
  generalize World.alloc _ _ = Y6 at *
  generalize hNe : Y5.heap.size = N6 at *
  clear hNe
  have hst := sto_part (mec (Me.mk u (rootB (seedB u)) ⟨#[]⟩ ⟨#[]⟩ d)) (hM.at 0 rfl) 0 83 (.agg (mec (Me.mk u (rootB (seedB u)) ⟨#[]⟩ ⟨#[]⟩ d)).toArray) (mec (Me.mk u (rootB (seedB u)) ⟨#[]⟩ ⟨#[]⟩ d)) rfl (by kernel_rfl) (Nat.le_of_ble_eq_true rfl) rfl rfl
  refine sF 83 (pt N6 0) (.agg (mec (Me.mk u (rootB (seedB u)) ⟨#[]⟩ ⟨#[]⟩ d)).toArray) (hst) ?_
  clear hst
  replace hM := hM.set 0 (cs' := mec (Me.mk u (rootB (seedB u)) ⟨#[]⟩ ⟨#[]⟩ d)) rfl rfl
  generalize World.setRow _ _ _ = Y7 at *
  refine dF ?_
  try simp only [puts, Tk.put, Act.put, List.setIfInBounds_toArray, List.set_cons_zero, List.set_cons_succ]
  go_upto_region 4 with fail
  refine wp_region_fromM (fun W => Sep w [] [.blk N6 83 (mec (Me.mk u (rootB (seedB u)) ⟨#[]⟩ ⟨#[]⟩ d))] W) hM ?_
  clear hM
  rintro Y8 hM
  refine tF 3 [.val 0 (some 23) (pt N6 2), .slc 1 (some 24) 81 (pt N6 2) none none none (.slice (some ⟨N6, 2, none⟩) 2 2), .val 2 (some 25) (.slice none 0 0)] ⟨slice_arr2 (c := 1) Tryz.underlying81 (fun W => by kernel_rfl) _ _ _, trivial⟩ ?_
  refine cpF 61 61 3 (some 26) (.slice (some ⟨N6, 2, none⟩) 2 2) (.slice none 0 0) (.int .i64 0) (run_copy_nil (P := Tryz.prog) Y8 61 61 3 9 _ 2 2 Tryz.underlying61 (by kernel_rfl)) ?_
  refine dF ?_
  try simp only [puts, Tk.put, Act.put, List.setIfInBounds_toArray, List.set_cons_zero, List.set_cons_succ]
  go_upto_region 5 with fail
  refine wp_region_M (fun W => Sep w [] [.blk N6 83 (mec (Me.mk u (rootB (seedB u)) ⟨#[]⟩ ⟨#[]⟩ d))] W) (fun W => Sep w [] [.blk N6 83 (mec (Me.mk u (rootB (seedB u)) ⟨#[]⟩ ⟨#[]⟩ d))] W) hmx hM.drew ?_
  clear hM
  rintro Y9 hM
  have hS := hM.sub (.cons_cons _ .slnil)
  refine tD 7 [.load 0 (some 27) 83 (pt N6 0) (mev (Me.mk u (rootB (seedB u)) ⟨#[]⟩ ⟨#[]⟩ d)), .val 1 (some 28) (.int .i64 n), .val 4 (some 31) (pt N6 2), .slc 5 (some 32) 81 (pt N6 2) none none none (.slice (some ⟨N6, 2, none⟩) 2 2)] ⟨fun W h => load_part (h.at 0 rfl) 0 (mec (Me.mk u (rootB (seedB u)) ⟨#[]⟩ ⟨#[]⟩ d)) rfl _ _ Tryz.underlying83 rfl (by kernel_rfl), fun W h => slice_arr2 (c := 1) Tryz.underlying81 (fun W => by kernel_rfl) _ _ _, trivial⟩ hS ?_
  refine oD 2 6 (cD (some 29) 69 #[.int .i64 n] ((dkNew_any n _).mono ?_))
  rintro e Y10 ⟨B10, v10, rfl, hR⟩
  refine And.intro (hS.below hR.b) ?_
  replace hS := hS.below hR.b
  replace hM := hM.gain (Sep.close (ps := DKR B10 (newD n) v10) (l := []) hR)
  clear hR
  refine tD 5 [.val 3 (some 30) (.agg #[.int .i64 u, .string (rootB (seedB u)), .string (⟨#[]⟩), .string (⟨#[]⟩), .int .i64 d, pt B10 0, .slice none 0 0])] trivial hS ?_
  refine oD 6 4 (cD (some 33) 70 #[.slice (some ⟨N6, 2, none⟩) 2 2] ((rmNew_at 2 (⟨#[]⟩) (⟨#[]⟩) _ (hM.at 1 rfl) rfl rfl).mono ?_))
  rintro e Y11 ⟨B11, va11, vb11, rfl, hR⟩
  refine And.intro (hS.below hR.b) ?_
  replace hS := hS.below hR.b
  replace hM := hM.gain (Sep.close (ps := RMR B11 (Rm.mk (⟨#[]⟩) (⟨#[]⟩) [] []) va11 vb11) (l := []) hR)
  clear hR
  refine tD 3 [.val 7 (some 34) (.agg (clc (Me.mk u (rootB (seedB u)) ⟨#[]⟩ ⟨#[]⟩ d) (pt B10 0) (.slice none 0 0) (pt B11 0) false).toArray)] trivial hS ?_
  refine oD 8 2 (rD (some 35) (pt Y11.heap.size 0) (Y11.alloc (.cells (clc (Me.mk u (rootB (seedB u)) ⟨#[]⟩ ⟨#[]⟩ d) (pt B10 0) (.slice none 0 0) (pt B11 0) false).toArray 90)) (hS.other _) ?_)
  replace hS := hS.other (.cells (clc (Me.mk u (rootB (seedB u)) ⟨#[]⟩ ⟨#[]⟩ d) (pt B10 0) (.slice none 0 0) (pt B11 0) false).toArray 90)
  replace hM := hM.alloc 90 (clc (Me.mk u (rootB (seedB u)) ⟨#[]⟩ ⟨#[]⟩ d) (pt B10 0) (.slice none 0 0) (pt B11 0) false)
  generalize World.alloc _ _ = Y12 at *
  generalize hNe : Y11.heap.size = N12 at *
  clear hNe
  refine tD 0 [.val 9 (some 8) (pt N12 0), .val 10 (some 9) (.int .i64 0)] trivial hS ?_
  refine dD ?_
  try simp only [puts, Tk.put, Act.put, List.setIfInBounds_toArray, List.set_cons_zero, List.set_cons_succ]
  clear hS
  replace hM := hM.nil pgc 108 29
  go_wp2_with fail
  go_ret2
  exact ⟨_, _, _, _, _, _, _, rfl, hM.pick [1, 3, 0, 2] (by decide) rfl⟩
set_option maxRecDepth 100000 in
set_option maxHeartbeats 4000000 in
theorem clNew_no (u d n : Int) (v : Value) (w : World) (hu : ¬ (0 ≤ u ∧ u < 2)) : Calls Tryz.prog 27 #[.int .i64 u, v, .int .i64 d, .int .i64 n] w fun e W' => e = .returned (.tuple #[.pointer none, .int .i64 4]) ∧ Below w.heap.size w W' := by
  have hmx : Tryz.prog.follows .mixedOrders = true := by kernel_rfl
  have HU := Lib.hid hu
  clear hu
  have hM := Sep.start w
  go_enter Tryz.func27, Tryz.ntmps27
  go_upto_region 0 with fail
  refine wp_region_fromM (fun W => Sep w [] [] W) hM ?_
  clear hM
  rintro Y1 hM
  refine tF 2 [.val 0 (some 8) (.pointer none), .val 1 (some 9) (.int .i64 0)] trivial ?_
  refine dF ?_
  try simp only [puts, Tk.put, Act.put, List.setIfInBounds_toArray, List.set_cons_zero, List.set_cons_succ]
  go_upto_region 1 with fail
  refine wp_region_fromM (fun W => Sep w [] [] W) hM ?_
  clear hM
  rintro Y2 hM
  refine tF 3 [.val 0 (some 11) (.int .i64 u), .val 1 (some 12) (.bool (decide (u < 0))), .val 2 (some 13) (.bool (decide (u < 0)))] trivial ?_
  cases hb1 : decide (u < 0) with
  | false =>
    have Hhb1 := Lib.hid hb1
    clear hb1
    refine tF 6 [.val 3 (some 14) (.int .i64 u), .alt 4 (some 15) (.bool (decide (2 ≤ u))) (.bool true), .val 5 (some 16) (.bool true)] ⟨congrArg Value.bool (decide_eq_true (by have h1 := HU.out; have h2 := of_decide_eq_false Hhb1.out; omega)), trivial⟩ ?_
    refine dF ?_
    try simp only [puts, Tk.put, Act.put, List.setIfInBounds_toArray, List.set_cons_zero, List.set_cons_succ]
    go_upto_region 2 with fail
    refine wp_region_fromM (fun W => Sep w [] [] W) hM ?_
    clear hM
    rintro Y3 hM
    refine tF 2 [.val 0 (some 8) (.pointer none), .val 1 (some 9) (.int .i64 4)] trivial ?_
    refine dF ?_
    try simp only [puts, Tk.put, Act.put, List.setIfInBounds_toArray, List.set_cons_zero, List.set_cons_succ]
    go_wp2_with fail
    go_ret2
    exact ⟨rfl, hM.b⟩
  | true =>
    have Hhb1 := Lib.hid hb1
    clear hb1
    refine tF 6 [.skip 3 (some 14), .skip 4 (some 15), .val 5 (some 16) (.bool true)] trivial ?_
    refine dF ?_
    try simp only [puts, Tk.put, Act.put, List.setIfInBounds_toArray, List.set_cons_zero, List.set_cons_succ]
    go_upto_region 2 with fail
    refine wp_region_fromM (fun W => Sep w [] [] W) hM ?_
    clear hM
    rintro Y4 hM
    refine tF 2 [.val 0 (some 8) (.pointer none), .val 1 (some 9) (.int .i64 4)] trivial ?_
    refine dF ?_
    try simp only [puts, Tk.put, Act.put, List.setIfInBounds_toArray, List.set_cons_zero, List.set_cons_succ]
    go_wp2_with fail
    go_ret2
    exact ⟨rfl, hM.b⟩
end Go.Proofs.YtbjpifcgnombaaaGreat
