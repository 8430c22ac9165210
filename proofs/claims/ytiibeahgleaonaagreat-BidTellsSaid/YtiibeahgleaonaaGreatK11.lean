/-
  What is signed opens to the public one: the plain side.
  The reference's Public, Parts, Open.
-/
import Derived.OneCell
import Derived.Outline
import Derived.Test.YtiibeahgleaonaaGreatK10
namespace Go.Proofs.YtiibeahgleaonaaGreat
open Go.RowKit Go.Shelf

theorem linkB_add (s : ByteArray) (a b : Nat) : linkB (linkB s a) b = linkB s (a + b) := by
  induction b with
  | zero => rfl
  | succ b ih => rw [show a + (b + 1) = (a + b) + 1 by omega, linkB, linkB, ih]
theorem walked_get (zs : List ByteArray) (d : Nat → Int) (k : Nat) : (walked zs d)[k]? = zs[k]?.map fun x => linkB x (stp (d k)) := by
  unfold walked; rw [List.getElem?_mapIdx]
theorem walked_back (zs : List ByteArray) (d : Nat → Nat) (h : ∀ k, d k ≤ 3) : walked (walked zs fun k => (d k : Int)) (fun k => 3 - (d k : Int)) = walked zs fun _ => 3 := by
  apply List.ext_getElem?
  intro k
  have h3 := h k
  have e1 : stp (d k : Int) = d k := stp_of h3
  have e2 : stp (3 - (d k : Int)) = 3 - d k := by
    have h : (3 - (d k : Int)) = ((3 - d k : Nat) : Int) := by omega
    rw [h]
    exact stp_of (by omega)
  have e3 : stp 3 = 3 := by unfold stp; simp
  have e4 : d k + (3 - d k) = 3 := by omega
  have e5 : ∀ x, linkB (linkB x (stp (d k : Int))) (stp (3 - (d k : Int))) = linkB x (stp 3) := fun x => by
    rw [e1, e2, e3, linkB_add, e4]
  rw [walked_get, walked_get, walked_get, Option.map_map]
  exact congrArg (fun g => Option.map g zs[k]?) (funext e5)
theorem linkB_eight {s : ByteArray} (h : s.size = 8) (k : Nat) : (linkB s k).size = 8 := by
  cases k with
  | zero => exact h
  | succ k => exact shortB_size _
theorem signL_wf (s : ByteArray) (f : Nat) (l : List UInt8) : wf (signL s f l) = true := by
  unfold wf signL
  rw [walked_length, begs_length]
  simp only [decide_true, Bool.true_and, List.all_eq_true, beq_iff_eq]
  intro x hx
  unfold walked at hx
  obtain ⟨i, hi, rfl⟩ := List.mem_mapIdx.1 hx
  exact linkB_eight (begs_mem (List.getElem_mem hi)) _
theorem open_sign (s : ByteArray) (f : Nat) (l : List UInt8) : openB l (signL s f l) = publicB s f := by
  unfold openB
  rw [if_pos (signL_wf s f l)]
  unfold signL publicB
  rw [walked_back _ _ (digF_le l)]
end Go.Proofs.YtiibeahgleaonaaGreat

namespace Go.Proofs.YtiibeahgleaonaaGreat
open Go.RowKit Go.Shelf

/-- All, one behind the other. -/
def catL (zs : List ByteArray) : ByteArray := zs.foldl (· ++ ·) ⟨#[]⟩
theorem catL_snoc (zs : List ByteArray) (x : ByteArray) : catL (zs ++ [x]) = catL zs ++ x := by unfold catL; rw [List.foldl_append]; rfl
theorem catL_list (zs : List ByteArray) : (catL zs).data.toList = (zs.map fun s => s.data.toList).flatten := by
  rw [← List.reverse_reverse zs]
  generalize zs.reverse = r
  induction r with
  | nil => rfl
  | cons x r ih =>
    rw [List.reverse_cons, catL_snoc, List.map_append, List.flatten_append, ← ih]
    simp
theorem catL_le (zs : List ByteArray) (m : Nat) (h : ∀ x ∈ zs, x.size ≤ m) : (catL zs).size ≤ zs.length * m := by
  have e : (catL zs).size = (catL zs).data.toList.length := rfl
  rw [e, catL_list]
  exact flatten_le _ m zs h
theorem joinB_of (zs : List ByteArray) : joinB zs = shortB (catL zs).data.toList := by rw [catL_list]; rfl
theorem catL_take {zs : List ByteArray} {k : Nat} {x : ByteArray} (h : zs[k]? = some x) : catL (zs.take (k + 1)) = catL (zs.take k) ++ x := by
  rw [List.take_add_one, h]; exact catL_snoc _ _

theorem textRow {lo n : Nat} {W : World} {v : Value} {zs : List ByteArray} (hn : zs.length = n + 1) (h : W.ownsRow lo 9 1 v (n + 1) (zs.map tv)) :
    ∃ g c, v = .slice (some ⟨g, 0, none⟩) (n + 1) c ∧ g < W.heap.size ∧ ∀ k x, zs[k]? = some x → W.cell? ⟨g, k, none⟩ = some (.string x) := by
  have hq := VSl.of_own (vs := zs.map tv) (by rw [List.length_map, hn]; exact h)
  obtain ⟨g, c, rfl⟩ := ownsRow_succ h
  obtain ⟨a', c', e, hc, h0 | ⟨b, off, ha, _, hb, hr⟩⟩ := hq
  · have := congrArg List.length h0
    rw [List.length_map, hn] at this
    simp at this
  · rw [List.length_map, hn] at e
    cases e
    cases ha
    exact ⟨g, c, rfl, hb, fun k x hk => by
      have := hr k (.string x) (by rw [List.getElem?_map, hk]; rfl)
      rwa [Nat.zero_add] at this⟩

set_option maxRecDepth 100000 in
set_option maxHeartbeats 4000000 in
theorem refPublic_any (s : ByteArray) (hs : s.size ≤ 140737488352000) (z : Int) (w : World) :
    Calls Tryz.prog 92 #[.string s, .int .i64 z] w fun e W' => e = .returned (.string (publicB s (lfN z))) ∧ Below w.heap.size w W' := by
  have hp : Hid (publicB s (lfN z) = shortB (catL (walked (begs s (lfN z)) fun _ => 3)).data.toList) := Lib.hid (joinB_of _)
  go_enter Tryz.func92, Tryz.ntmps92
  go_wp2_with fail
  refine (refBegin_any s hs z _).mono ?_
  rintro e w1 ⟨v1, rfl, hown1, hb1⟩
  have hbl := begs_length s (lfN z)
  have hm : ∀ x ∈ begs s (lfN z), x.size ≤ 8 := fun x hx => by rw [begs_mem hx]; omega
  generalize begs s (lfN z) = bs at *
  obtain ⟨g, c, rfl, hgw, hcell⟩ := textRow (n := 14) hbl hown1
  have HC := Lib.hid hcell
  have HM := Lib.hid hm
  have HBL := Lib.hid hbl
  clear hcell hm hbl hown1
  go_wp2
  go_loopw [6, 7] (fun v i wr => ∃ k : Nat, k ≤ 15 ∧ i = .int .i64 (k : Nat) ∧ v = .string (catL ((walked bs fun _ => 3).take k)) ∧ Below w1.heap.size w1 wr) (fun _ i _ => 15 - (intOf i).toNat)
  case atStart => exact ⟨0, by omega, rfl, rfl, Below.refl _ _⟩
  case round =>
    obtain ⟨k, hk, rfl, rfl, hB⟩ := hrel
    by_cases hlt : k < 15
    · obtain ⟨x, hx⟩ : ∃ x, bs[k]? = some x := ⟨_, List.getElem?_eq_getElem (by rw [HBL.out]; exact hlt)⟩
      have c0 := (hB.cell (p := ⟨g, k, none⟩) hgw).trans (HC.out k x hx)
      have hxs := HM.out x (List.mem_of_getElem? hx)
      have hlk := linkB_size x 3
      have hwk : (walked bs fun _ => 3)[k]? = some (linkB x 3) := by rw [walked_at (fun _ => 3) hx]; rfl
      have HK := Lib.hid (catL_take hwk)
      have hcs := catL_le ((walked bs fun _ => 3).take k) 8 (fun y hy => by have := walked_mem HM.out (List.mem_of_mem_take hy); omega)
      rw [List.length_take, walked_length, HBL.out] at hcs
      have hadd : ¬ 9223372036854775807 < (catL ((walked bs fun _ => 3).take k)).size + (linkB x 3).size := by omega
      have hlt' : (k : Int) < 15 := by omega
      have HLT := Lib.hid hlt
      clear hx hwk hcs hlt hk
      generalize catL ((walked bs fun _ => 3).take k) = cs at *
      go_wp2_with fail
      refine (refWalk_any x (by omega) 3 _).mono ?_
      rw [show stp 3 = 3 from rfl]
      rintro e w2 ⟨rfl, hb2⟩
      go_wp2_with fail
      go_roundw
      case rel => exact ⟨k + 1, HLT.out, by simp, by rw [HK.out], hB.trans (hb2.mono hB.size)⟩
      case measure => have := HLT.out; simp [intOf]; omega
    · obtain rfl : k = 15 := by omega
      have hcs := catL_le (walked bs fun _ => 3) 8 (fun y hy => by have := walked_mem HM.out hy; omega)
      rw [walked_length, HBL.out] at hcs
      rw [List.take_of_length_le (by rw [walked_length, HBL.out]; omega)]
      generalize catL (walked bs fun _ => 3) = cs at *
      go_wp2_with fail
      refine (refShort_any cs (by omega) _).mono ?_
      rintro e w2 ⟨rfl, hb2⟩
      go_wp2_with fail
      go_ret
      exact ⟨by rw [hp.out]; rfl, hb1.trans ((hB.trans (hb2.mono hB.size)).mono hb1.size)⟩

/-- The first k walked, the others not. -/
def mixL (bs : List ByteArray) (d : Nat → Int) (k : Nat) : List Value := ((walked bs d).take k ++ bs.drop k).map tv
theorem mixL_at {bs : List ByteArray} (d : Nat → Int) {k : Nat} {x : ByteArray} (h : bs[k]? = some x) : (mixL bs d k)[k]? = some (tv x) := by
  have hk : k < bs.length := (List.getElem?_eq_some_iff.1 h).1
  have ht : ((walked bs d).take k).length = k := by rw [List.length_take, walked_length]; omega
  unfold mixL
  rw [List.getElem?_map, List.getElem?_append_right (by omega), ht, Nat.sub_self, List.getElem?_drop, Nat.add_zero, h]
  rfl
theorem mixL_set {bs : List ByteArray} (d : Nat → Int) {k : Nat} {x : ByteArray} (h : bs[k]? = some x) : (mixL bs d k).set k (tv (linkB x (stp (d k)))) = mixL bs d (k + 1) := by
  have hk : k < bs.length := (List.getElem?_eq_some_iff.1 h).1
  have ht : ((walked bs d).take k).length = k := by rw [List.length_take, walked_length]; omega
  have hd : bs.drop k = x :: bs.drop (k + 1) := by
    rw [List.drop_eq_getElem_cons hk]
    congr 1
    exact (List.getElem?_eq_some_iff.1 h).2
  unfold mixL
  rw [← List.map_set, hd, List.set_append_right _ _ (by omega), ht, Nat.sub_self, List.set_cons_zero, List.take_add_one, walked_at d h]
  simp
theorem mixL_length (bs : List ByteArray) (d : Nat → Int) (k : Nat) (hk : k ≤ bs.length) : (mixL bs d k).length = bs.length := by
  unfold mixL
  rw [List.length_map, List.length_append, List.length_take, walked_length, List.length_drop]
  omega

set_option maxRecDepth 100000 in
set_option maxHeartbeats 8000000 in
theorem refParts_any (s : ByteArray) (hs : s.size ≤ 140737488352000) (z : Int) (l : List UInt8) (tx : Value) (w : World) (hreach : l.length ≤ 140737488353000) (htx : BSl 0 w.heap.size w tx l) :
    Calls Tryz.prog 40 #[.string s, .int .i64 z, tx] w (RowW w.heap.size 9 15 ((signL s (lfN z) l).map tv) w) := by
  have hmx : Tryz.prog.follows .mixedOrders = true := by kernel_rfl
  have hp : Hid (signL s (lfN z) l = walked (begs s (lfN z)) fun k => (digF l k : Int)) := Lib.hid rfl
  have htx0 := htx
  obtain ⟨ta, tc, rfl⟩ := bsl_slice htx
  clear htx
  go_enter Tryz.func40, Tryz.ntmps40
  go_wp2_with fail
  refine (refBegin_any s hs z _).mono ?_
  rintro e w1 ⟨v1, rfl, hown1, hb1⟩
  have hbl := begs_length s (lfN z)
  have hm : ∀ x ∈ begs s (lfN z), x.size ≤ 8 := fun x hx => by rw [begs_mem hx]; omega
  have htx1 := (htx0.below hb1 (Nat.le_refl _)).mono (Nat.le_refl _) hb1.size
  generalize begs s (lfN z) = bs at *
  obtain ⟨g, c, rfl⟩ := ownsRow_succ hown1
  have HM := Lib.hid hm
  have HBL := Lib.hid hbl
  clear htx0 hm hbl
  go_wp2_with fail
  refine (refDigits_any l _ _ hreach htx1).mono ?_
  rintro e w2 ⟨v2, rfl, hown2, hb2⟩
  obtain ⟨g2, c2, rfl, _, _, hdc⟩ := digRow hown2
  clear hdc htx1
  have hm0 : mixL bs (fun k => (digF l k : Int)) 0 = bs.map tv := by simp [mixL]
  have hrow : w2.ownsRow w.heap.size 9 1 (.slice (some ⟨g, 0, none⟩) (14 + 1) c) 15 (mixL bs (fun k => (digF l k : Int)) 0) := by rw [hm0]; exact own_below4 hown1 hb2
  have hb12 : Below w.heap.size w w2 := chain hb1 hb2
  have hdrow : w2.ownsRow w.heap.size 3 1 (.slice (some ⟨g2, 0, none⟩) 15 c2) 15 ((digL l).map iv) := own_base hown2 hb1.size
  have hdv : ∀ k, k < 15 → ((digL l).map iv)[k]? = some (.int .i64 (digF l k : Int)) := fun k hk => by rw [List.getElem?_map, digL_at l hk]; rfl
  have HDV := Lib.hid hdv
  clear hm0 hown1 hown2 hb1 hb2 hdv
  go_wp2_with fail
  go_loopw [9] (fun i wr => ∃ k : Nat, k ≤ 15 ∧ i = .int .i64 (k : Nat) ∧ wr.ownsRow w.heap.size 9 1 (.slice (some ⟨g, 0, none⟩) (14 + 1) c) 15 (mixL bs (fun k => (digF l k : Int)) k) ∧ wr.ownsRow w.heap.size 3 1 (.slice (some ⟨g2, 0, none⟩) 15 c2) 15 ((digL l).map iv) ∧ Below w.heap.size w wr) (fun i _ => 15 - (intOf i).toNat)
  case atStart => exact ⟨0, by omega, rfl, hrow, hdrow, hb12⟩
  clear hrow hdrow hb12
  case round =>
    obtain ⟨k, hk, rfl, hrow, hdrow, hB⟩ := hrel
    by_cases hlt : k < 15
    · obtain ⟨x, hx⟩ : ∃ x, bs[k]? = some x := ⟨_, List.getElem?_eq_getElem (by rw [HBL.out]; exact hlt)⟩
      have hxs := HM.out x (List.mem_of_getElem? hx)
      have hat := mixL_at (fun k => (digF l k : Int)) hx
      have HS := Lib.hid (mixL_set (fun k => (digF l k : Int)) hx)
      have hdk := HDV.out k hlt
      have hlt' : (k : Int) < 15 := by omega
      have HLT := Lib.hid hlt
      clear hx hk
      generalize mixL bs (fun k => (digF l k : Int)) k = ms at *
      generalize (digL l).map iv = dv at *
      generalize digF l k = d at *
      have HAT := Lib.hid hat
      have HDK := Lib.hid hdk
      clear hat hdk hlt
      go_wp2_with fail
      refine wp_region_any hmx ?_
      change wpAny _ _ _ _ _ _ _ wr.drew
      have hWd : Below wr.heap.size wr wr.drew := (Below.refl _ wr).drew
      replace hrow : wr.drew.ownsRow w.heap.size 9 1 (.slice (some ⟨g, 0, none⟩) (14 + 1) c) 15 ms := hrow
      replace hdrow : wr.drew.ownsRow w.heap.size 3 1 (.slice (some ⟨g2, 0, none⟩) 15 c2) 15 dv := hdrow
      generalize wr.drew = Y at *
      refine' wpAny_take (i := 0) (oi := _) (v := _) ?hi1 (by kernel_rfl) (by kernel_rfl) (by kernel_rfl) ?hQ1 (Or.inl ⟨?hw1, ?hy1⟩) ?rest1
      case hi1 => simp only [List.getElem?_toArray, List.getElem?_cons_zero]; rfl
      case hQ1 => exact fun _ _ _ h => h
      case hw1 => rfl
      case hy1 => intro W'; go_simp; with_reducible rfl
      try simp only [Act.put, List.setIfInBounds_toArray, List.set_cons_zero, List.set_cons_succ]
      refine' wpAny_take (i := 1) (oi := _) (v := _) ?hi2 (by kernel_rfl) (by kernel_rfl) (by kernel_rfl) ?hQ2 (Or.inl ⟨?hw2, ?hy2⟩) ?rest2
      case hi2 => simp only [List.getElem?_toArray, List.getElem?_cons_succ, List.getElem?_cons_zero]; rfl
      case hQ2 => exact fun _ _ _ h => h
      case hw2 => rfl
      case hy2 => intro W'; go_simp; with_reducible rfl
      try simp only [Act.put, List.setIfInBounds_toArray, List.set_cons_zero, List.set_cons_succ]
      refine' wpAny_take (i := 2) (oi := _) (v := _) ?hi3 (by kernel_rfl) (by kernel_rfl) (by kernel_rfl) ?hQ3 (Or.inl ⟨?hw3, ?hy3⟩) ?rest3
      case hi3 => simp only [List.getElem?_toArray, List.getElem?_cons_succ, List.getElem?_cons_zero]; rfl
      case hQ3 => exact fun _ _ _ h => h
      case hw3 => rfl
      case hy3 => intro W'; go_simp; with_reducible rfl
      try simp only [Act.put, List.setIfInBounds_toArray, List.set_cons_zero, List.set_cons_succ]
      refine' wpAny_take (i := 3) (oi := _) (v := _) ?hi4 (by kernel_rfl) (by kernel_rfl) (by kernel_rfl) ?hQ4 (Or.inl ⟨?hw4, ?hy4⟩) ?rest4
      case hi4 => simp only [List.getElem?_toArray, List.getElem?_cons_succ, List.getElem?_cons_zero]; rfl
      case hQ4 => exact fun _ _ _ h => h
      case hw4 => rfl
      case hy4 => intro W'; go_simp; with_reducible rfl
      try simp only [Act.put, List.setIfInBounds_toArray, List.set_cons_zero, List.set_cons_succ]
      refine' wpAny_take (i := 4) (oi := _) (v := _) ?hi5 (by kernel_rfl) (by kernel_rfl) (by kernel_rfl) ?hQ5 (Or.inl ⟨?hw5, ?hy5⟩) ?rest5
      case hi5 => simp only [List.getElem?_toArray, List.getElem?_cons_succ, List.getElem?_cons_zero]; rfl
      case hQ5 => exact fun _ _ _ h => h
      case hw5 => rfl
      case hy5 => intro W'; go_simp; with_reducible rfl
      try simp only [Act.put, List.setIfInBounds_toArray, List.set_cons_zero, List.set_cons_succ]
      refine' wpAny_take (i := 6) (oi := _) (v := _) ?hi6 (by kernel_rfl) (by kernel_rfl) (by kernel_rfl) ?hQ6 (Or.inl ⟨?hw6, ?hy6⟩) ?rest6
      case hi6 => simp only [List.getElem?_toArray, List.getElem?_cons_succ, List.getElem?_cons_zero]; rfl
      case hQ6 => exact fun _ _ _ h => h
      case hw6 => rfl
      case hy6 => intro W'; go_simp; with_reducible rfl
      try simp only [Act.put, List.setIfInBounds_toArray, List.set_cons_zero, List.set_cons_succ]
      refine' wpAny_take (i := 7) (oi := _) (v := _) ?hi7 (by kernel_rfl) (by kernel_rfl) (by kernel_rfl) ?hQ7 (Or.inl ⟨?hw7, ?hy7⟩) ?rest7
      case hi7 => simp only [List.getElem?_toArray, List.getElem?_cons_succ, List.getElem?_cons_zero]; rfl
      case hQ7 => exact fun _ _ _ h => h
      case hw7 => rfl
      case hy7 => intro W'; go_simp; with_reducible rfl
      try simp only [Act.put, List.setIfInBounds_toArray, List.set_cons_zero, List.set_cons_succ]
      refine' wpAny_take (i := 8) (oi := _) (v := _) ?hi8 (by kernel_rfl) (by kernel_rfl) (by kernel_rfl) ?hQ8 (Or.inl ⟨?hw8, ?hy8⟩) ?rest8
      case hi8 => simp only [List.getElem?_toArray, List.getElem?_cons_succ, List.getElem?_cons_zero]; rfl
      case hQ8 => exact fun _ _ _ h => h
      case hw8 => rfl
      case hy8 => intro W'; go_simp; with_reducible rfl
      try simp only [Act.put, List.setIfInBounds_toArray, List.set_cons_zero, List.set_cons_succ]
      refine wpAny_ready (rs := [5, 9]) (by kernel_rfl) (by simp) ?_
      refine' AllReady.cons (o := _) ?ho10 (fun K hK => ?st10) (AllReady.cons (o := _) ?ho9 (fun K hK => ?st9) AllReady.nil)
      case ho10 => simp only [List.getElem?_toArray, List.getElem?_cons_succ, List.getElem?_cons_zero]; rfl
      case ho9 => simp only [List.getElem?_toArray, List.getElem?_cons_succ, List.getElem?_cons_zero]; rfl
      case st10 =>
        have hc := hrow.cellAt k (by have := HLT.out; omega)
        rw [HAT.out] at hc
        go_simp
        refine hK _ _ ?_
        clear hK K
        try simp only [Act.put, List.setIfInBounds_toArray, List.set_cons_zero, List.set_cons_succ]
        clear hc
        refine wpAny_ready (rs := [9]) (by kernel_rfl) (by simp) ?_
        refine' AllReady.cons (o := _) ?ho11 (fun K hK => ?st11) AllReady.nil
        case ho11 => simp only [List.getElem?_toArray, List.getElem?_cons_succ, List.getElem?_cons_zero]; rfl
        case st11 =>
          have hc := hdrow.cellAt k (by have := HLT.out; omega)
          rw [HDK.out] at hc
          go_simp
          refine hK _ _ ?_
          clear hK K
          try simp only [Act.put, List.setIfInBounds_toArray, List.set_cons_zero, List.set_cons_succ]
          clear hc
          refine wpAny_ready (rs := [10]) (by kernel_rfl) (by simp) ?_
          refine' AllReady.cons (o := _) ?ho12 (fun K hK => ?st12) AllReady.nil
          case ho12 => simp only [List.getElem?_toArray, List.getElem?_cons_succ, List.getElem?_cons_zero]; rfl
          case st12 =>
            go_simp
            refine (refWalk_any x (by omega) (d : Int) _).mono ?_
            rintro e Y1 ⟨rfl, hb⟩
            refine hK _ _ ?_
            clear hK K
            try simp only [Act.put, List.setIfInBounds_toArray, List.set_cons_zero, List.set_cons_succ]
            replace hWd := chain hWd hb
            replace hrow := own_below4 hrow hb
            replace hdrow := own_below4 hdrow hb
            clear hb
            refine' wpAny_take (i := 11) (oi := _) (v := _) ?hi13 (by kernel_rfl) (by kernel_rfl) (by kernel_rfl) ?hQ13 (Or.inl ⟨?hw13, ?hy13⟩) ?rest13
            case hi13 => simp only [List.getElem?_toArray, List.getElem?_cons_succ, List.getElem?_cons_zero]; rfl
            case hQ13 => exact fun _ _ _ h => h
            case hw13 => rfl
            case hy13 => intro W'; go_simp; with_reducible rfl
            try simp only [Act.put, List.setIfInBounds_toArray, List.set_cons_zero, List.set_cons_succ]
            refine wpAny_ready (rs := [12]) (by kernel_rfl) (by simp) ?_
            refine' AllReady.cons (o := _) ?ho14 (fun K hK => ?st14) AllReady.nil
            case ho14 => simp only [List.getElem?_toArray, List.getElem?_cons_succ, List.getElem?_cons_zero]; rfl
            case st14 =>
              have hc := hrow.cellAt k (by have := HLT.out; omega)
              rw [HAT.out] at hc
              have hf := hrow.frozenAt k
              go_simp
              refine hK _ _ ?_
              clear hK K
              try simp only [Act.put, List.setIfInBounds_toArray, List.set_cons_zero, List.set_cons_succ]
              refine wpAny_done (by kernel_rfl) ?_ _
              have hst := (hrow.stored k (tv (linkB x (stp (d : Int))))).1
              rw [HS.out] at hst
              have hne : ∀ q, (Value.slice (some ⟨g2, 0, none⟩) 15 c2).ownBlock = some q → q ≠ g := fun q hq e => by
                subst e
                obtain ⟨cur, fr, h1⟩ := ownsRow_block hdrow q hq
                obtain ⟨cur', fr', h2⟩ := ownsRow_block hrow q rfl
                rw [h1] at h2
                cases h2
              have hdst := own_same hdrow (W' := Y1.setCell ⟨g, k, none⟩ (tv (linkB x (stp (d : Int))))) (fun q hq => Below.heap_setCell _ _ _ q (hne q hq))
              have hbw := (hB.trans (hWd.mono hB.size)).setCell (p := ⟨g, k, none⟩) (World.ownsRow.lt hrow g rfl).1 (tv (linkB x (stp (d : Int))))
              clear hrow hdrow hc hf hne
              go_wp2_with fail
              go_roundw
              case rel => exact ⟨k + 1, HLT.out, by simp, hst, hdst, hbw⟩
              case measure => have := HLT.out; simp [intOf]; omega
      case st9 =>
        have hc := hdrow.cellAt k (by have := HLT.out; omega)
        rw [HDK.out] at hc
        go_simp
        refine hK _ _ ?_
        clear hK K
        try simp only [Act.put, List.setIfInBounds_toArray, List.set_cons_zero, List.set_cons_succ]
        clear hc
        refine wpAny_ready (rs := [5]) (by kernel_rfl) (by simp) ?_
        refine' AllReady.cons (o := _) ?ho15 (fun K hK => ?st15) AllReady.nil
        case ho15 => simp only [List.getElem?_toArray, List.getElem?_cons_succ, List.getElem?_cons_zero]; rfl
        case st15 =>
          have hc := hrow.cellAt k (by have := HLT.out; omega)
          rw [HAT.out] at hc
          go_simp
          refine hK _ _ ?_
          clear hK K
          try simp only [Act.put, List.setIfInBounds_toArray, List.set_cons_zero, List.set_cons_succ]
          clear hc
          refine wpAny_ready (rs := [10]) (by kernel_rfl) (by simp) ?_
          refine' AllReady.cons (o := _) ?ho16 (fun K hK => ?st16) AllReady.nil
          case ho16 => simp only [List.getElem?_toArray, List.getElem?_cons_succ, List.getElem?_cons_zero]; rfl
          case st16 =>
            go_simp
            refine (refWalk_any x (by omega) (d : Int) _).mono ?_
            rintro e Y1 ⟨rfl, hb⟩
            refine hK _ _ ?_
            clear hK K
            try simp only [Act.put, List.setIfInBounds_toArray, List.set_cons_zero, List.set_cons_succ]
            replace hWd := chain hWd hb
            replace hrow := own_below4 hrow hb
            replace hdrow := own_below4 hdrow hb
            clear hb
            refine' wpAny_take (i := 11) (oi := _) (v := _) ?hi17 (by kernel_rfl) (by kernel_rfl) (by kernel_rfl) ?hQ17 (Or.inl ⟨?hw17, ?hy17⟩) ?rest17
            case hi17 => simp only [List.getElem?_toArray, List.getElem?_cons_succ, List.getElem?_cons_zero]; rfl
            case hQ17 => exact fun _ _ _ h => h
            case hw17 => rfl
            case hy17 => intro W'; go_simp; with_reducible rfl
            try simp only [Act.put, List.setIfInBounds_toArray, List.set_cons_zero, List.set_cons_succ]
            refine wpAny_ready (rs := [12]) (by kernel_rfl) (by simp) ?_
            refine' AllReady.cons (o := _) ?ho18 (fun K hK => ?st18) AllReady.nil
            case ho18 => simp only [List.getElem?_toArray, List.getElem?_cons_succ, List.getElem?_cons_zero]; rfl
            case st18 =>
              have hc := hrow.cellAt k (by have := HLT.out; omega)
              rw [HAT.out] at hc
              have hf := hrow.frozenAt k
              go_simp
              refine hK _ _ ?_
              clear hK K
              try simp only [Act.put, List.setIfInBounds_toArray, List.set_cons_zero, List.set_cons_succ]
              refine wpAny_done (by kernel_rfl) ?_ _
              have hst := (hrow.stored k (tv (linkB x (stp (d : Int))))).1
              rw [HS.out] at hst
              have hne : ∀ q, (Value.slice (some ⟨g2, 0, none⟩) 15 c2).ownBlock = some q → q ≠ g := fun q hq e => by
                subst e
                obtain ⟨cur, fr, h1⟩ := ownsRow_block hdrow q hq
                obtain ⟨cur', fr', h2⟩ := ownsRow_block hrow q rfl
                rw [h1] at h2
                cases h2
              have hdst := own_same hdrow (W' := Y1.setCell ⟨g, k, none⟩ (tv (linkB x (stp (d : Int))))) (fun q hq => Below.heap_setCell _ _ _ q (hne q hq))
              have hbw := (hB.trans (hWd.mono hB.size)).setCell (p := ⟨g, k, none⟩) (World.ownsRow.lt hrow g rfl).1 (tv (linkB x (stp (d : Int))))
              clear hrow hdrow hc hf hne
              go_wp2_with fail
              go_roundw
              case rel => exact ⟨k + 1, HLT.out, by simp, hst, hdst, hbw⟩
              case measure => have := HLT.out; simp [intOf]; omega
    · obtain rfl : k = 15 := by omega
      have hme : mixL bs (fun k => (digF l k : Int)) 15 = (walked bs fun k => (digF l k : Int)).map tv := by
        unfold mixL
        rw [List.take_of_length_le (by rw [walked_length, HBL.out]; omega), List.drop_of_length_le (by rw [HBL.out]; omega), List.append_nil]
      rw [hme] at hrow
      clear hme
      go_wp2
      go_ret
      exact ⟨_, rfl, by rw [hp.out]; exact hrow, hB⟩

set_option maxRecDepth 100000 in
set_option maxHeartbeats 600000 in
theorem refOpen_any (l : List UInt8) (tx : Value) (zs : List ByteArray) (sv : Value) (w : World) (hreach : l.length ≤ 140737488353000) (htx : BSl 0 w.heap.size w tx l) (hsv : VSl 0 w.heap.size w sv (zs.map tv)) :
    Calls Tryz.prog 61 #[tx, sv] w fun e W' => e = .returned (.string (openB l zs)) ∧ Below w.heap.size w W' := by
  have hmx : Tryz.prog.follows .mixedOrders = true := by kernel_rfl
  have hsv0 := hsv
  obtain ⟨sa, sc, rfl⟩ := hsv.slice
  have htx0 := htx
  obtain ⟨ta, tc, rfl⟩ := bsl_slice htx
  rw [List.length_map] at hsv0 ⊢
  clear htx hsv
  by_cases h15 : zs.length = 15
  · have hno : ∀ (k : Nat) (x : ByteArray), zs[k]? = some x → x.size ≠ 8 → openB l zs = ⟨#[]⟩ := fun k x hx h8 => by
      unfold openB
      rw [if_neg]
      intro hw
      unfold wf at hw
      simp only [Bool.and_eq_true, List.all_eq_true, beq_iff_eq] at hw
      exact h8 (hw.2 x (List.mem_of_getElem? hx))
    have hyes : (∀ x ∈ zs, x.size = 8) → openB l zs = shortB (catL (walked zs fun k => 3 - (digF l k : Int))).data.toList := fun h8 => by
      unfold openB
      rw [if_pos, joinB_of]
      unfold wf
      simp only [Bool.and_eq_true, List.all_eq_true, beq_iff_eq, decide_eq_true_eq]
      exact ⟨h15, h8⟩
    have HNO := Lib.hid hno
    have HYES := Lib.hid hyes
    clear hno hyes
    obtain ⟨a', c', e', hc', hr⟩ := id hsv0
    rw [List.length_map] at e' hc'
    have hrow : ∃ b off, sa = some ⟨b, off, none⟩ ∧ b < w.heap.size ∧ ∀ k x, zs[k]? = some x → w.cell? ⟨b, off + k, none⟩ = some (.string x) := by
      rcases hr with h0 | ⟨b, off, ha, _, hb, hr⟩
      · have := congrArg List.length h0
        rw [List.length_map, h15] at this
        simp at this
      · cases e'
        exact ⟨b, off, ha, hb, fun k x hx => hr k _ (by rw [List.getElem?_map, hx]; rfl)⟩
    obtain ⟨b, off, rfl, hbw, hcell⟩ := hrow
    rw [h15]
    have HC := Lib.hid hcell
    have HBL := Lib.hid h15
    clear hcell h15 e' hc' hr hsv0
    go_enter Tryz.func61, Tryz.ntmps61
    go_wp2_with fail
    refine (refDigits_any l _ _ hreach htx0).mono ?_
    rintro e w1 ⟨v1, rfl, hown1, hb1⟩
    obtain ⟨g, c, rfl, hgw, hcap, hdc⟩ := digRow hown1
    have hle := digF_le l
    have HLE := Lib.hid hle
    have HDC := Lib.hid hdc
    have hsz1 := hb1.size
    clear hle hdc hown1 htx0
    go_wp2_with fail
    go_loopw [6, 7] (fun v i wr => ∃ k : Nat, k ≤ 15 ∧ i = .int .i64 (k : Nat) ∧ v = .string (catL ((walked zs fun k => 3 - (digF l k : Int)).take k)) ∧ (∀ x ∈ zs.take k, x.size = 8) ∧ Below w1.heap.size w1 wr) (fun _ i _ => 15 - (intOf i).toNat)
    case atStart => exact ⟨0, by omega, rfl, rfl, fun x hx => by simp at hx, Below.refl _ _⟩
    case round =>
      obtain ⟨k, hk, rfl, rfl, h8k, hB⟩ := hrel
      have H8K := Lib.hid h8k
      clear h8k
      by_cases hlt : k < 15
      · obtain ⟨x, hx⟩ : ∃ x, zs[k]? = some x := ⟨_, List.getElem?_eq_getElem (by rw [HBL.out]; exact hlt)⟩
        have c0 := ((hB.cell (p := ⟨b, off + k, none⟩) (Nat.lt_of_lt_of_le hbw hsz1)).trans (hb1.cell (p := ⟨b, off + k, none⟩) hbw)).trans (HC.out k x hx)
        have hlt' : (k : Int) < 15 := by omega
        by_cases h8 : x.size = 8
        · have hb8 : ((x.size : Int) != 8) = false := by simp; omega
          have cd := (hB.cell (p := ⟨g, k, none⟩) hgw).trans (HDC.out k hlt)
          have hd3 := HLE.out k
          have hd3' : (digF l k : Int) ≤ 3 := by omega
          have hwk := walked_at (fun k => 3 - (digF l k : Int)) hx
          have HK := Lib.hid (catL_take hwk)
          have hlk := linkB_size x (stp (3 - (digF l k : Int)))
          have hcs := catL_le ((walked zs fun k => 3 - (digF l k : Int)).take k) 8 (fun y hy => by
            have hyt : y ∈ walked (zs.take k) fun k => 3 - (digF l k : Int) := by
              obtain ⟨i, hi⟩ := List.mem_iff_getElem?.1 hy
              rw [List.getElem?_take] at hi
              split at hi
              · rename_i hik
                refine List.mem_iff_getElem?.2 ⟨i, ?_⟩
                rw [walked_get] at hi ⊢
                rw [List.getElem?_take_of_lt hik]
                exact hi
              · cases hi
            have := walked_mem (m := 8) (fun x hx => by rw [H8K.out x hx]; omega) hyt
            omega)
          rw [List.length_take, walked_length, HBL.out] at hcs
          have hadd : ¬ 9223372036854775807 < (catL ((walked zs fun k => 3 - (digF l k : Int)).take k)).size + (linkB x (stp (3 - (digF l k : Int)))).size := by omega
          have HX := Lib.hid hx
          have HLT := Lib.hid hlt
          have H8 := Lib.hid h8
          clear hx hwk hcs hlt hk h8 hd3 hlk
          generalize catL ((walked zs fun k => 3 - (digF l k : Int)).take k) = cs at *
          generalize digF l k = d at *
          have hwr : IntKind.i64.wrap (3 - (d : Int)) = 3 - (d : Int) := by rw [IntKind.wrap_i64]; omega
          have hszr := hB.size
          have hbwr := Nat.lt_of_lt_of_le hbw (Nat.le_trans hsz1 hszr)
          have hgwr := Nat.lt_of_lt_of_le hgw hszr
          go_wp2_with fail
          refine wp_region_held_drew (S := fun W => Below wr.heap.size wr W) hmx (Below.refl _ wr).drew ?_
          intro hS
          replace c0 : (wr.drew).cell? ⟨b, off + k, none⟩ = some (.string x) := c0
          replace cd : (wr.drew).cell? ⟨g, k, none⟩ = some (.int .i64 (d : Int)) := cd
          replace hbwr : b < (wr.drew).heap.size := hbwr
          replace hgwr : g < (wr.drew).heap.size := hgwr
          replace hszr : w1.heap.size ≤ (wr.drew).heap.size := hszr
          replace hB : Below w1.heap.size w1 wr.drew := hB.drew
          refine wpAnyH_mono (S' := fun W => Below wr.drew.heap.size wr.drew W) (fun W h => (Below.refl _ wr).drew.trans h) _ _ _ _ ?_
          replace hS : Below wr.drew.heap.size wr.drew wr.drew := Below.refl _ _
          generalize wr.drew = w2 at *
          refine' wpAnyH_take (i := 0) (oi := _) (v := _) ?hi0 (by kernel_rfl) (by kernel_rfl) (by kernel_rfl) ?hQ0 (Or.inl ⟨?hw0, ?hy0⟩) hS ?rest0
          case hi0 => simp only [List.getElem?_toArray, List.getElem?_cons_zero]; rfl
          case hQ0 => exact fun _ _ _ h => h
          case hw0 => rfl
          case hy0 => intro W' hS'; go_simp; with_reducible rfl
          try try simp only [Act.put, List.setIfInBounds_toArray, List.set_cons_zero, List.set_cons_succ]
          refine' wpAnyH_take (i := 1) (oi := _) (v := _) ?hi1 (by kernel_rfl) (by kernel_rfl) (by kernel_rfl) ?hQ1 (Or.inl ⟨?hw1, ?hy1⟩) hS ?rest1
          case hi1 => simp only [List.getElem?_toArray, List.getElem?_cons_succ, List.getElem?_cons_zero]; rfl
          case hQ1 => exact fun _ _ _ h => h
          case hw1 => rfl
          case hy1 => intro W' hS'; go_simp; with_reducible rfl
          try try simp only [Act.put, List.setIfInBounds_toArray, List.set_cons_zero, List.set_cons_succ]
          refine' wpAnyH_take (i := 2) (oi := _) (v := _) ?hi2 (by kernel_rfl) (by kernel_rfl) (by kernel_rfl) ?hQ2 (Or.inl ⟨?hw2, ?hy2⟩) hS ?rest2
          case hi2 => simp only [List.getElem?_toArray, List.getElem?_cons_succ, List.getElem?_cons_zero]; rfl
          case hQ2 => exact fun _ _ _ h => h
          case hw2 => rfl
          case hy2 => intro W' hS'; go_simp; with_reducible rfl
          try try simp only [Act.put, List.setIfInBounds_toArray, List.set_cons_zero, List.set_cons_succ]
          refine' wpAnyH_take (i := 3) (oi := _) (v := _) ?hi3 (by kernel_rfl) (by kernel_rfl) (by kernel_rfl) ?hQ3 (Or.inl ⟨?hw3, ?hy3⟩) hS ?rest3
          case hi3 => simp only [List.getElem?_toArray, List.getElem?_cons_succ, List.getElem?_cons_zero]; rfl
          case hQ3 => exact fun _ _ _ h => h
          case hw3 => rfl
          case hy3 => intro W' hS'; go_simp; with_reducible rfl
          try try simp only [Act.put, List.setIfInBounds_toArray, List.set_cons_zero, List.set_cons_succ]
          refine' wpAnyH_take (i := 4) (oi := _) (v := _) ?hi4 (by kernel_rfl) (by kernel_rfl) (by kernel_rfl) ?hQ4 (Or.inl ⟨?hw4, ?hy4⟩) hS ?rest4
          case hi4 => simp only [List.getElem?_toArray, List.getElem?_cons_succ, List.getElem?_cons_zero]; rfl
          case hQ4 => exact fun _ _ _ h => h
          case hw4 => rfl
          case hy4 => intro W' hS'; have cc := (hS'.cell (p := ⟨b, off + k, none⟩) hbwr).trans c0; go_simp; with_reducible rfl
          try try simp only [Act.put, List.setIfInBounds_toArray, List.set_cons_zero, List.set_cons_succ]
          refine' wpAnyH_take (i := 5) (oi := _) (v := _) ?hi5 (by kernel_rfl) (by kernel_rfl) (by kernel_rfl) ?hQ5 (Or.inl ⟨?hw5, ?hy5⟩) hS ?rest5
          case hi5 => simp only [List.getElem?_toArray, List.getElem?_cons_succ, List.getElem?_cons_zero]; rfl
          case hQ5 => exact fun _ _ _ h => h
          case hw5 => rfl
          case hy5 => intro W' hS'; go_simp; with_reducible rfl
          try try simp only [Act.put, List.setIfInBounds_toArray, List.set_cons_zero, List.set_cons_succ]
          refine' wpAnyH_take (i := 6) (oi := _) (v := _) ?hi6 (by kernel_rfl) (by kernel_rfl) (by kernel_rfl) ?hQ6 (Or.inl ⟨?hw6, ?hy6⟩) hS ?rest6
          case hi6 => simp only [List.getElem?_toArray, List.getElem?_cons_succ, List.getElem?_cons_zero]; rfl
          case hQ6 => exact fun _ _ _ h => h
          case hw6 => rfl
          case hy6 => intro W' hS'; go_simp; with_reducible rfl
          try try simp only [Act.put, List.setIfInBounds_toArray, List.set_cons_zero, List.set_cons_succ]
          refine' wpAnyH_take (i := 7) (oi := _) (v := _) ?hi7 (by kernel_rfl) (by kernel_rfl) (by kernel_rfl) ?hQ7 (Or.inl ⟨?hw7, ?hy7⟩) hS ?rest7
          case hi7 => simp only [List.getElem?_toArray, List.getElem?_cons_succ, List.getElem?_cons_zero]; rfl
          case hQ7 => exact fun _ _ _ h => h
          case hw7 => rfl
          case hy7 => intro W' hS'; go_simp; with_reducible rfl
          try try simp only [Act.put, List.setIfInBounds_toArray, List.set_cons_zero, List.set_cons_succ]
          refine' wpAnyH_take (i := 8) (oi := _) (v := _) ?hi8 (by kernel_rfl) (by kernel_rfl) (by kernel_rfl) ?hQ8 (Or.inl ⟨?hw8, ?hy8⟩) hS ?rest8
          case hi8 => simp only [List.getElem?_toArray, List.getElem?_cons_succ, List.getElem?_cons_zero]; rfl
          case hQ8 => exact fun _ _ _ h => h
          case hw8 => rfl
          case hy8 => intro W' hS'; have cc := (hS'.cell (p := ⟨g, k, none⟩) hgwr).trans cd; go_simp; with_reducible rfl
          try try simp only [Act.put, List.setIfInBounds_toArray, List.set_cons_zero, List.set_cons_succ]
          refine' wpAnyH_take (i := 9) (oi := _) (v := _) ?hi9 (by kernel_rfl) (by kernel_rfl) (by kernel_rfl) ?hQ9 (Or.inl ⟨?hw9, ?hy9⟩) hS ?rest9
          case hi9 => simp only [List.getElem?_toArray, List.getElem?_cons_succ, List.getElem?_cons_zero]; rfl
          case hQ9 => exact fun _ _ _ h => h
          case hw9 => rfl
          case hy9 => intro W' hS'; go_simp; with_reducible rfl
          try try simp only [Act.put, List.setIfInBounds_toArray, List.set_cons_zero, List.set_cons_succ]
          refine wpAnyH_ready (rs := [10]) (by kernel_rfl) (by simp) ?_
          refine' AllReadyH.cons (o := _) ?ho10 (fun K hK => ?st10) AllReadyH.nil
          case ho10 => simp only [List.getElem?_toArray, List.getElem?_cons_succ, List.getElem?_cons_zero]; rfl
          go_simp
          refine (refWalk_any x (by have := H8.out; omega) (3 - (d : Int)) _).mono ?_
          rintro e w3 ⟨rfl, hb⟩
          refine hK.out _ _ hb (fun hS2 => ?_)
          clear hK K hS2
          try try simp only [Act.put, List.setIfInBounds_toArray, List.set_cons_zero, List.set_cons_succ]
          refine wpAnyH_mono (S' := fun W => Below w3.heap.size w3 W) (fun W h => chain hb h) _ _ _ _ ?_
          replace hS : Below w3.heap.size w3 w3 := Below.refl _ _
          replace hB := hB.trans (hb.mono hszr)
          clear hb
          refine' wpAnyH_take (i := 11) (oi := _) (v := _) ?hi11 (by kernel_rfl) (by kernel_rfl) (by kernel_rfl) ?hQ11 (Or.inl ⟨?hw11, ?hy11⟩) hS ?rest11
          case hi11 => simp only [List.getElem?_toArray, List.getElem?_cons_succ, List.getElem?_cons_zero]; rfl
          case hQ11 => exact fun _ _ _ h => h
          case hw11 => rfl
          case hy11 => intro W' hS'; go_simp; with_reducible rfl
          try try simp only [Act.put, List.setIfInBounds_toArray, List.set_cons_zero, List.set_cons_succ]
          refine' wpAnyH_take (i := 12) (oi := _) (v := _) ?hi12 (by kernel_rfl) (by kernel_rfl) (by kernel_rfl) ?hQ12 (Or.inl ⟨?hw12, ?hy12⟩) hS ?rest12
          case hi12 => simp only [List.getElem?_toArray, List.getElem?_cons_succ, List.getElem?_cons_zero]; rfl
          case hQ12 => exact fun _ _ _ h => h
          case hw12 => rfl
          case hy12 => intro W' hS'; go_simp; with_reducible rfl
          try try simp only [Act.put, List.setIfInBounds_toArray, List.set_cons_zero, List.set_cons_succ]
          refine wpAnyH_done (by kernel_rfl) ?_ _
          go_wp2_with fail
          go_roundw
          case rel =>
            refine ⟨k + 1, HLT.out, by simp, by rw [HK.out], fun y hy => ?_, hB⟩
            rw [List.take_add_one, HX.out] at hy
            rcases List.mem_append.1 hy with h | h
            · exact H8K.out y h
            · have : y = x := by simpa using h
              rw [this]; exact H8.out
          case measure => have := HLT.out; simp [intOf]; omega
        · have hb8 : ((x.size : Int) != 8) = true := by simp; omega
          have hN := Lib.hid (HNO.out k x hx h8)
          clear hx h8
          go_wp2_with fail
          go_ret
          exact ⟨by rw [hN.out]; rfl, hb1.trans (hB.mono hsz1)⟩
      · obtain rfl : k = 15 := by omega
        have hall : ∀ x ∈ zs, x.size = 8 := fun x hx => H8K.out x (by rw [List.take_of_length_le (by rw [HBL.out]; omega)]; exact hx)
        have hY := Lib.hid (HYES.out hall)
        have hcs := catL_le (walked zs fun k => 3 - (digF l k : Int)) 8 (fun y hy => by have := walked_mem (m := 8) (fun x hx => by rw [hall x hx]; omega) hy; omega)
        rw [walked_length, HBL.out] at hcs
        rw [List.take_of_length_le (by rw [walked_length, HBL.out]; omega)]
        clear hall
        generalize catL (walked zs fun k => 3 - (digF l k : Int)) = cs at *
        go_wp2_with fail
        refine (refShort_any cs (by omega) _).mono ?_
        rintro e w2 ⟨rfl, hb2⟩
        go_wp2_with fail
        go_ret
        exact ⟨by rw [hY.out]; rfl, hb1.trans ((hB.trans (hb2.mono hB.size)).mono hsz1)⟩
  · have hp : Hid (openB l zs = ⟨#[]⟩) := Lib.hid (by
      unfold openB
      rw [if_neg]
      unfold wf
      simp [h15])
    have h15' : ((zs.length : Int) != 15) = true := by simp; omega
    clear h15
    go_enter Tryz.func61, Tryz.ntmps61
    go_wp2_with fail
    go_ret
    exact ⟨by rw [hp.out]; rfl, Below.refl _ _⟩
end Go.Proofs.YtiibeahgleaonaaGreat
