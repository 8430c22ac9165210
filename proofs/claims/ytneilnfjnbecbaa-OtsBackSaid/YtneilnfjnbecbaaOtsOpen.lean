/-
  ots.Public, ots.Sign, ots.Open.
-/
import Derived.Test.YtneilnfjnbecbaaWalkAll
import Derived.Test.YtneilnfjnbecbaaJoin
import Derived.Test.YtneilnfjnbecbaaOtsSmall
import Derived.Outline
namespace Go.Proofs.Ytneilnfjnbecbaa
open Go.RowKit Go.Shelf

theorem begs_mem {s : ByteArray} {f : Nat} {x : ByteArray} (h : x ∈ begs s f) : x.size = 8 := by
  obtain ⟨j, _, rfl⟩ := List.mem_map.1 h
  exact shortB_size _
theorem walked_mem {zs : List ByteArray} {d : Nat → Int} {m : Nat} (hz : ∀ x ∈ zs, x.size ≤ m) {y : ByteArray} (h : y ∈ walked zs d) : y.size ≤ max m 8 := by
  unfold walked at h
  obtain ⟨i, hi, rfl⟩ := List.mem_mapIdx.1 h
  have := linkB_size zs[i] (stp (d i))
  have := hz zs[i] (List.getElem_mem hi)
  omega
/-- What a leaf's signatures open to. -/
def publicB (s : ByteArray) (f : Nat) : ByteArray := joinB (walked (begs s f) fun _ => 3)
/-- A text's signature. -/
def signL (s : ByteArray) (f : Nat) (l : List UInt8) : List ByteArray := walked (begs s f) fun k => (digF l k : Int)
/-- What parts open to. -/
def openB (l : List UInt8) (zs : List ByteArray) : ByteArray := if wf zs = true then joinB (walked zs fun k => 3 - (digF l k : Int)) else ⟨#[]⟩

set_option maxRecDepth 100000 in
set_option maxHeartbeats 2000000 in
theorem public_any (s : ByteArray) (hs : s.size ≤ 140737488352000) (z : Int) (w : World) :
    Calls Try.prog 16 #[.string s, .int .i64 z] w fun e W' => e = .returned (.string (publicB s (lfN z))) ∧ Below w.heap.size w W' := by
  have hp : Hid (publicB s (lfN z) = joinB (walked (begs s (lfN z)) fun _ => 3)) := Lib.hid rfl
  go_enter Try.func16, Try.ntmps16
  go_wp2_with fail
  refine (begin_any s hs z _).mono ?_
  rintro e w1 ⟨v1, rfl, hown1, hb1⟩
  have hbl := begs_length s (lfN z)
  have hV1 := VSl.of_own (vs := (begs s (lfN z)).map tv) (by rw [List.length_map, hbl]; exact hown1)
  obtain ⟨g1, c1, rfl⟩ := ownsRow_succ hown1
  have hm : ∀ x ∈ begs s (lfN z), x.size ≤ 8 := fun x hx => by rw [begs_mem hx]; omega
  have HM := Lib.hid hm
  have HBL := Lib.hid hbl
  clear hm hbl hown1
  generalize begs s (lfN z) = bs at *
  go_wp2_with fail
  refine (walkAll_any bs (by have := HBL.out; omega) (fun x hx => by have := HM.out x hx; omega) (fun _ => 3) _ _ (hV1.mono (Nat.zero_le _) (Nat.le_refl _)) 34 #[] (enters_of Try.func34 (by kernel_rfl) rfl) (fun k W _ _ => (toEnd_any (k : Int) W).mono fun e W' ⟨he, hw⟩ => ⟨he, by rw [hw]; exact Below.refl _ _⟩)).mono ?_
  rintro e w2 ⟨v2, rfl, hown2, hb2⟩
  have hV2 := VSl.of_own (vs := (walked bs fun _ => 3).map tv) (by rw [List.length_map, walked_length]; exact hown2)
  obtain ⟨a2, c2, rfl⟩ := ownsRow_slice hown2
  go_wp2_with fail
  refine (join_any (walked bs fun _ => 3) (by rw [walked_length, HBL.out]; omega) (fun x hx => by have := walked_mem HM.out hx; omega) _ _ (hV2.mono (Nat.zero_le _) (Nat.le_refl _))).mono ?_
  rintro e w3 ⟨rfl, hb3⟩
  go_wp2_with fail
  go_ret
  exact ⟨by rw [hp.out]; rfl, chain (chain hb1 hb2) hb3⟩

set_option maxRecDepth 100000 in
set_option maxHeartbeats 2000000 in
theorem sign_any (s : ByteArray) (hs : s.size ≤ 140737488352000) (z : Int) (l : List UInt8) (tx : Value) (w : World) (hreach : l.length ≤ 140737488353000) (htx : BSl 0 w.heap.size w tx l) :
    Calls Try.prog 18 #[.string s, .int .i64 z, tx] w (RowW w.heap.size 9 15 ((signL s (lfN z) l).map tv) w) := by
  have hp : Hid (signL s (lfN z) l = walked (begs s (lfN z)) fun k => (digF l k : Int)) := Lib.hid rfl
  have htx0 := htx
  obtain ⟨ta, tc, rfl⟩ := bsl_slice htx
  clear htx
  go_enter Try.func18, Try.ntmps18
  go_wp2_with fail
  refine (digitsOf_any l _ _ hreach htx0).mono ?_
  rintro e w1 ⟨v1, rfl, hown1, hb1⟩
  obtain ⟨g, c, rfl, hgw, hcap, hcell⟩ := digRow hown1
  have HC := Lib.hid hcell
  clear hown1 hcell htx0
  go_wp2_with fail
  generalize hW2 : World.alloc _ _ = w2
  have kb : Boxed w2 w1.heap.size 25 (.slice (some ⟨g, 0, none⟩) 15 c) := by rw [← hW2]; exact Boxed.new _ _ _
  have hb2 : Below w1.heap.size w1 w2 := by rw [← hW2]; exact chain0 _ _
  clear hW2
  refine (begin_any s hs z _).mono ?_
  rintro e w3 ⟨v3, rfl, hown3, hb3⟩
  have hbl := begs_length s (lfN z)
  have hV3 := VSl.of_own (vs := (begs s (lfN z)).map tv) (by rw [List.length_map, hbl]; exact hown3)
  obtain ⟨g3, c3, rfl⟩ := ownsRow_succ hown3
  have hm : ∀ x ∈ begs s (lfN z), x.size ≤ 8 := fun x hx => by rw [begs_mem hx]; omega
  have HM := Lib.hid hm
  have HBL := Lib.hid hbl
  clear hm hbl hown3
  generalize begs s (lfN z) = bs at *
  go_wp2_with fail
  refine (walkAll_any bs (by have := HBL.out; omega) (fun x hx => by have := HM.out x hx; omega) (fun k => (digF l k : Int)) _ _ (hV3.mono (Nat.zero_le _) (Nat.le_refl _)) 37 #[.pointer (some ⟨w1.heap.size, 0, none⟩)] (enters_of Try.func37 (by kernel_rfl) rfl) (fun k W hk hW => by
    have hk15 : k < 15 := by have := HBL.out; omega
    have hb1W : Below w2.heap.size w2 W := chain hb3 hW
    exact (signAt_any k (digF l k) hk15 g c w1.heap.size W ((hb1W.block _ kb.lt).trans kb) ((hb1W.cell (p := ⟨g, k, none⟩) (Nat.lt_of_lt_of_le hgw hb2.size)).trans ((hb2.cell (p := ⟨g, k, none⟩) hgw).trans (HC.out k hk15)))).mono fun e W' ⟨he, hw⟩ => ⟨he, by rw [hw]; exact Below.refl _ _⟩)).mono ?_
  rintro e w4 ⟨v4, rfl, hown4, hb4⟩
  obtain ⟨a4, c4, rfl⟩ := ownsRow_slice hown4
  rw [HBL.out] at hown4
  have hb14 : Below w.heap.size w w3 := chain (chain hb1 hb2) hb3
  go_wp2_with fail
  rw [HBL.out]
  go_ret
  exact ⟨_, rfl, by rw [hp.out]; exact own_base hown4 hb14.size, chain hb14 hb4⟩

set_option maxRecDepth 100000 in
set_option maxHeartbeats 2000000 in
theorem open_any (l : List UInt8) (tx : Value) (zs : List ByteArray) (sv : Value) (w : World) (hreach : l.length ≤ 140737488353000) (hz : ∀ x ∈ zs, x.size ≤ 9223372036854775807) (htx : BSl 0 w.heap.size w tx l) (hsv : VSl 0 w.heap.size w sv (zs.map tv)) :
    Calls Try.prog 20 #[tx, sv] w fun e W' => e = .returned (.string (openB l zs)) ∧ Below w.heap.size w W' := by
  have hsv0 := hsv
  obtain ⟨sa, sc, rfl⟩ := hsv.slice
  have htx0 := htx
  obtain ⟨ta, tc, rfl⟩ := bsl_slice htx
  rw [List.length_map] at hsv0 ⊢
  clear htx hsv
  cases hwf : wf zs with
  | false =>
    have hp : Hid (openB l zs = ⟨#[]⟩) := Lib.hid (by unfold openB; rw [if_neg (by rw [hwf]; decide)])
    have HW := Lib.hid hwf
    clear hwf
    go_enter Try.func20, Try.ntmps20
    go_wp2_with fail
    refine (wellFormed_any zs hz _ _ hsv0).mono ?_
    rintro e w1 ⟨rfl, rfl⟩
    rw [HW.out]
    go_wp2_with fail
    go_ret
    exact ⟨by rw [hp.out]; rfl, Below.refl _ _⟩
  | true =>
    have hp : Hid (openB l zs = joinB (walked zs fun k => 3 - (digF l k : Int))) := Lib.hid (by unfold openB; rw [if_pos hwf])
    have h15 : zs.length = 15 := by unfold wf at hwf; simp at hwf; exact hwf.1
    have h8 : ∀ x ∈ zs, x.size ≤ 8 := fun x hx => by unfold wf at hwf; simp at hwf; have := hwf.2 x hx; omega
    have HW := Lib.hid hwf
    have HBL := Lib.hid h15
    have HM := Lib.hid h8
    have hle := digF_le l
    have HLE := Lib.hid hle
    clear hwf h15 h8 hle
    go_enter Try.func20, Try.ntmps20
    go_wp2_with fail
    refine (wellFormed_any zs hz _ _ hsv0).mono ?_
    rintro e w0 ⟨rfl, rfl⟩
    rw [HW.out]
    go_wp2_with fail
    refine (digitsOf_any l _ _ hreach htx0).mono ?_
    rintro e w1 ⟨v1, rfl, hown1, hb1⟩
    obtain ⟨g, c, rfl, hgw, hcap, hcell⟩ := digRow hown1
    have HC := Lib.hid hcell
    clear hown1 hcell htx0
    go_wp2_with fail
    generalize hW2 : World.alloc _ _ = w2
    have kb : Boxed w2 w1.heap.size 25 (.slice (some ⟨g, 0, none⟩) 15 c) := by rw [← hW2]; exact Boxed.new _ _ _
    have hb2 : Below w1.heap.size w1 w2 := by rw [← hW2]; exact chain0 _ _
    clear hW2
    have hb12 : Below w.heap.size w w2 := chain hb1 hb2
    refine (walkAll_any zs (by have := HBL.out; omega) (fun x hx => by have := HM.out x hx; omega) (fun k => 3 - (digF l k : Int)) _ _ ((hsv0.below hb12 (Nat.le_refl _)).mono (Nat.le_refl _) hb12.size) 39 #[.pointer (some ⟨w1.heap.size, 0, none⟩)] (enters_of Try.func39 (by kernel_rfl) rfl) (fun k W hk hW => by
      have hk15 : k < 15 := by have := HBL.out; omega
      exact (openAt_any k (digF l k) hk15 (HLE.out k) g c w1.heap.size W ((hW.block _ kb.lt).trans kb) ((hW.cell (p := ⟨g, k, none⟩) (Nat.lt_of_lt_of_le hgw hb2.size)).trans ((hb2.cell (p := ⟨g, k, none⟩) hgw).trans (HC.out k hk15)))).mono fun e W' ⟨he, hw⟩ => ⟨he, by rw [hw]; exact Below.refl _ _⟩)).mono ?_
    rintro e w3 ⟨v3, rfl, hown3, hb3⟩
    have hV3 := VSl.of_own (vs := (walked zs fun k => 3 - (digF l k : Int)).map tv) (by rw [List.length_map, walked_length]; exact hown3)
    obtain ⟨a3, c3, rfl⟩ := ownsRow_slice hown3
    go_wp2_with fail
    refine (join_any (walked zs fun k => 3 - (digF l k : Int)) (by rw [walked_length, HBL.out]; omega) (fun x hx => by have := walked_mem HM.out hx; omega) _ _ (hV3.mono (Nat.zero_le _) (Nat.le_refl _))).mono ?_
    rintro e w4 ⟨rfl, hb4⟩
    go_wp2_with fail
    go_ret
    exact ⟨by rw [hp.out]; rfl, chain (chain hb12 hb3) hb4⟩
end Go.Proofs.Ytneilnfjnbecbaa
