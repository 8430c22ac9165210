/-
  ots.Public, ots.Sign, ots.Open; mss: a node of a key's tree; join; a key's lowest row; mss: the row above; the root; mss: Leaf; what stands behind the leaf; the climb; mss: the root; the path; The reference's Sum; The reference's Short, Walk, Digits; What is signed opens to the public one: the plain side; The reference's Public, Parts, Open; mss.Verify
-/
import Derived.Outline
import Derived.Deep.AppendLies
import Derived.OneCell
import Derived.Test.YtbhfajnejibaoaaGreatK10
namespace Go.Proofs.YtbhfajnejibaoaaGreat
open Go.RowKit Go.Shelf
theorem begs_mem {s : ByteArray} {f : Nat} {x : ByteArray} (h : x ∈ begs s f) : x.size = 8 := by
  obtain ⟨j, _, rfl⟩ := List.mem_map.1 h
  exact shortB_size _
theorem walked_mem {zs : List ByteArray} {d : Nat → Int} {m : Nat} (hz : ∀ x ∈ zs, x.size ≤ m) {y : ByteArray} (h : y ∈ walked zs d) : y.size ≤ max m 8 := by
  unfold walked at h
  obtain ⟨i, hi, rfl⟩ := List.mem_mapIdx.1 h
  have := linkB_size zs[i] (stp (d i))
  have := hz zs[i] (List.getElem_mem hi)
  omega
def publicB (s : ByteArray) (f : Nat) : ByteArray := joinB (walked (begs s f) fun _ => 3)
def openB (l : List UInt8) (zs : List ByteArray) : ByteArray := if wf zs = true then joinB (walked zs fun k => 3 - (digF l k : Int)) else ⟨#[]⟩
set_option maxRecDepth 100000 in
set_option maxHeartbeats 2000000 in
theorem public_any (s : ByteArray) (hs : s.size ≤ 140737488352000) (z : Int) (w : World) :
    Calls Tryz.prog 40 #[.string s, .int .i64 z] w fun e W' => e = .returned (.string (publicB s (lfN z))) ∧ Below w.heap.size w W' := by
  have hp : Hid (publicB s (lfN z) = joinB (walked (begs s (lfN z)) fun _ => 3)) := Lib.hid rfl
  go_enter Tryz.func40, Tryz.ntmps40
  go_wp2_with fail
  refine (begin_any s hs z _).mono ?_
  rintro e w1 ⟨v1, rfl, hown1, hb1⟩
  have hbl := begs_length s (lfN z)
  have hV1 := VSl.of_own (vs := (begs s (lfN z)).map tv) (by rw [List.length_map, hbl]; exact hown1)
  obtain ⟨g1, c1, rfl⟩ := ownsRow_succ hown1
  have hm : ∀ x ∈ begs s (lfN z), x.size ≤ 8 := fun x hx => by rw [begs_mem hx]; omega
  have HM := Lib.hid hm
  have HBL := Lib.hid hbl
  clear hm hbl hown1
  generalize begs s (lfN z) = bs at *
  go_wp2_with fail
  refine (walkAll_any bs (by have := HBL.out; omega) (fun x hx => by have := HM.out x hx; omega) (fun _ => 3) _ _ (hV1.mono (Nat.zero_le _) (Nat.le_refl _)) 58 #[] (enters_of Tryz.func58 (by kernel_rfl) rfl) (fun k W _ _ => (toEnd_any (k : Int) W).mono fun e W' ⟨he, hw⟩ => ⟨he, by rw [hw]; exact Below.refl _ _⟩)).mono ?_
  rintro e w2 ⟨v2, rfl, hown2, hb2⟩
  have hV2 := VSl.of_own (vs := (walked bs fun _ => 3).map tv) (by rw [List.length_map, walked_length]; exact hown2)
  obtain ⟨a2, c2, rfl⟩ := ownsRow_slice hown2
  go_wp2_with fail
  refine (join_any (walked bs fun _ => 3) (by rw [walked_length, HBL.out]; omega) (fun x hx => by have := walked_mem HM.out hx; omega) _ _ (hV2.mono (Nat.zero_le _) (Nat.le_refl _))).mono ?_
  rintro e w3 ⟨rfl, hb3⟩
  go_wp2_with fail
  go_ret
  exact ⟨by rw [hp.out]; rfl, chain (chain hb1 hb2) hb3⟩
set_option maxRecDepth 100000 in
set_option maxHeartbeats 2000000 in
theorem open_any (l : List UInt8) (tx : Value) (zs : List ByteArray) (sv : Value) (w : World) (hreach : l.length ≤ 140737488353000) (hz : ∀ x ∈ zs, x.size ≤ 9223372036854775807) (htx : BSl 0 w.heap.size w tx l) (hsv : VSl 0 w.heap.size w sv (zs.map tv)) :
    Calls Tryz.prog 74 #[tx, sv] w fun e W' => e = .returned (.string (openB l zs)) ∧ Below w.heap.size w W' := by
  have hsv0 := hsv
  obtain ⟨sa, sc, rfl⟩ := hsv.slice
  have htx0 := htx
  obtain ⟨ta, tc, rfl⟩ := bsl_slice htx
  rw [List.length_map] at hsv0 ⊢
  clear htx hsv
  cases hwf : wf zs with
  | false =>
    have hp : Hid (openB l zs = ⟨#[]⟩) := Lib.hid (by unfold openB; rw [if_neg (by rw [hwf]; decide)])
    have HW := Lib.hid hwf
    clear hwf
    go_enter Tryz.func74, Tryz.ntmps74
    go_wp2_with fail
    refine (wellFormed_any zs hz _ _ hsv0).mono ?_
    rintro e w1 ⟨rfl, rfl⟩
    rw [HW.out]
    go_wp2_with fail
    go_ret
    exact ⟨by rw [hp.out]; rfl, Below.refl _ _⟩
  | true =>
    have hp : Hid (openB l zs = joinB (walked zs fun k => 3 - (digF l k : Int))) := Lib.hid (by unfold openB; rw [if_pos hwf])
    have h15 : zs.length = 15 := by unfold wf at hwf; simp at hwf; exact hwf.1
    have h8 : ∀ x ∈ zs, x.size ≤ 8 := fun x hx => by unfold wf at hwf; simp at hwf; have := hwf.2 x hx; omega
    have HW := Lib.hid hwf
    have HBL := Lib.hid h15
    have HM := Lib.hid h8
    have hle := digF_le l
    have HLE := Lib.hid hle
    clear hwf h15 h8 hle
    go_enter Tryz.func74, Tryz.ntmps74
    go_wp2_with fail
    refine (wellFormed_any zs hz _ _ hsv0).mono ?_
    rintro e w0 ⟨rfl, rfl⟩
    rw [HW.out]
    go_wp2_with fail
    refine (digitsOf_any l _ _ hreach htx0).mono ?_
    rintro e w1 ⟨v1, rfl, hown1, hb1⟩
    obtain ⟨g, c, rfl, hgw, hcap, hcell⟩ := digRow hown1
    have HC := Lib.hid hcell
    clear hown1 hcell htx0
    go_wp2_with fail
    generalize hW2 : World.alloc _ _ = w2
    have kb : Boxed w2 w1.heap.size 108 (.slice (some ⟨g, 0, none⟩) 15 c) := by rw [← hW2]; exact Boxed.new _ _ _
    have hb2 : Below w1.heap.size w1 w2 := by rw [← hW2]; exact chain0 _ _
    clear hW2
    have hb12 : Below w.heap.size w w2 := chain hb1 hb2
    refine (walkAll_any zs (by have := HBL.out; omega) (fun x hx => by have := HM.out x hx; omega) (fun k => 3 - (digF l k : Int)) _ _ ((hsv0.below hb12 (Nat.le_refl _)).mono (Nat.le_refl _) hb12.size) 94 #[.pointer (some ⟨w1.heap.size, 0, none⟩)] (enters_of Tryz.func94 (by kernel_rfl) rfl) (fun k W hk hW => by
      have hk15 : k < 15 := by have := HBL.out; omega
      exact (openAt_any k (digF l k) hk15 (HLE.out k) g c w1.heap.size W ((hW.block _ kb.lt).trans kb) ((hW.cell (p := ⟨g, k, none⟩) (Nat.lt_of_lt_of_le hgw hb2.size)).trans ((hb2.cell (p := ⟨g, k, none⟩) hgw).trans (HC.out k hk15)))).mono fun e W' ⟨he, hw⟩ => ⟨he, by rw [hw]; exact Below.refl _ _⟩)).mono ?_
    rintro e w3 ⟨v3, rfl, hown3, hb3⟩
    have hV3 := VSl.of_own (vs := (walked zs fun k => 3 - (digF l k : Int)).map tv) (by rw [List.length_map, walked_length]; exact hown3)
    obtain ⟨a3, c3, rfl⟩ := ownsRow_slice hown3
    go_wp2_with fail
    refine (join_any (walked zs fun k => 3 - (digF l k : Int)) (by rw [walked_length, HBL.out]; omega) (fun x hx => by have := walked_mem HM.out hx; omega) _ _ (hV3.mono (Nat.zero_le _) (Nat.le_refl _))).mono ?_
    rintro e w4 ⟨rfl, hb4⟩
    go_wp2_with fail
    go_ret
    exact ⟨by rw [hp.out]; rfl, chain (chain hb12 hb3) hb4⟩
end Go.Proofs.YtbhfajnejibaoaaGreat
namespace Go.Proofs.YtbhfajnejibaoaaGreat
open Go.RowKit Go.Shelf
def joinM (a b : ByteArray) : ByteArray := shortB (a.data.toList ++ b.data.toList)
theorem joinM_size (a b : ByteArray) : (joinM a b).size = 8 := shortB_size _
theorem publicB_size (s : ByteArray) (f : Nat) : (publicB s f).size = 8 := shortB_size _
def nodeB (s : ByteArray) : Nat → Nat → ByteArray
  | 0, i => publicB s i
  | h + 1, i => joinM (nodeB s h (2 * i)) (nodeB s h (2 * i + 1))
theorem nodeB_size (s : ByteArray) (h i : Nat) : (nodeB s h i).size = 8 := by
  cases h with
  | zero => exact publicB_size s i
  | succ h => exact joinM_size _ _
def cnt (h : Nat) : Nat := 2 ^ (3 - h)
theorem cnt_succ {h : Nat} (hh : h < 3) : cnt h = 2 * cnt (h + 1) := by
  have : h = 0 ∨ h = 1 ∨ h = 2 := by omega
  rcases this with rfl | rfl | rfl <;> rfl
theorem cnt_le (h : Nat) : cnt h ≤ 8 := by
  have h1 : 2 ^ (3 - h) ≤ 2 ^ 3 := Nat.pow_le_pow_right (by omega) (by omega)
  exact h1
theorem short_two (W : World) (v1 v2 : Value) (l1 l2 : List UInt8) (h1 : BSl 0 W.heap.size W v1 l1) (h2 : BSl 0 W.heap.size W v2 l2) (hl : l1.length + l2.length ≤ 140737488353000) :
    Calls Tryz.prog 62 #[.slice (some ⟨W.heap.size, 0, none⟩) 2 2] (W.alloc (.cells #[v1, v2] 58)) fun e W' => e = .returned (.string (shortB (l1 ++ l2))) ∧ Below W.heap.size W W' := by
  have hb : Below W.heap.size W (W.alloc (.cells #[v1, v2] 58)) := chain0 _ _
  have up : ∀ {v : Value} {l : List UInt8}, BSl 0 W.heap.size W v l → BSl 0 (W.alloc (.cells #[v1, v2] 58)).heap.size (W.alloc (.cells #[v1, v2] 58)) v l := fun h => (h.below hb (Nat.le_refl _)).mono (Nat.le_refl _) hb.size
  have hs := short_of (W.alloc (.cells #[v1, v2] 58)) (.slice (some ⟨W.heap.size, 0, none⟩) 2 2) [(v1, l1), (v2, l2)] (by simp) (fun p hp => by
    simp only [List.mem_cons, List.not_mem_nil, or_false] at hp
    rcases hp with rfl | rfl
    · exact ⟨up h1, by show l1.length ≤ _; omega⟩
    · exact ⟨up h2, by show l2.length ≤ _; omega⟩) (by simp; omega) ⟨_, 2, rfl, Nat.le_refl _, .inr ⟨_, 0, rfl, Nat.zero_le _, by simp, fun k x hx => by
      have hB : Blk (W.alloc (.cells #[v1, v2] 58)) W.heap.size 58 [v1, v2] := Blk.new W _ [v1, v2]
      rw [Nat.zero_add, hB.cell]
      exact hx⟩⟩
  refine hs.mono fun e W' ⟨he, hb2⟩ => ⟨?_, chain hb hb2⟩
  rw [he]
  simp
set_option maxRecDepth 100000 in
set_option maxHeartbeats 2000000 in
theorem joinM_any (a b : ByteArray) (hs : a.size + b.size ≤ 140737488353000) (w : World) :
    Calls Tryz.prog 41 #[.string a, .string b] w fun e W' => e = .returned (.string (joinM a b)) ∧ Below w.heap.size w W' := by
  obtain ⟨c1, W1, hcv1, hb1, hz1, ht1⟩ := conv_txt w a
  obtain ⟨c2, W2, hcv2, hb2, hz2, ht2⟩ := conv_txt W1 b
  have h1 := (ht1.below hb2).bsl.mono (Nat.zero_le _) (Nat.le_refl _)
  have h2 := ht2.bsl.mono (Nat.zero_le _) (Nat.le_refl _)
  have hp : Hid (joinM a b = shortB (a.data.toList ++ b.data.toList)) := Lib.hid rfl
  have HS := Lib.hid (show a.data.toList.length + b.data.toList.length ≤ 140737488353000 from hs)
  clear hz1 hz2 ht1 ht2 hs
  go_enter Tryz.func41, Tryz.ntmps41
  go_wp2_with fail
  refine (short_two _ _ _ _ _ h1 h2 HS.out).mono ?_
  rintro e w3 ⟨rfl, hb3⟩
  go_wp2_with fail
  go_ret
  exact ⟨by rw [hp.out]; rfl, chain (chain hb1 hb2) hb3⟩
theorem cell_new1 (w : World) (t : TypeId) (v : Value) : ∀ (j : Nat) (u : Value), [v][j]? = some u → (w.alloc (.cells #[v] t)).cell? ((⟨w.heap.size, 0, none⟩ : Addr).add j) = some u := fun j u hu => by
  have hp : (⟨w.heap.size, 0, none⟩ : Addr).add j = ⟨w.heap.size, j, none⟩ := by cases j <;> simp [Addr.add]
  rw [hp, (Blk.new w t [v]).cell]
  exact hu
theorem upto_snoc {α : Type} (f : Nat → ByteArray) (k : Nat) (g : ByteArray → α) : (upto f (k + 1)).map g = (upto f k).map g ++ [g (f k)] := by rw [upto_succ, List.map_append]; rfl
set_option maxRecDepth 100000 in
set_option maxHeartbeats 2000000 in
theorem lowest_any (s : ByteArray) (hs : s.size ≤ 140737488352000) (w : World) :
    Calls Tryz.prog 18 #[.string s] w (RowW w.heap.size 9 8 ((upto (nodeB s 0) 8).map tv) w) := by
  obtain ⟨i0, hi, hz0, hz1, hz2⟩ := info_parts Tryz.infoStr
  go_enter Tryz.func18, Tryz.ntmps18
  go_wp2
  go_loopw [3, 5] (fun v i wr => ∃ k : Nat, k ≤ 8 ∧ i = .int .i64 (k : Nat) ∧ wr.ownsRow w.heap.size 9 1 v k ((upto (nodeB s 0) k).map tv) ∧ Below w.heap.size w wr) (fun _ i _ => 8 - (intOf i).toNat)
  case atStart => exact ⟨0, by omega, rfl, World.ownsRow_nil _ _ _ _, Below.refl _ _⟩
  case round =>
    obtain ⟨k, hk, rfl, hown, hB⟩ := hrel
    obtain ⟨va, vc, rfl⟩ := ownsRow_slice hown
    by_cases hlt : k < 8
    · have HT := Lib.hid (upto_snoc (nodeB s 0) k tv)
      have hf : lfN (k : Int) = k := by have := lfN_cases (k : Int); omega
      have HF : Hid (nodeB s 0 k = publicB s (lfN (k : Int))) := Lib.hid (by rw [hf]; rfl)
      have hlt' : (k : Int) < 8 := by omega
      have HLT := Lib.hid hlt
      clear hlt hk hf
      generalize (upto (nodeB s 0) k).map tv = ts at *
      go_wp2_with fail
      refine (public_any s hs (k : Int) _).mono ?_
      rw [← HF.out]
      rintro e w2 ⟨rfl, hb2⟩
      have hown2 := own_below hown hb2
      have hB2 := hB.trans (hb2.mono hB.size)
      have hNW := hB2.size
      generalize nodeB s 0 k = x at *
      clear hown hB hb2
      go_wp2_with (at_builtin; refine wpList_append_own _ rfl _ _ 26 rfl w.heap.size 9 i0 (.string ⟨#[]⟩) 1 16 Tryz.underlying26 hi hz0 hz1 hz2 rfl (by decide) (.slice va k vc) k ts rfl (hown2.alloc _) ⟨w2.heap.size, 0, none⟩ 1 1 [tv x] rfl rfl (cell_new1 _ _ _) (by simp [Value.oneCell']) (by have := HLT.out; unfold maxLen; omega) (by have := HLT.out; omega) (by simp; omega) ?_; intro v' w3 hown' hgrow _; obtain ⟨g2, c2, rfl⟩ := ownsRow_succ hown')
      have hB3 : Below w.heap.size w w3 := (hB2.alloc hNW _).grown hgrow (Nat.le_trans hNW (by simp)) (fun j hj => (World.ownsRow.lt hown2 j hj).1)
      go_roundw
      case rel => exact ⟨k + 1, HLT.out, by simp, by rw [HT.out]; exact hown', hB3⟩
      case measure => have := HLT.out; simp [intOf]; omega
    · obtain rfl : k = 8 := by omega
      go_wp2
      go_ret
      exact ⟨_, rfl, hown, hB⟩
end Go.Proofs.YtbhfajnejibaoaaGreat
namespace Go.Proofs.YtbhfajnejibaoaaGreat
open Go.RowKit Go.Shelf
theorem upto_at (f : Nat → ByteArray) {n k : Nat} (h : k < n) : ((upto f n).map tv)[k]? = some (.string (f k)) := by
  unfold upto
  rw [List.getElem?_map, List.getElem?_map, List.getElem?_range h]
  rfl
theorem upto_row {lo hi : Nat} {W : World} {f : Nat → ByteArray} {n : Nat} {a : Option Addr} {len cap : Nat} (h : VSl lo hi W (.slice a len cap) ((upto f n).map tv)) (hn : 0 < n) :
    len = n ∧ ∃ b off, a = some ⟨b, off, none⟩ ∧ b < hi ∧ ∀ k, k < n → W.cell? ⟨b, off + k, none⟩ = some (.string (f k)) := by
  obtain ⟨a', c', e, hc, h0⟩ := h
  have hl : ((upto f n).map tv).length = n := by rw [List.length_map, upto_length]
  cases e
  refine ⟨hl, ?_⟩
  rcases h0 with h0 | ⟨b, off, ha, _, hb, hr⟩
  · rw [h0] at hl
    simp at hl
    omega
  · exact ⟨b, off, ha, hb, fun k hk => hr k _ (upto_at f hk)⟩
def overF (f : Nat → ByteArray) (k : Nat) : ByteArray := joinM (f (2 * k)) (f (2 * k + 1))
set_option maxRecDepth 100000 in
set_option maxHeartbeats 8000000 in
theorem above_any (f : Nat → ByteArray) (hf : ∀ i, (f i).size ≤ 1000) (n : Nat) (h0 : 0 < n) (hn : n ≤ 1000) (a : Option Addr) (len cap : Nat) (w : World) (hsv : VSl 0 w.heap.size w (.slice a len cap) ((upto f (2 * n)).map tv)) :
    Calls Tryz.prog 19 #[.slice a len cap] w (RowW w.heap.size 9 n ((upto (overF f) n).map tv) w) := by
  have hmx : Tryz.prog.follows .mixedOrders = true := by kernel_rfl
  obtain ⟨i0, hi, hz0, hz1, hz2⟩ := info_parts Tryz.infoStr
  obtain ⟨rfl, b, off, rfl, hbw, hcell⟩ := upto_row hsv (by omega)
  have HC := Lib.hid hcell
  have HF := Lib.hid hf
  clear hcell hf hsv
  have hdiv : ((2 * n : Nat) : Int) / 2 = (n : Int) := by omega
  generalize hL : 2 * n = L at *
  have HL := Lib.hid hL
  have hL2 : L ≤ 2000 := by omega
  clear hL
  go_enter Tryz.func19, Tryz.ntmps19
  go_wp2
  clear hdiv
  go_loopw [3, 8] (fun v i wr => ∃ k : Nat, k ≤ n ∧ i = .int .i64 (k : Nat) ∧ wr.ownsRow w.heap.size 9 1 v k ((upto (overF f) k).map tv) ∧ Below w.heap.size w wr) (fun _ i _ => n - (intOf i).toNat)
  case atStart => exact ⟨0, by omega, rfl, World.ownsRow_nil _ _ _ _, Below.refl _ _⟩
  case round =>
    obtain ⟨k, hk, rfl, hown, hB⟩ := hrel
    obtain ⟨va, vc, rfl⟩ := ownsRow_slice hown
    by_cases hlt : k < n
    · have HT := Lib.hid (upto_snoc (overF f) k tv)
      have c0 := HC.out (2 * k) (by have := HL.out; omega)
      have c1 := HC.out (2 * k + 1) (by have := HL.out; omega)
      have s0 := HF.out (2 * k)
      have s1 := HF.out (2 * k + 1)
      have HO : Hid (overF f k = joinM (f (2 * k)) (f (2 * k + 1))) := Lib.hid rfl
      have hlt' : (k : Int) < (n : Int) := by omega
      have HLT := Lib.hid hlt
      have e0 : IntKind.i64.wrap (2 * (k : Int)) = ((2 * k : Nat) : Int) := by rw [IntKind.wrap_i64]; omega
      have e1 : IntKind.i64.wrap (((2 * k : Nat) : Int) + 1) = ((2 * k + 1 : Nat) : Int) := by rw [IntKind.wrap_i64]; omega
      have i1 : 2 * k < L := by have := HL.out; omega
      have i2 : 2 * k + 1 < L := by have := HL.out; omega
      clear hlt hk
      generalize (upto (overF f) k).map tv = ts at *
      generalize f (2 * k) = x at *
      generalize f (2 * k + 1) = y at *
      generalize hp0 : 2 * k + 1 = q1 at *
      generalize hp1 : 2 * k = q0 at *
      have HP0 := Lib.hid hp0
      clear hp0 hp1
      go_wp2_with fail
      refine wp_region_held_drew (S := fun W => Below w.heap.size w W) hmx hB.drew ?_
      intro hS
      have hWd : Below wr.heap.size wr wr.drew := (Below.refl _ wr).drew
      replace hown : wr.drew.ownsRow w.heap.size 9 1 (.slice va k vc) k ts := hown
      generalize wr.drew = Y at *
      refine' wpAnyH_take (i := 0) (oi := _) (v := _) ?hi1 (by kernel_rfl) (by kernel_rfl) (by kernel_rfl) ?hQ1 (Or.inl ⟨?hw1, ?hy1⟩) hS ?rest1
      case hi1 => simp only [List.getElem?_toArray, List.getElem?_cons_zero]; rfl
      case hQ1 => exact fun _ _ _ h => h
      case hw1 => rfl
      case hy1 => intro W' hS'; go_simp; with_reducible rfl
      try simp only [Act.put, List.setIfInBounds_toArray, List.set_cons_zero, List.set_cons_succ]
      refine' wpAnyH_take (i := 1) (oi := _) (v := _) ?hi2 (by kernel_rfl) (by kernel_rfl) (by kernel_rfl) ?hQ2 (Or.inl ⟨?hw2, ?hy2⟩) hS ?rest2
      case hi2 => simp only [List.getElem?_toArray, List.getElem?_cons_succ, List.getElem?_cons_zero]; rfl
      case hQ2 => exact fun _ _ _ h => h
      case hw2 => rfl
      case hy2 => intro W' hS'; go_simp; with_reducible rfl
      try simp only [Act.put, List.setIfInBounds_toArray, List.set_cons_zero, List.set_cons_succ]
      refine' wpAnyH_take (i := 2) (oi := _) (v := _) ?hi3 (by kernel_rfl) (by kernel_rfl) (by kernel_rfl) ?hQ3 (Or.inl ⟨?hw3, ?hy3⟩) hS ?rest3
      case hi3 => simp only [List.getElem?_toArray, List.getElem?_cons_succ, List.getElem?_cons_zero]; rfl
      case hQ3 => exact fun _ _ _ h => h
      case hw3 => rfl
      case hy3 => intro W' hS'; go_simp; with_reducible rfl
      try simp only [Act.put, List.setIfInBounds_toArray, List.set_cons_zero, List.set_cons_succ]
      refine' wpAnyH_take (i := 3) (oi := _) (v := _) ?hi4 (by kernel_rfl) (by kernel_rfl) (by kernel_rfl) ?hQ4 (Or.inl ⟨?hw4, ?hy4⟩) hS ?rest4
      case hi4 => simp only [List.getElem?_toArray, List.getElem?_cons_succ, List.getElem?_cons_zero]; rfl
      case hQ4 => exact fun _ _ _ h => h
      case hw4 => rfl
      case hy4 => intro W' hS'; go_simp; with_reducible rfl
      try simp only [Act.put, List.setIfInBounds_toArray, List.set_cons_zero, List.set_cons_succ]
      refine' wpAnyH_take (i := 4) (oi := _) (v := _) ?hi5 (by kernel_rfl) (by kernel_rfl) (by kernel_rfl) ?hQ5 (Or.inl ⟨?hw5, ?hy5⟩) hS ?rest5
      case hi5 => simp only [List.getElem?_toArray, List.getElem?_cons_succ, List.getElem?_cons_zero]; rfl
      case hQ5 => exact fun _ _ _ h => h
      case hw5 => rfl
      case hy5 => intro W' hS'; go_simp; with_reducible rfl
      try simp only [Act.put, List.setIfInBounds_toArray, List.set_cons_zero, List.set_cons_succ]
      refine' wpAnyH_take (i := 5) (oi := _) (v := _) ?hi6 (by kernel_rfl) (by kernel_rfl) (by kernel_rfl) ?hQ6 (Or.inl ⟨?hw6, ?hy6⟩) hS ?rest6
      case hi6 => simp only [List.getElem?_toArray, List.getElem?_cons_succ, List.getElem?_cons_zero]; rfl
      case hQ6 => exact fun _ _ _ h => h
      case hw6 => rfl
      case hy6 => intro W' hS'; have hc := (hS'.cell (p := ⟨b, off + q0, none⟩) hbw).trans c0; go_simp; with_reducible rfl
      try simp only [Act.put, List.setIfInBounds_toArray, List.set_cons_zero, List.set_cons_succ]
      refine' wpAnyH_take (i := 6) (oi := _) (v := _) ?hi7 (by kernel_rfl) (by kernel_rfl) (by kernel_rfl) ?hQ7 (Or.inl ⟨?hw7, ?hy7⟩) hS ?rest7
      case hi7 => simp only [List.getElem?_toArray, List.getElem?_cons_succ, List.getElem?_cons_zero]; rfl
      case hQ7 => exact fun _ _ _ h => h
      case hw7 => rfl
      case hy7 => intro W' hS'; go_simp; with_reducible rfl
      try simp only [Act.put, List.setIfInBounds_toArray, List.set_cons_zero, List.set_cons_succ]
      refine' wpAnyH_take (i := 7) (oi := _) (v := _) ?hi8 (by kernel_rfl) (by kernel_rfl) (by kernel_rfl) ?hQ8 (Or.inl ⟨?hw8, ?hy8⟩) hS ?rest8
      case hi8 => simp only [List.getElem?_toArray, List.getElem?_cons_succ, List.getElem?_cons_zero]; rfl
      case hQ8 => exact fun _ _ _ h => h
      case hw8 => rfl
      case hy8 => intro W' hS'; go_simp; with_reducible rfl
      try simp only [Act.put, List.setIfInBounds_toArray, List.set_cons_zero, List.set_cons_succ]
      refine' wpAnyH_take (i := 8) (oi := _) (v := _) ?hi9 (by kernel_rfl) (by kernel_rfl) (by kernel_rfl) ?hQ9 (Or.inl ⟨?hw9, ?hy9⟩) hS ?rest9
      case hi9 => simp only [List.getElem?_toArray, List.getElem?_cons_succ, List.getElem?_cons_zero]; rfl
      case hQ9 => exact fun _ _ _ h => h
      case hw9 => rfl
      case hy9 => intro W' hS'; go_simp; with_reducible rfl
      try simp only [Act.put, List.setIfInBounds_toArray, List.set_cons_zero, List.set_cons_succ]
      refine' wpAnyH_take (i := 9) (oi := _) (v := _) ?hi10 (by kernel_rfl) (by kernel_rfl) (by kernel_rfl) ?hQ10 (Or.inl ⟨?hw10, ?hy10⟩) hS ?rest10
      case hi10 => simp only [List.getElem?_toArray, List.getElem?_cons_succ, List.getElem?_cons_zero]; rfl
      case hQ10 => exact fun _ _ _ h => h
      case hw10 => rfl
      case hy10 => intro W' hS'; go_simp; with_reducible rfl
      try simp only [Act.put, List.setIfInBounds_toArray, List.set_cons_zero, List.set_cons_succ]
      refine' wpAnyH_take (i := 10) (oi := _) (v := _) ?hi11 (by kernel_rfl) (by kernel_rfl) (by kernel_rfl) ?hQ11 (Or.inl ⟨?hw11, ?hy11⟩) hS ?rest11
      case hi11 => simp only [List.getElem?_toArray, List.getElem?_cons_succ, List.getElem?_cons_zero]; rfl
      case hQ11 => exact fun _ _ _ h => h
      case hw11 => rfl
      case hy11 => intro W' hS'; go_simp; with_reducible rfl
      try simp only [Act.put, List.setIfInBounds_toArray, List.set_cons_zero, List.set_cons_succ]
      refine' wpAnyH_take (i := 11) (oi := _) (v := _) ?hi12 (by kernel_rfl) (by kernel_rfl) (by kernel_rfl) ?hQ12 (Or.inl ⟨?hw12, ?hy12⟩) hS ?rest12
      case hi12 => simp only [List.getElem?_toArray, List.getElem?_cons_succ, List.getElem?_cons_zero]; rfl
      case hQ12 => exact fun _ _ _ h => h
      case hw12 => rfl
      case hy12 => intro W' hS'; have hc := (hS'.cell (p := ⟨b, off + q1, none⟩) hbw).trans c1; go_simp; with_reducible rfl
      try simp only [Act.put, List.setIfInBounds_toArray, List.set_cons_zero, List.set_cons_succ]
      refine wpAnyH_ready (rs := [12]) (by kernel_rfl) (by simp) ?_
      refine' AllReadyH.cons (o := _) ?ho13 (fun K hK => ?st13) AllReadyH.nil
      case ho13 => simp only [List.getElem?_toArray, List.getElem?_cons_succ, List.getElem?_cons_zero]; rfl
      case st13 =>
        go_simp
        refine (joinM_any x y (by omega) _).mono ?_
        rintro e Y1 ⟨rfl, hb⟩
        refine hK.out _ _ (hS.trans (hb.mono hS.size)) (fun hS => ?_)
        clear hK K
        try simp only [Act.put, List.setIfInBounds_toArray, List.set_cons_zero, List.set_cons_succ]
        replace hown := own_below hown hb
        clear hb
        refine wpAnyH_ready (rs := [13]) (by kernel_rfl) (by simp) ?_
        refine' AllReadyH.cons (o := _) ?ho14 (fun K hK => ?st14) AllReadyH.nil
        case ho14 => simp only [List.getElem?_toArray, List.getElem?_cons_succ, List.getElem?_cons_zero]; rfl
        case st14 =>
          go_simp
          refine hK.out _ _ (hS.alloc hS.size _) (fun hS => ?_)
          clear hK K
          try simp only [Act.put, List.setIfInBounds_toArray, List.set_cons_zero, List.set_cons_succ]
          have kt := cell_new1 Y1 9 (tv (joinM x y))
          replace hown := hown.alloc (.cells #[tv (joinM x y)] 9)
          generalize (Y1.alloc (.cells #[tv (joinM x y)] 9)) = Y2 at *
          generalize Y1.heap.size = gt at *
          refine wpAnyH_ready (rs := [14]) (by kernel_rfl) (by simp) ?_
          refine' AllReadyH.cons (o := _) ?ho15 (fun K hK => ?st15) AllReadyH.nil
          case ho15 => simp only [List.getElem?_toArray, List.getElem?_cons_succ, List.getElem?_cons_zero]; rfl
          case st15 =>
            refine step_append_lies _ rfl (.tmp 11) (.tmp 24) 26 rfl w.heap.size 9 i0 (.string ⟨#[]⟩) 1 16 Tryz.underlying26 hi hz0 hz1 hz2 rfl (by decide) (.slice va k vc) k ts rfl hown ⟨gt, 0, none⟩ 1 1 [tv (joinM x y)] rfl rfl kt (by simp [Value.oneCell']) (by decide) (by have := HLT.out; unfold maxLen; omega) (by have := HLT.out; omega) hS.size _ rfl ?_
            intro g c w1 hown' hgrow _ _
            have hS1 : Below w.heap.size w w1 := hS.grown hgrow hS.size (fun j hj => (World.ownsRow.lt hown j hj).1)
            refine hK.out _ _ hS1 (fun _ => ?_)
            clear hK K
            try simp only [Act.put, List.setIfInBounds_toArray, List.set_cons_zero, List.set_cons_succ]
            refine wpAnyH_ready (rs := [15]) (by kernel_rfl) (by simp) ?_
            refine' AllReadyH.cons (o := _) ?ho16 (fun K hK => ?st16) AllReadyH.nil
            case ho16 => simp only [List.getElem?_toArray, List.getElem?_cons_succ, List.getElem?_cons_zero]; rfl
            case st16 =>
              go_simp
              refine hK.out _ _ hS1 (fun _ => ?_)
              clear hK K
              try simp only [Act.put, List.setIfInBounds_toArray, List.set_cons_zero, List.set_cons_succ]
              refine wpAnyH_done (by kernel_rfl) ?_ _
              clear hown kt hS hB hWd
              go_wp2_with fail
              go_roundw
              case rel => exact ⟨k + 1, HLT.out, by simp, by rw [HT.out, HO.out]; exact hown', hS1⟩
              case measure => have := HLT.out; simp [intOf]; omega
    · obtain rfl : k = n := by omega
      go_wp2
      go_ret
      exact ⟨_, rfl, hown, hB⟩
end Go.Proofs.YtbhfajnejibaoaaGreat
namespace Go.Proofs.YtbhfajnejibaoaaGreat
open Go.RowKit Go.Shelf
def leafI (g : ByteArray) : Int := if h : 0 < g.size then (g[0].toNat : Int) else -1
set_option maxRecDepth 100000 in
theorem leaf_any (g : ByteArray) (w : World) : Calls Tryz.prog 72 #[.string g] w fun e W' => e = .returned (.int .i64 (leafI g)) ∧ w = W' := by
  by_cases h : 0 < g.size
  · have hp : Hid (leafI g = (g[0].toNat : Int)) := Lib.hid (by unfold leafI; rw [dif_pos h])
    have h1 : g.toList.isEmpty = false := by
      rw [ByteArray.toList_eq]
      cases h2 : g.data.toList with
      | nil =>
        have h3 : g.data.toList.length = 0 := by rw [h2]; rfl
        have h4 : g.data.toList.length = g.size := rfl
        omega
      | cons => rfl
    have hx : (g[0].toNat : Int) ≤ 255 := by have := g[0].toNat_lt; omega
    go_enter Tryz.func72, Tryz.ntmps72
    go_wp2
    go_ret
    exact ⟨by rw [hp.out]; rfl, rfl⟩
  · have hp : Hid (leafI g = -1) := Lib.hid (by unfold leafI; rw [dif_neg h])
    obtain rfl : g = ⟨#[]⟩ := by
      apply ByteArray.ext
      apply Array.eq_empty_of_size_eq_zero
      show g.size = 0
      omega
    go_enter Tryz.func72, Tryz.ntmps72
    go_wp2
    go_ret
    exact ⟨by rw [hp.out]; rfl, rfl⟩
def pieceB (g : ByteArray) (k : Nat) : ByteArray := (g.extract (1 + k * 8) g.size).extract 0 8
theorem pieceB_size {g : ByteArray} {k : Nat} (h : 9 + 8 * k ≤ g.size) : (pieceB g k).size = 8 := by
  unfold pieceB
  rw [ByteArray.size_extract, ByteArray.size_extract]
  omega
set_option maxRecDepth 100000 in
set_option maxHeartbeats 2000000 in
theorem cut_any (g : ByteArray) (hg : g.size = 145) (w : World) :
    Calls Tryz.prog 73 #[.string g] w (RowW w.heap.size 9 18 ((upto (pieceB g) 18).map tv) w) := by
  obtain ⟨i0, hi, hz0, hz1, hz2⟩ := info_parts Tryz.infoStr
  have HG := Lib.hid hg
  have hg' : g.size ≤ 145 := by omega
  have hg2 : 145 ≤ g.size := by omega
  clear hg
  go_enter Tryz.func73, Tryz.ntmps73
  go_wp2
  go_loopw [3, 5] (fun v i wr => ∃ k : Nat, k ≤ 18 ∧ i = .int .i64 (k : Nat) ∧ wr.ownsRow w.heap.size 9 1 v k ((upto (pieceB g) k).map tv) ∧ Below w.heap.size w wr) (fun _ i _ => 18 - (intOf i).toNat)
  case atStart => exact ⟨0, by omega, rfl, World.ownsRow_nil _ _ _ _, Below.refl _ _⟩
  case round =>
    obtain ⟨k, hk, rfl, hown, hB⟩ := hrel
    obtain ⟨va, vc, rfl⟩ := ownsRow_slice hown
    have hNW := hB.size
    by_cases hlt : k < 18
    · have HT := Lib.hid (upto_snoc (pieceB g) k tv)
      have hlt' : (k : Int) < 18 := by omega
      have h1 : (1 : Int) + (k : Int) * 8 ≤ (g.size : Int) := by omega
      have h2 : (8 : Int) ≤ (g.size : Int) - (1 + (k : Int) * 8) := by omega
      have HLT := Lib.hid hlt
      clear hlt hk
      generalize (upto (pieceB g) k).map tv = ts at *
      have HP : Hid (pieceB g k = (g.extract (1 + k * 8) g.size).extract 0 8) := Lib.hid rfl
      go_wp2_with (at_builtin; refine wpList_append_own _ rfl _ _ 26 rfl w.heap.size 9 i0 (.string ⟨#[]⟩) 1 16 Tryz.underlying26 hi hz0 hz1 hz2 rfl (by decide) (.slice va k vc) k ts rfl (hown.alloc _) ⟨wr.heap.size, 0, none⟩ 1 1 [tv ((g.extract (1 + k * 8) g.size).extract 0 8)] rfl rfl (cell_new1 _ _ _) (by simp [Value.oneCell']) (by have := HLT.out; unfold maxLen; omega) (by have := HLT.out; omega) (by simp; omega) ?_; intro v' w3 hown' hgrow _; obtain ⟨g2, c2, rfl⟩ := ownsRow_succ hown')
      have hB3 : Below w.heap.size w w3 := (hB.alloc hNW _).grown hgrow (Nat.le_trans hNW (by simp)) (fun j hj => (World.ownsRow.lt hown j hj).1)
      go_roundw
      case rel => exact ⟨k + 1, HLT.out, by simp, by rw [HT.out, HP.out]; exact hown', hB3⟩
      case measure => have := HLT.out; simp [intOf]; omega
    · obtain rfl : k = 18 := by omega
      go_wp2
      go_ret
      exact ⟨_, rfl, hown, hB⟩
theorem and1 {a : Nat} (ha : a ≤ 9223372036854775807) : bits .and .i64 (a : Int) 1 = ((a % 2 : Nat) : Int) := by
  have e := (Go.bits_nat .i64 63 (by decide) (fun n h0 h1 => by rw [IntKind.wrap_i64]; omega) a 1 (by simp; omega) (by simp)).1
  rw [Nat.and_one_is_mod] at e
  rw [← e]
  rfl
theorem odd_of (n k : Nat) (hn : n ≤ 255) : bits .and .i64 ((n : Int) / 2 ^ k) 1 = ((n / 2 ^ k % 2 : Nat) : Int) := by
  have e : (n : Int) / 2 ^ k = ((n / 2 ^ k : Nat) : Int) := by simp
  have h : n / 2 ^ k ≤ n := Nat.div_le_self _ _
  rw [e, and1 (by omega)]
def climbB (n : Nat) (p : List ByteArray) (x : ByteArray) : Nat → ByteArray
  | 0 => x
  | k + 1 => if n / 2 ^ k % 2 = 0 then joinM (climbB n p x k) (p.getD k ⟨#[]⟩) else joinM (p.getD k ⟨#[]⟩) (climbB n p x k)
theorem climbB_size (n : Nat) (p : List ByteArray) (x : ByteArray) (k : Nat) : (climbB n p x k).size ≤ max x.size 8 := by
  cases k with
  | zero => exact Nat.le_max_left _ _
  | succ k => rw [climbB]; split <;> rw [joinM_size] <;> exact Nat.le_max_right _ _
set_option maxRecDepth 100000 in
set_option maxHeartbeats 2000000 in
theorem climb_any (n : Nat) (hn : n ≤ 255) (x : ByteArray) (hx : x.size ≤ 8) (p : List ByteArray) (h3 : p.length = 3) (hp : ∀ y ∈ p, y.size ≤ 8) (sv : Value) (w : World) (hsv : VSl 0 w.heap.size w sv (p.map tv)) :
    Calls Tryz.prog 75 #[.int .i64 (n : Int), .string x, sv] w fun e W' => e = .returned (.string (climbB n p x 3)) ∧ Below w.heap.size w W' := by
  obtain ⟨a, cap, rfl⟩ := hsv.slice
  rw [List.length_map, h3]
  have hcell : ∃ b off, a = some ⟨b, off, none⟩ ∧ b < w.heap.size ∧ ∀ k, k < 3 → w.cell? ⟨b, off + k, none⟩ = some (.string (p.getD k ⟨#[]⟩)) := by
    obtain ⟨a', c', e, hc, h0⟩ := hsv
    cases e
    rcases h0 with h0 | ⟨b, off, ha, _, hb, hr⟩
    · have := congrArg List.length h0
      rw [List.length_map, h3] at this
      simp at this
    · refine ⟨b, off, ha, hb, fun k hk => hr k _ ?_⟩
      rw [List.getElem?_map, List.getD, List.getElem?_eq_getElem (by omega)]
      rfl
  have hsz : ∀ k, k < 3 → (p.getD k ⟨#[]⟩).size ≤ 8 := fun k hk => by
    rw [List.getD, List.getElem?_eq_getElem (show k < p.length by omega)]
    exact hp _ (List.getElem_mem _)
  obtain ⟨b, off, rfl, hbw, hcell⟩ := hcell
  have HC := Lib.hid hcell
  have HZ := Lib.hid hsz
  clear hcell hsz hsv hp h3
  go_enter Tryz.func75, Tryz.ntmps75
  go_wp2
  go_loopw [7, 10] (fun v i wr => ∃ k : Nat, k ≤ 3 ∧ i = .int .i64 (k : Nat) ∧ v = .string (climbB n p x k) ∧ Below w.heap.size w wr) (fun _ i _ => 3 - (intOf i).toNat)
  case atStart => exact ⟨0, by omega, rfl, rfl, Below.refl _ _⟩
  case round =>
    obtain ⟨k, hk, rfl, rfl, hB⟩ := hrel
    by_cases hlt : k < 3
    · have c0 := (hB.cell (p := ⟨b, off + k, none⟩) hbw).trans (HC.out k hlt)
      have hlt' : (k : Int) < 3 := by omega
      have hs1 := climbB_size n p x k
      have hs2 := HZ.out k hlt
      by_cases hbit : n / 2 ^ k % 2 = 0
      · have hb : (bits .and .i64 ((n : Int) / 2 ^ k) 1 == 0) = true := by rw [odd_of n k hn, hbit]; rfl
        have HK : Hid (climbB n p x (k + 1) = joinM (climbB n p x k) (p.getD k ⟨#[]⟩)) := Lib.hid (by rw [climbB, if_pos hbit])
        have HLT := Lib.hid hlt
        clear hbit hk hlt
        generalize p.getD k ⟨#[]⟩ = y at *
        generalize climbB n p x k = z at *
        go_wp2_with fail
        refine (joinM_any z y (by omega) _).mono ?_
        rintro e w2 ⟨rfl, hb2⟩
        go_wp2_with fail
        go_roundw
        case rel => exact ⟨k + 1, HLT.out, by simp, by rw [HK.out], hB.trans (hb2.mono hB.size)⟩
        case measure => have := HLT.out; simp [intOf]; omega
      · have hb : (bits .and .i64 ((n : Int) / 2 ^ k) 1 == 0) = false := by
          rw [odd_of n k hn, show n / 2 ^ k % 2 = 1 by omega]; rfl
        have HK : Hid (climbB n p x (k + 1) = joinM (p.getD k ⟨#[]⟩) (climbB n p x k)) := Lib.hid (by rw [climbB, if_neg hbit])
        have HLT := Lib.hid hlt
        clear hbit hk hlt
        generalize p.getD k ⟨#[]⟩ = y at *
        generalize climbB n p x k = z at *
        go_wp2_with fail
        refine (joinM_any y z (by omega) _).mono ?_
        rintro e w2 ⟨rfl, hb2⟩
        go_wp2_with fail
        go_roundw
        case rel => exact ⟨k + 1, HLT.out, by simp, by rw [HK.out], hB.trans (hb2.mono hB.size)⟩
        case measure => have := HLT.out; simp [intOf]; omega
    · obtain rfl : k = 3 := by omega
      go_wp2
      go_ret
      exact ⟨rfl, hB⟩
end Go.Proofs.YtbhfajnejibaoaaGreat
namespace Go.Proofs.YtbhfajnejibaoaaGreat
open Go.RowKit Go.Shelf
theorem overF_node (s : ByteArray) (h : Nat) : overF (nodeB s h) = nodeB s (h + 1) := rfl
def rootB (s : ByteArray) : ByteArray := nodeB s 3 0
theorem above_own (s : ByteArray) (k : Nat) (hk : k < 3) (n₀ : Nat) (a : Option Addr) (c : Nat) (W : World) (hown : W.ownsRow n₀ 9 1 (.slice a (cnt k) c) (cnt k) ((upto (nodeB s k) (cnt k)).map tv)) :
    Calls Tryz.prog 19 #[.slice a (cnt k) c] W (RowW W.heap.size 9 (cnt (k + 1)) ((upto (nodeB s (k + 1)) (cnt (k + 1))).map tv) W) := by
  have hc := cnt_succ hk
  have hV := VSl.of_own (vs := (upto (nodeB s k) (cnt k)).map tv) (by rw [List.length_map, upto_length]; exact hown)
  have h8 := cnt_le (k + 1)
  have h0 : 0 < cnt (k + 1) := Nat.pow_pos (by omega)
  rw [← overF_node]
  refine above_any (nodeB s k) (fun i => by rw [nodeB_size]; omega) (cnt (k + 1)) h0 (by omega) a _ c W ?_
  have e : (upto (nodeB s k) (2 * cnt (k + 1))).map tv = (upto (nodeB s k) (cnt k)).map tv := by rw [hc]
  rw [e]
  exact hV.mono (Nat.zero_le _) (Nat.le_refl _)
set_option maxRecDepth 100000 in
set_option maxHeartbeats 2000000 in
theorem root_any (s : ByteArray) (hs : s.size ≤ 140737488352000) (w : World) :
    Calls Tryz.prog 6 #[.string s] w fun e W' => e = .returned (.string (rootB s)) ∧ Below w.heap.size w W' := by
  have hp : Hid (rootB s = nodeB s 3 0) := Lib.hid rfl
  go_enter Tryz.func6, Tryz.ntmps6
  go_wp2_with fail
  refine (lowest_any s hs _).mono ?_
  rintro e w1 ⟨v1, rfl, hown1, hb1⟩
  go_wp2
  go_loopw [3, 6] (fun v i wr => ∃ k : Nat, k ≤ 3 ∧ i = .int .i64 (k : Nat) ∧ wr.ownsRow w.heap.size 9 1 v (cnt k) ((upto (nodeB s k) (cnt k)).map tv) ∧ Below w.heap.size w wr) (fun _ i _ => 3 - (intOf i).toNat)
  case atStart => exact ⟨0, by omega, rfl, hown1, hb1⟩
  clear hown1 hb1
  case round =>
    obtain ⟨k, hk, rfl, hown, hB⟩ := hrel
    obtain ⟨va, vc, rfl⟩ := ownsRow_slice hown
    by_cases hlt : k < 3
    · have hlt' : (k : Int) < 3 := by omega
      have HA := Lib.hid (above_own s k hlt _ va vc wr hown)
      have HLT := Lib.hid hlt
      clear hlt hk
      generalize cnt k = c0 at *
      go_wp2_with fail
      refine (HA.out).mono ?_
      rintro e w2 ⟨v2, rfl, hown2, hb2⟩
      have hown3 := own_base hown2 hB.size
      have hB2 := hB.trans (hb2.mono hB.size)
      clear hown2 hown hB hb2
      go_wp2_with fail
      go_roundw
      case rel => exact ⟨k + 1, HLT.out, by simp, hown3, hB2⟩
      case measure => have := HLT.out; simp [intOf]; omega
    · obtain rfl : k = 3 := by omega
      have hV := VSl.of_own (vs := (upto (nodeB s 3) (cnt 3)).map tv) (by rw [List.length_map, upto_length]; exact hown)
      obtain ⟨_, b, off, rfl, hbw, hcell⟩ := upto_row hV (by decide)
      have c0 := hcell 0 (by decide)
      rw [Nat.add_zero] at c0
      rw [show cnt 3 = 1 from rfl]
      clear hcell hown hV
      generalize nodeB s 3 0 = x at *
      go_wp2
      go_ret
      exact ⟨by rw [hp.out]; rfl, hB⟩
end Go.Proofs.YtbhfajnejibaoaaGreat
namespace Go.Proofs.YtbhfajnejibaoaaGreat
open Go.RowKit Go.Shelf
theorem sq_lits : uv sq 8 = .agg #[.int .u32 1779033703, .int .u32 3144134277, .int .u32 1013904242, .int .u32 2773480762, .int .u32 1359893119, .int .u32 2600822924, .int .u32 528734635, .int .u32 1541459225] := by
  show Value.agg (us sq 8).toArray = _
  rw [← sq_us]
  rfl
set_option maxRecDepth 100000 in
set_option maxHeartbeats 2000000 in
theorem refSum_any (l : List UInt8) (sv : Value) (w : World) (hreach : l.length ≤ 140737488353000) (hsv : BSl 0 w.heap.size w sv l) :
    Calls Tryz.prog 67 #[sv] w (ByO (sumL cb sq l) w) := by
  have hsv0 := hsv
  obtain ⟨a, cap, rfl, hcap, hcs⟩ := hsv
  clear hcs
  go_enter Tryz.func67, Tryz.ntmps67
  go_wp2_with fail
  refine (table_any _).mono ?_
  rintro e w1 ⟨rfl, hb1⟩
  go_wp2_with fail
  rw [← sq_lits]
  refine (refOver_any l _ sq cb _ hreach ((hsv0.below hb1 (Nat.le_refl _)).mono (Nat.le_refl _) hb1.size)).mono ?_
  rintro e w2 ⟨v, rfl, hown, hb2⟩
  go_wp2_with fail
  go_ret
  exact ⟨_, rfl, own_base4 hown hb1.size, chain hb1 hb2⟩
end Go.Proofs.YtbhfajnejibaoaaGreat
namespace Go.Proofs.YtbhfajnejibaoaaGreat
open Go.RowKit Go.Shelf
set_option maxRecDepth 100000 in
set_option maxHeartbeats 2000000 in
theorem refShort_any (s : ByteArray) (hs : s.size ≤ 140737488353000) (w : World) :
    Calls Tryz.prog 49 #[.string s] w fun e W' => e = .returned (.string (shortB s.data.toList)) ∧ Below w.heap.size w W' := by
  obtain ⟨c1, W1, hcv, hc1, hb1, hz1, ho1⟩ := conv_bytes w s
  have hnew := conv_bsl hc1 hz1 ho1
  clear hc1 hz1 ho1
  have hS : Hid (shortB s.data.toList = (sumS s.data.toList).extract 0 8) := Lib.hid rfl
  have hl : s.data.toList.length ≤ 140737488353000 := hs
  go_enter Tryz.func49, Tryz.ntmps49
  go_wp2_with fail
  refine (refSum_any s.data.toList _ _ hl (hnew.mono (Nat.zero_le _) (Nat.le_refl _))).mono ?_
  rintro e w2 ⟨v2, rfl, hown2, hb2⟩
  have hcv2 := run_string (P := Tryz.prog) 58 5 9 Tryz.underlying58 Tryz.underlying5 Tryz.underlying9 w2 (BSl.of_own hown2)
  obtain ⟨a2, c2, rfl⟩ := ownsRow_slice hown2
  have hss : (⟨(sumL cb sq s.data.toList).toArray⟩ : ByteArray) = sumS s.data.toList := rfl
  rw [hss] at hcv2
  have h8 : 8 ≤ (sumS s.data.toList).size := by rw [sumS_size]; omega
  have h8' : (8 : Int) ≤ ((sumS s.data.toList).size : Int) := by omega
  clear hss
  generalize hq : sumS s.data.toList = q at *
  have HQ := Lib.hid hq
  clear hq
  go_wp2_with fail
  go_ret
  exact ⟨by rw [hS.out]; rfl, chain hb1 hb2⟩
set_option maxRecDepth 100000 in
set_option maxHeartbeats 2000000 in
theorem refWalk_any (s : ByteArray) (hs : s.size ≤ 140737488353000) (n : Int) (w : World) :
    Calls Tryz.prog 66 #[.string s, .int .i64 n] w fun e W' => e = .returned (.string (linkB s (stp n))) ∧ Below w.heap.size w W' := by
  have h3 := stp_le n
  have hC := Lib.hid (stp_cases n)
  go_enter Tryz.func66, Tryz.ntmps66
  go_wp2
  go_loopw [0, 5] (fun v i wr => ∃ k : Nat, k ≤ stp n ∧ i = .int .i64 (k : Nat) ∧ v = .string (linkB s k) ∧ Below w.heap.size w wr) (fun _ i _ => 3 - (intOf i).toNat)
  case atStart => exact ⟨0, by omega, rfl, rfl, Below.refl _ _⟩
  case round =>
    obtain ⟨k, hk, rfl, rfl, hB⟩ := hrel
    have hls := linkB_size s k
    by_cases hlt : k < stp n
    · have h1 : decide ((k : Int) < n) = true := by
        rcases hC.out with ⟨h, e⟩ | ⟨h, h', e⟩ | ⟨h, e⟩ <;> simp <;> omega
      have h2 : (k : Int) < 3 := by omega
      have HLT := Lib.hid hlt
      have HK := Lib.hid hk
      have H3 := Lib.hid h3
      clear hlt hk h3
      go_wp2_with fail
      refine (refShort_any (linkB s k) (by omega) _).mono ?_
      rintro e w2 ⟨rfl, hb2⟩
      go_wp2_with fail
      go_roundw
      case rel => exact ⟨k + 1, HLT.out, by simp, rfl, hB.trans (hb2.mono hB.size)⟩
      case measure => have := H3.out; have := HLT.out; simp [intOf]; omega
    · obtain rfl : k = stp n := by omega
      by_cases hn : (stp n : Int) < n
      · have h1 : decide ((stp n : Int) < n) = true := by simpa using hn
        have h2 : ¬ (stp n : Int) < 3 := by rcases hC.out with ⟨h, e⟩ | ⟨h, h', e⟩ | ⟨h, e⟩ <;> omega
        clear hn
        generalize hst : stp n = k at *
        have HST := Lib.hid hst
        clear hst
        go_wp2_with fail
        go_ret
        exact ⟨by rw [HST.out]; rfl, hB⟩
      · have h1 : decide ((stp n : Int) < n) = false := by simpa using hn
        clear hn
        generalize hst : stp n = k at *
        have HST := Lib.hid hst
        clear hst
        go_wp2_with fail
        go_ret
        exact ⟨by rw [HST.out]; rfl, hB⟩
def sumAt (l : List UInt8) (k : Nat) : Nat := ((sumL cb sq l).getD k 0).toNat
theorem sumAt_lt (l : List UInt8) (k : Nat) : sumAt l k < 256 := UInt8.toNat_lt _
theorem headN_of (l : List UInt8) : headN l = sumAt l 0 * 65536 + sumAt l 1 * 256 + sumAt l 2 := by
  have h : (sumL cb sq l).length = 32 := sumTo_length _ 8
  unfold headN sumAt
  generalize sumL cb sq l = q at *
  match q, h with
  | x0 :: x1 :: x2 :: r, _ =>
    simp [be]
    omega
theorem digF_byte (l : List UInt8) {k : Nat} (hk : k < 3) : digF l (4 * k) = sumAt l k / 64 ∧ digF l (4 * k + 1) = sumAt l k / 16 % 4 ∧ digF l (4 * k + 2) = sumAt l k / 4 % 4 ∧ digF l (4 * k + 3) = sumAt l k % 4 := by
  have h := headN_of l
  have h0 := sumAt_lt l 0
  have h1 := sumAt_lt l 1
  have h2 := sumAt_lt l 2
  unfold digF dig
  rw [if_pos (by omega), if_pos (by omega), if_pos (by omega), if_pos (by omega)]
  generalize headN l = x at *
  have : k = 0 ∨ k = 1 ∨ k = 2 := by omega
  rcases this with rfl | rfl | rfl
  · generalize sumAt l 0 = a at *
    generalize sumAt l 1 = b at *
    generalize sumAt l 2 = c at *
    simp only [Nat.reduceMul, Nat.reduceAdd, Nat.reduceSub, Nat.reducePow]
    omega
  · generalize sumAt l 0 = a at *
    generalize sumAt l 1 = b at *
    generalize sumAt l 2 = c at *
    simp only [Nat.reduceMul, Nat.reduceAdd, Nat.reduceSub, Nat.reducePow]
    omega
  · generalize sumAt l 0 = a at *
    generalize sumAt l 1 = b at *
    generalize sumAt l 2 = c at *
    simp only [Nat.reduceMul, Nat.reduceAdd, Nat.reduceSub, Nat.reducePow]
    omega
theorem digF_rest (l : List UInt8) : digF l 12 = restN l / 16 ∧ digF l 13 = restN l / 4 % 4 ∧ digF l 14 = restN l % 4 := by
  have hr : restN l ≤ 36 := by unfold restN; omega
  have e0 : digF l 12 = dig (restN l) 2 := rfl
  have e1 : digF l 13 = dig (restN l) 1 := rfl
  have e2 : digF l 14 = dig (restN l) 0 := rfl
  rw [e0, e1, e2]
  clear e0 e1 e2
  generalize restN l = r at *
  refine ⟨?_, ?_, ?_⟩
  · show r / 16 % 4 = r / 16
    omega
  · show r / 4 % 4 = r / 4 % 4
    rfl
  · show r / 1 % 4 = r % 4
    omega
def digV (l : List UInt8) (k : Nat) : List Value := upto (fun i => iv (digF l i : Int)) k
theorem digV_all (l : List UInt8) : digV l 15 = (digL l).map iv := by
  apply List.ext_getElem?
  intro k
  unfold digV upto
  rw [List.getElem?_map, List.getElem?_map]
  by_cases hk : k < 15
  · rw [List.getElem?_range hk, digL_at l hk]; rfl
  · rw [List.getElem?_eq_none (by simp; omega), List.getElem?_eq_none (by rw [digL_length]; omega)]; rfl
theorem digV_four (l : List UInt8) {k : Nat} (hk : k < 3) : digV l (4 * (k + 1)) = digV l (4 * k) ++ [iv ((sumAt l k / 64 : Nat) : Int), iv ((sumAt l k / 16 % 4 : Nat) : Int), iv ((sumAt l k / 4 % 4 : Nat) : Int), iv ((sumAt l k % 4 : Nat) : Int)] := by
  obtain ⟨h0, h1, h2, h3⟩ := digF_byte l hk
  rw [← h0, ← h1, ← h2, ← h3, show 4 * (k + 1) = 4 * k + 3 + 1 by omega]
  unfold digV
  rw [upto_succ, show 4 * k + 3 = 4 * k + 2 + 1 by omega, upto_succ, show 4 * k + 2 = 4 * k + 1 + 1 by omega, upto_succ, upto_succ]
  simp
theorem digV_three (l : List UInt8) : digV l 15 = digV l 12 ++ [iv ((restN l / 16 : Nat) : Int), iv ((restN l / 4 % 4 : Nat) : Int), iv ((restN l % 4 : Nat) : Int)] := by
  obtain ⟨h0, h1, h2⟩ := digF_rest l
  rw [← h0, ← h1, ← h2]
  unfold digV
  rw [show 15 = 12 + 1 + 1 + 1 from rfl, upto_succ, upto_succ, upto_succ]
  simp
theorem sum_four (l : List UInt8) {k : Nat} (hk : k < 3) : sumTo12 (headN l) (4 * (k + 1)) = sumTo12 (headN l) (4 * k) + (sumAt l k / 64 + sumAt l k / 16 % 4 + sumAt l k / 4 % 4 + sumAt l k % 4) := by
  obtain ⟨h0, h1, h2, h3⟩ := digF_byte l hk
  rw [← h0, ← h1, ← h2, ← h3, show 4 * (k + 1) = 4 * k + 3 + 1 by omega, digF_step l _ (by omega), show 4 * k + 3 = 4 * k + 2 + 1 by omega, digF_step l _ (by omega), show 4 * k + 2 = 4 * k + 1 + 1 by omega, digF_step l _ (by omega), digF_step l _ (by omega)]
  omega
theorem cells_new (w : World) (t : TypeId) (vs : List Value) : ∀ (j : Nat) (u : Value), vs[j]? = some u → (w.alloc (.cells vs.toArray t)).cell? ((⟨w.heap.size, 0, none⟩ : Addr).add j) = some u := fun j u hu => by
  have hp : (⟨w.heap.size, 0, none⟩ : Addr).add j = ⟨w.heap.size, j, none⟩ := by cases j <;> simp [Addr.add]
  rw [hp, (Blk.new w t vs).cell]
  exact hu
set_option maxRecDepth 100000 in
set_option maxHeartbeats 4000000 in
theorem refDigits_any (l : List UInt8) (sv : Value) (w : World) (hreach : l.length ≤ 140737488353000) (hsv : BSl 0 w.heap.size w sv l) :
    Calls Tryz.prog 65 #[sv] w (RowW w.heap.size 3 15 ((digL l).map iv) w) := by
  obtain ⟨i0, hi, hz0, hz1, hz2⟩ := info_parts Tryz.infoIntI
  have hsv0 := hsv
  obtain ⟨a, cap, rfl⟩ := bsl_slice hsv
  clear hsv
  go_enter Tryz.func65, Tryz.ntmps65
  go_wp2_with fail
  refine (refSum_any l _ _ hreach hsv0).mono ?_
  rintro e w1 ⟨v1, rfl, hown1, hb1⟩
  have h32 : (sumL cb sq l).length = 32 := sumTo_length _ 8
  have hq1 := BSl.of_own hown1
  rw [h32] at hown1
  obtain ⟨g, c, rfl⟩ := ownsRow_succ hown1
  have hcell : ∀ k, k < 32 → w1.cell? ⟨g, k, none⟩ = some (.int .u8 (sumAt l k : Int)) := fun k hk => by
    obtain ⟨a', c', e', _, h0⟩ := hq1
    cases e'
    obtain ⟨b, off, ha, _, _, ho⟩ := h0.resolve_left (fun h => by rw [h] at h32; simp at h32)
    cases ha
    obtain ⟨x, hx⟩ : ∃ x, (sumL cb sq l)[k]? = some x := ⟨_, List.getElem?_eq_getElem (by rw [h32]; exact hk)⟩
    have h := ho k x hx
    rw [Nat.zero_add] at h
    rw [h]
    unfold sumAt
    rw [show (sumL cb sq l).getD k 0 = x by simp [List.getD, hx]]
  have HC := Lib.hid hcell
  have hgw : g < w1.heap.size := World.ownsRow.lt hown1 g rfl |>.2
  clear hcell hq1 hown1 hsv0 h32
  go_wp2
  go_loopw [4, 5, 6] (fun v r i wr => ∃ k : Nat, k ≤ 3 ∧ i = .int .i64 (k : Nat) ∧ r = .int .i64 (36 - (sumTo12 (headN l) (4 * k) : Int)) ∧ wr.ownsRow w1.heap.size 3 1 v (4 * k) (digV l (4 * k)) ∧ Below w1.heap.size w1 wr) (fun _ _ i _ => 3 - (intOf i).toNat)
  case atStart => exact ⟨0, by omega, rfl, rfl, World.ownsRow_nil _ _ _ _, Below.refl _ _⟩
  case round =>
    obtain ⟨k, hk, rfl, rfl, hown, hB⟩ := hrel
    have hsl := sumTo12_le (headN l) (4 * k)
    have hsl' : (sumTo12 (headN l) (4 * k) : Int) ≤ 36 := by omega
    obtain ⟨va, vc, rfl⟩ := ownsRow_slice hown
    have hNW := hB.size
    by_cases hlt : k < 3
    · have cx := (hB.cell (p := ⟨g, k, none⟩) hgw).trans (HC.out k (by omega))
      have HV := Lib.hid (digV_four l hlt)
      have HS := Lib.hid (sum_four l hlt)
      have hx := sumAt_lt l k
      have hx' : (sumAt l k : Int) ≤ 255 := by omega
      have hlt' : (k : Int) < 3 := by omega
      have hk32 : (k : Int) < 32 := by omega
      have e0 : ((sumAt l k / 64 : Nat) : Int) = (sumAt l k : Int) / 64 := by simp
      have e1 : ((sumAt l k / 16 % 4 : Nat) : Int) = (sumAt l k : Int) / 16 % 4 := by simp
      have e2 : ((sumAt l k / 4 % 4 : Nat) : Int) = (sumAt l k : Int) / 4 % 4 := by simp
      have e3 : ((sumAt l k % 4 : Nat) : Int) = (sumAt l k : Int) % 4 := by simp
      rw [e0, e1, e2, e3] at HV
      clear e0 e1 e2 e3
      generalize sumTo12 (headN l) (4 * k) = S at *
      generalize sumAt l k = x at *
      generalize hq : digV l (4 * k) = ds at *
      have HQ := Lib.hid hq
      have HLT := Lib.hid hlt
      clear hq hlt hk
      go_wp2_with (at_builtin; refine wpList_append_own _ rfl _ _ 108 rfl w1.heap.size 3 i0 (.int .i64 0) 1 8 Tryz.underlying108 hi hz0 hz1 hz2 rfl (by decide) (.slice va (4 * k) vc) (4 * k) ds rfl (hown.alloc _) ⟨wr.heap.size, 0, none⟩ 4 4 [iv ((x : Int) / 64), iv ((x : Int) / 16 % 4), iv ((x : Int) / 4 % 4), iv ((x : Int) % 4)] rfl rfl (cells_new _ _ _) (by simp [Value.oneCell']) (by have := HLT.out; unfold maxLen; omega) (by have := HLT.out; omega) (by simp; omega) ?_; intro v' w2 hown' hgrow _; obtain ⟨g2, c2, rfl⟩ := ownsRow_succ (k := 4 * k + 3) hown')
      have hb2 : Below w1.heap.size wr w2 := (chain0 wr _ |>.mono hNW).grown hgrow (Nat.le_trans hNW (by simp)) (fun j hj => (World.ownsRow.lt hown j hj).1)
      go_roundw
      case rel =>
        refine ⟨k + 1, HLT.out, by simp, ?_, ?_, hB.trans hb2⟩
        · rw [HS.out]
          exact congrArg (Value.int .i64) (by omega)
        · rw [HV.out]
          exact hown'
      case measure => have := HLT.out; simp [intOf]; omega
    · obtain rfl : k = 3 := by omega
      have hrn : Hid (digV l 15 = digV l 12 ++ [iv ((restN l / 16 : Nat) : Int), iv ((restN l / 4 % 4 : Nat) : Int), iv ((restN l % 4 : Nat) : Int)]) := Lib.hid (digV_three l)
      have hr : (36 - (sumTo12 (headN l) (4 * 3) : Int)) = ((restN l : Nat) : Int) := by
        unfold restN
        have : sumTo12 (headN l) 12 ≤ 36 := sumTo12_le (headN l) 12
        rw [show 4 * 3 = 12 from rfl]
        omega
      rw [hr]
      have hr36 : restN l ≤ 36 := by unfold restN; omega
      have hr36' : (restN l : Int) ≤ 36 := by omega
      have e0 : ((restN l / 16 : Nat) : Int) = (restN l : Int) / 16 := by simp
      have e1 : ((restN l / 4 % 4 : Nat) : Int) = (restN l : Int) / 4 % 4 := by simp
      have e2 : ((restN l % 4 : Nat) : Int) = (restN l : Int) % 4 := by simp
      rw [e0, e1, e2] at hrn
      have hall := Lib.hid (digV_all l)
      rw [show 4 * 3 = 12 from rfl] at hown
      clear hsl hsl' hr e0 e1 e2 hk hlt
      generalize restN l = r at *
      generalize digV l 12 = ds at *
      go_wp2_with (at_builtin; refine wpList_append_own _ rfl _ _ 108 rfl w1.heap.size 3 i0 (.int .i64 0) 1 8 Tryz.underlying108 hi hz0 hz1 hz2 rfl (by decide) (.slice va 12 vc) 12 ds rfl (hown.alloc _) ⟨wr.heap.size, 0, none⟩ 3 3 [iv ((r : Int) / 16), iv ((r : Int) / 4 % 4), iv ((r : Int) % 4)] rfl rfl (cells_new _ _ _) (by simp [Value.oneCell']) (by unfold maxLen; omega) (by omega) (by simp; omega) ?_; intro v' w2 hown' hgrow _; obtain ⟨g2, c2, rfl⟩ := ownsRow_succ (k := 14) hown')
      have hb2 : Below w1.heap.size wr w2 := (chain0 wr _ |>.mono hNW).grown hgrow (Nat.le_trans hNW (by simp)) (fun j hj => (World.ownsRow.lt hown j hj).1)
      rw [← hrn.out, hall.out] at hown'
      go_ret
      exact ⟨_, rfl, own_base hown' hb1.size, hb1.trans ((hB.trans hb2).mono hb1.size)⟩
end Go.Proofs.YtbhfajnejibaoaaGreat
namespace Go.Proofs.YtbhfajnejibaoaaGreat
open Go.RowKit Go.Shelf
theorem walked_get (zs : List ByteArray) (d : Nat → Int) (k : Nat) : (walked zs d)[k]? = zs[k]?.map fun x => linkB x (stp (d k)) := by
  unfold walked; rw [List.getElem?_mapIdx]
end Go.Proofs.YtbhfajnejibaoaaGreat
namespace Go.Proofs.YtbhfajnejibaoaaGreat
open Go.RowKit Go.Shelf
def catL (zs : List ByteArray) : ByteArray := zs.foldl (· ++ ·) ⟨#[]⟩
theorem catL_snoc (zs : List ByteArray) (x : ByteArray) : catL (zs ++ [x]) = catL zs ++ x := by unfold catL; rw [List.foldl_append]; rfl
theorem catL_list (zs : List ByteArray) : (catL zs).data.toList = (zs.map fun s => s.data.toList).flatten := by
  rw [← List.reverse_reverse zs]
  generalize zs.reverse = r
  induction r with
  | nil => rfl
  | cons x r ih =>
    rw [List.reverse_cons, catL_snoc, List.map_append, List.flatten_append, ← ih]
    simp
theorem catL_le (zs : List ByteArray) (m : Nat) (h : ∀ x ∈ zs, x.size ≤ m) : (catL zs).size ≤ zs.length * m := by
  have e : (catL zs).size = (catL zs).data.toList.length := rfl
  rw [e, catL_list]
  exact flatten_le _ m zs h
theorem joinB_of (zs : List ByteArray) : joinB zs = shortB (catL zs).data.toList := by rw [catL_list]; rfl
theorem catL_take {zs : List ByteArray} {k : Nat} {x : ByteArray} (h : zs[k]? = some x) : catL (zs.take (k + 1)) = catL (zs.take k) ++ x := by
  rw [List.take_add_one, h]; exact catL_snoc _ _
theorem textRow {lo n : Nat} {W : World} {v : Value} {zs : List ByteArray} (hn : zs.length = n + 1) (h : W.ownsRow lo 9 1 v (n + 1) (zs.map tv)) :
    ∃ g c, v = .slice (some ⟨g, 0, none⟩) (n + 1) c ∧ g < W.heap.size ∧ ∀ k x, zs[k]? = some x → W.cell? ⟨g, k, none⟩ = some (.string x) := by
  have hq := VSl.of_own (vs := zs.map tv) (by rw [List.length_map, hn]; exact h)
  obtain ⟨g, c, rfl⟩ := ownsRow_succ h
  obtain ⟨a', c', e, hc, h0 | ⟨b, off, ha, _, hb, hr⟩⟩ := hq
  · have := congrArg List.length h0
    rw [List.length_map, hn] at this
    simp at this
  · rw [List.length_map, hn] at e
    cases e
    cases ha
    exact ⟨g, c, rfl, hb, fun k x hk => by
      have := hr k (.string x) (by rw [List.getElem?_map, hk]; rfl)
      rwa [Nat.zero_add] at this⟩
set_option maxRecDepth 100000 in
set_option maxHeartbeats 600000 in
theorem refOpen_any (l : List UInt8) (tx : Value) (zs : List ByteArray) (sv : Value) (w : World) (hreach : l.length ≤ 140737488353000) (htx : BSl 0 w.heap.size w tx l) (hsv : VSl 0 w.heap.size w sv (zs.map tv)) :
    Calls Tryz.prog 48 #[tx, sv] w fun e W' => e = .returned (.string (openB l zs)) ∧ Below w.heap.size w W' := by
  have hmx : Tryz.prog.follows .mixedOrders = true := by kernel_rfl
  have hsv0 := hsv
  obtain ⟨sa, sc, rfl⟩ := hsv.slice
  have htx0 := htx
  obtain ⟨ta, tc, rfl⟩ := bsl_slice htx
  rw [List.length_map] at hsv0 ⊢
  clear htx hsv
  by_cases h15 : zs.length = 15
  · have hno : ∀ (k : Nat) (x : ByteArray), zs[k]? = some x → x.size ≠ 8 → openB l zs = ⟨#[]⟩ := fun k x hx h8 => by
      unfold openB
      rw [if_neg]
      intro hw
      unfold wf at hw
      simp only [Bool.and_eq_true, List.all_eq_true, beq_iff_eq] at hw
      exact h8 (hw.2 x (List.mem_of_getElem? hx))
    have hyes : (∀ x ∈ zs, x.size = 8) → openB l zs = shortB (catL (walked zs fun k => 3 - (digF l k : Int))).data.toList := fun h8 => by
      unfold openB
      rw [if_pos, joinB_of]
      unfold wf
      simp only [Bool.and_eq_true, List.all_eq_true, beq_iff_eq, decide_eq_true_eq]
      exact ⟨h15, h8⟩
    have HNO := Lib.hid hno
    have HYES := Lib.hid hyes
    clear hno hyes
    obtain ⟨a', c', e', hc', hr⟩ := id hsv0
    rw [List.length_map] at e' hc'
    have hrow : ∃ b off, sa = some ⟨b, off, none⟩ ∧ b < w.heap.size ∧ ∀ k x, zs[k]? = some x → w.cell? ⟨b, off + k, none⟩ = some (.string x) := by
      rcases hr with h0 | ⟨b, off, ha, _, hb, hr⟩
      · have := congrArg List.length h0
        rw [List.length_map, h15] at this
        simp at this
      · cases e'
        exact ⟨b, off, ha, hb, fun k x hx => hr k _ (by rw [List.getElem?_map, hx]; rfl)⟩
    obtain ⟨b, off, rfl, hbw, hcell⟩ := hrow
    rw [h15]
    have HC := Lib.hid hcell
    have HBL := Lib.hid h15
    clear hcell h15 e' hc' hr hsv0
    go_enter Tryz.func48, Tryz.ntmps48
    go_wp2_with fail
    refine (refDigits_any l _ _ hreach htx0).mono ?_
    rintro e w1 ⟨v1, rfl, hown1, hb1⟩
    obtain ⟨g, c, rfl, hgw, hcap, hdc⟩ := digRow hown1
    have hle := digF_le l
    have HLE := Lib.hid hle
    have HDC := Lib.hid hdc
    have hsz1 := hb1.size
    clear hle hdc hown1 htx0
    go_wp2_with fail
    go_loopw [6, 7] (fun v i wr => ∃ k : Nat, k ≤ 15 ∧ i = .int .i64 (k : Nat) ∧ v = .string (catL ((walked zs fun k => 3 - (digF l k : Int)).take k)) ∧ (∀ x ∈ zs.take k, x.size = 8) ∧ Below w1.heap.size w1 wr) (fun _ i _ => 15 - (intOf i).toNat)
    case atStart => exact ⟨0, by omega, rfl, rfl, fun x hx => by simp at hx, Below.refl _ _⟩
    case round =>
      obtain ⟨k, hk, rfl, rfl, h8k, hB⟩ := hrel
      have H8K := Lib.hid h8k
      clear h8k
      by_cases hlt : k < 15
      · obtain ⟨x, hx⟩ : ∃ x, zs[k]? = some x := ⟨_, List.getElem?_eq_getElem (by rw [HBL.out]; exact hlt)⟩
        have c0 := ((hB.cell (p := ⟨b, off + k, none⟩) (Nat.lt_of_lt_of_le hbw hsz1)).trans (hb1.cell (p := ⟨b, off + k, none⟩) hbw)).trans (HC.out k x hx)
        have hlt' : (k : Int) < 15 := by omega
        by_cases h8 : x.size = 8
        · have hb8 : ((x.size : Int) != 8) = false := by simp; omega
          have cd := (hB.cell (p := ⟨g, k, none⟩) hgw).trans (HDC.out k hlt)
          have hd3 := HLE.out k
          have hd3' : (digF l k : Int) ≤ 3 := by omega
          have hwk := walked_at (fun k => 3 - (digF l k : Int)) hx
          have HK := Lib.hid (catL_take hwk)
          have hlk := linkB_size x (stp (3 - (digF l k : Int)))
          have hcs := catL_le ((walked zs fun k => 3 - (digF l k : Int)).take k) 8 (fun y hy => by
            have hyt : y ∈ walked (zs.take k) fun k => 3 - (digF l k : Int) := by
              obtain ⟨i, hi⟩ := List.mem_iff_getElem?.1 hy
              rw [List.getElem?_take] at hi
              split at hi
              · rename_i hik
                refine List.mem_iff_getElem?.2 ⟨i, ?_⟩
                rw [walked_get] at hi ⊢
                rw [List.getElem?_take_of_lt hik]
                exact hi
              · cases hi
            have := walked_mem (m := 8) (fun x hx => by rw [H8K.out x hx]; omega) hyt
            omega)
          rw [List.length_take, walked_length, HBL.out] at hcs
          have hadd : ¬ 9223372036854775807 < (catL ((walked zs fun k => 3 - (digF l k : Int)).take k)).size + (linkB x (stp (3 - (digF l k : Int)))).size := by omega
          have HX := Lib.hid hx
          have HLT := Lib.hid hlt
          have H8 := Lib.hid h8
          clear hx hwk hcs hlt hk h8 hd3 hlk
          generalize catL ((walked zs fun k => 3 - (digF l k : Int)).take k) = cs at *
          generalize digF l k = d at *
          have hwr : IntKind.i64.wrap (3 - (d : Int)) = 3 - (d : Int) := by rw [IntKind.wrap_i64]; omega
          have hszr := hB.size
          have hbwr := Nat.lt_of_lt_of_le hbw (Nat.le_trans hsz1 hszr)
          have hgwr := Nat.lt_of_lt_of_le hgw hszr
          go_wp2_with fail
          refine wp_region_held_drew (S := fun W => Below wr.heap.size wr W) hmx (Below.refl _ wr).drew ?_
          intro hS
          replace c0 : (wr.drew).cell? ⟨b, off + k, none⟩ = some (.string x) := c0
          replace cd : (wr.drew).cell? ⟨g, k, none⟩ = some (.int .i64 (d : Int)) := cd
          replace hbwr : b < (wr.drew).heap.size := hbwr
          replace hgwr : g < (wr.drew).heap.size := hgwr
          replace hszr : w1.heap.size ≤ (wr.drew).heap.size := hszr
          replace hB : Below w1.heap.size w1 wr.drew := hB.drew
          refine wpAnyH_mono (S' := fun W => Below wr.drew.heap.size wr.drew W) (fun W h => (Below.refl _ wr).drew.trans h) _ _ _ _ ?_
          replace hS : Below wr.drew.heap.size wr.drew wr.drew := Below.refl _ _
          generalize wr.drew = w2 at *
          refine' wpAnyH_take (i := 0) (oi := _) (v := _) ?hi0 (by kernel_rfl) (by kernel_rfl) (by kernel_rfl) ?hQ0 (Or.inl ⟨?hw0, ?hy0⟩) hS ?rest0
          case hi0 => simp only [List.getElem?_toArray, List.getElem?_cons_zero]; rfl
          case hQ0 => exact fun _ _ _ h => h
          case hw0 => rfl
          case hy0 => intro W' hS'; go_simp; with_reducible rfl
          try try simp only [Act.put, List.setIfInBounds_toArray, List.set_cons_zero, List.set_cons_succ]
          refine' wpAnyH_take (i := 1) (oi := _) (v := _) ?hi1 (by kernel_rfl) (by kernel_rfl) (by kernel_rfl) ?hQ1 (Or.inl ⟨?hw1, ?hy1⟩) hS ?rest1
          case hi1 => simp only [List.getElem?_toArray, List.getElem?_cons_succ, List.getElem?_cons_zero]; rfl
          case hQ1 => exact fun _ _ _ h => h
          case hw1 => rfl
          case hy1 => intro W' hS'; go_simp; with_reducible rfl
          try try simp only [Act.put, List.setIfInBounds_toArray, List.set_cons_zero, List.set_cons_succ]
          refine' wpAnyH_take (i := 2) (oi := _) (v := _) ?hi2 (by kernel_rfl) (by kernel_rfl) (by kernel_rfl) ?hQ2 (Or.inl ⟨?hw2, ?hy2⟩) hS ?rest2
          case hi2 => simp only [List.getElem?_toArray, List.getElem?_cons_succ, List.getElem?_cons_zero]; rfl
          case hQ2 => exact fun _ _ _ h => h
          case hw2 => rfl
          case hy2 => intro W' hS'; go_simp; with_reducible rfl
          try try simp only [Act.put, List.setIfInBounds_toArray, List.set_cons_zero, List.set_cons_succ]
          refine' wpAnyH_take (i := 3) (oi := _) (v := _) ?hi3 (by kernel_rfl) (by kernel_rfl) (by kernel_rfl) ?hQ3 (Or.inl ⟨?hw3, ?hy3⟩) hS ?rest3
          case hi3 => simp only [List.getElem?_toArray, List.getElem?_cons_succ, List.getElem?_cons_zero]; rfl
          case hQ3 => exact fun _ _ _ h => h
          case hw3 => rfl
          case hy3 => intro W' hS'; go_simp; with_reducible rfl
          try try simp only [Act.put, List.setIfInBounds_toArray, List.set_cons_zero, List.set_cons_succ]
          refine' wpAnyH_take (i := 4) (oi := _) (v := _) ?hi4 (by kernel_rfl) (by kernel_rfl) (by kernel_rfl) ?hQ4 (Or.inl ⟨?hw4, ?hy4⟩) hS ?rest4
          case hi4 => simp only [List.getElem?_toArray, List.getElem?_cons_succ, List.getElem?_cons_zero]; rfl
          case hQ4 => exact fun _ _ _ h => h
          case hw4 => rfl
          case hy4 => intro W' hS'; have cc := (hS'.cell (p := ⟨b, off + k, none⟩) hbwr).trans c0; go_simp; with_reducible rfl
          try try simp only [Act.put, List.setIfInBounds_toArray, List.set_cons_zero, List.set_cons_succ]
          refine' wpAnyH_take (i := 5) (oi := _) (v := _) ?hi5 (by kernel_rfl) (by kernel_rfl) (by kernel_rfl) ?hQ5 (Or.inl ⟨?hw5, ?hy5⟩) hS ?rest5
          case hi5 => simp only [List.getElem?_toArray, List.getElem?_cons_succ, List.getElem?_cons_zero]; rfl
          case hQ5 => exact fun _ _ _ h => h
          case hw5 => rfl
          case hy5 => intro W' hS'; go_simp; with_reducible rfl
          try try simp only [Act.put, List.setIfInBounds_toArray, List.set_cons_zero, List.set_cons_succ]
          refine' wpAnyH_take (i := 6) (oi := _) (v := _) ?hi6 (by kernel_rfl) (by kernel_rfl) (by kernel_rfl) ?hQ6 (Or.inl ⟨?hw6, ?hy6⟩) hS ?rest6
          case hi6 => simp only [List.getElem?_toArray, List.getElem?_cons_succ, List.getElem?_cons_zero]; rfl
          case hQ6 => exact fun _ _ _ h => h
          case hw6 => rfl
          case hy6 => intro W' hS'; go_simp; with_reducible rfl
          try try simp only [Act.put, List.setIfInBounds_toArray, List.set_cons_zero, List.set_cons_succ]
          refine' wpAnyH_take (i := 7) (oi := _) (v := _) ?hi7 (by kernel_rfl) (by kernel_rfl) (by kernel_rfl) ?hQ7 (Or.inl ⟨?hw7, ?hy7⟩) hS ?rest7
          case hi7 => simp only [List.getElem?_toArray, List.getElem?_cons_succ, List.getElem?_cons_zero]; rfl
          case hQ7 => exact fun _ _ _ h => h
          case hw7 => rfl
          case hy7 => intro W' hS'; go_simp; with_reducible rfl
          try try simp only [Act.put, List.setIfInBounds_toArray, List.set_cons_zero, List.set_cons_succ]
          refine' wpAnyH_take (i := 8) (oi := _) (v := _) ?hi8 (by kernel_rfl) (by kernel_rfl) (by kernel_rfl) ?hQ8 (Or.inl ⟨?hw8, ?hy8⟩) hS ?rest8
          case hi8 => simp only [List.getElem?_toArray, List.getElem?_cons_succ, List.getElem?_cons_zero]; rfl
          case hQ8 => exact fun _ _ _ h => h
          case hw8 => rfl
          case hy8 => intro W' hS'; have cc := (hS'.cell (p := ⟨g, k, none⟩) hgwr).trans cd; go_simp; with_reducible rfl
          try try simp only [Act.put, List.setIfInBounds_toArray, List.set_cons_zero, List.set_cons_succ]
          refine' wpAnyH_take (i := 9) (oi := _) (v := _) ?hi9 (by kernel_rfl) (by kernel_rfl) (by kernel_rfl) ?hQ9 (Or.inl ⟨?hw9, ?hy9⟩) hS ?rest9
          case hi9 => simp only [List.getElem?_toArray, List.getElem?_cons_succ, List.getElem?_cons_zero]; rfl
          case hQ9 => exact fun _ _ _ h => h
          case hw9 => rfl
          case hy9 => intro W' hS'; go_simp; with_reducible rfl
          try try simp only [Act.put, List.setIfInBounds_toArray, List.set_cons_zero, List.set_cons_succ]
          refine wpAnyH_ready (rs := [10]) (by kernel_rfl) (by simp) ?_
          refine' AllReadyH.cons (o := _) ?ho10 (fun K hK => ?st10) AllReadyH.nil
          case ho10 => simp only [List.getElem?_toArray, List.getElem?_cons_succ, List.getElem?_cons_zero]; rfl
          go_simp
          refine (refWalk_any x (by have := H8.out; omega) (3 - (d : Int)) _).mono ?_
          rintro e w3 ⟨rfl, hb⟩
          refine hK.out _ _ hb (fun hS2 => ?_)
          clear hK K hS2
          try try simp only [Act.put, List.setIfInBounds_toArray, List.set_cons_zero, List.set_cons_succ]
          refine wpAnyH_mono (S' := fun W => Below w3.heap.size w3 W) (fun W h => chain hb h) _ _ _ _ ?_
          replace hS : Below w3.heap.size w3 w3 := Below.refl _ _
          replace hB := hB.trans (hb.mono hszr)
          clear hb
          refine' wpAnyH_take (i := 11) (oi := _) (v := _) ?hi11 (by kernel_rfl) (by kernel_rfl) (by kernel_rfl) ?hQ11 (Or.inl ⟨?hw11, ?hy11⟩) hS ?rest11
          case hi11 => simp only [List.getElem?_toArray, List.getElem?_cons_succ, List.getElem?_cons_zero]; rfl
          case hQ11 => exact fun _ _ _ h => h
          case hw11 => rfl
          case hy11 => intro W' hS'; go_simp; with_reducible rfl
          try try simp only [Act.put, List.setIfInBounds_toArray, List.set_cons_zero, List.set_cons_succ]
          refine' wpAnyH_take (i := 12) (oi := _) (v := _) ?hi12 (by kernel_rfl) (by kernel_rfl) (by kernel_rfl) ?hQ12 (Or.inl ⟨?hw12, ?hy12⟩) hS ?rest12
          case hi12 => simp only [List.getElem?_toArray, List.getElem?_cons_succ, List.getElem?_cons_zero]; rfl
          case hQ12 => exact fun _ _ _ h => h
          case hw12 => rfl
          case hy12 => intro W' hS'; go_simp; with_reducible rfl
          try try simp only [Act.put, List.setIfInBounds_toArray, List.set_cons_zero, List.set_cons_succ]
          refine wpAnyH_done (by kernel_rfl) ?_ _
          go_wp2_with fail
          go_roundw
          case rel =>
            refine ⟨k + 1, HLT.out, by simp, by rw [HK.out], fun y hy => ?_, hB⟩
            rw [List.take_add_one, HX.out] at hy
            rcases List.mem_append.1 hy with h | h
            · exact H8K.out y h
            · have : y = x := by simpa using h
              rw [this]; exact H8.out
          case measure => have := HLT.out; simp [intOf]; omega
        · have hb8 : ((x.size : Int) != 8) = true := by simp; omega
          have hN := Lib.hid (HNO.out k x hx h8)
          clear hx h8
          go_wp2_with fail
          go_ret
          exact ⟨by rw [hN.out]; rfl, hb1.trans (hB.mono hsz1)⟩
      · obtain rfl : k = 15 := by omega
        have hall : ∀ x ∈ zs, x.size = 8 := fun x hx => H8K.out x (by rw [List.take_of_length_le (by rw [HBL.out]; omega)]; exact hx)
        have hY := Lib.hid (HYES.out hall)
        have hcs := catL_le (walked zs fun k => 3 - (digF l k : Int)) 8 (fun y hy => by have := walked_mem (m := 8) (fun x hx => by rw [hall x hx]; omega) hy; omega)
        rw [walked_length, HBL.out] at hcs
        rw [List.take_of_length_le (by rw [walked_length, HBL.out]; omega)]
        clear hall
        generalize catL (walked zs fun k => 3 - (digF l k : Int)) = cs at *
        go_wp2_with fail
        refine (refShort_any cs (by omega) _).mono ?_
        rintro e w2 ⟨rfl, hb2⟩
        go_wp2_with fail
        go_ret
        exact ⟨by rw [hY.out]; rfl, hb1.trans ((hB.trans (hb2.mono hB.size)).mono hsz1)⟩
  · have hp : Hid (openB l zs = ⟨#[]⟩) := Lib.hid (by
      unfold openB
      rw [if_neg]
      unfold wf
      simp [h15])
    have h15' : ((zs.length : Int) != 15) = true := by simp; omega
    clear h15
    go_enter Tryz.func48, Tryz.ntmps48
    go_wp2_with fail
    go_ret
    exact ⟨by rw [hp.out]; rfl, Below.refl _ _⟩
end Go.Proofs.YtbhfajnejibaoaaGreat
namespace Go.Proofs.YtbhfajnejibaoaaGreat
open Go.RowKit Go.Shelf
def leafN (g : ByteArray) : Nat := if h : 0 < g.size then g[0].toNat else 0
theorem leafN_le (g : ByteArray) : leafN g ≤ 255 := by
  unfold leafN
  split
  · have := g[0].toNat_lt
    omega
  · omega
theorem leafI_of {g : ByteArray} (h : 0 < g.size) : leafI g = (leafN g : Int) := by unfold leafI leafN; rw [dif_pos h, dif_pos h]
def cutL (g : ByteArray) : List ByteArray := upto (pieceB g) 18
theorem cutL_length (g : ByteArray) : (cutL g).length = 18 := upto_length _ _
theorem cutL_size {g : ByteArray} (hg : g.size = 145) {x : ByteArray} (h : x ∈ cutL g) : x.size = 8 := by
  unfold cutL upto at h
  obtain ⟨j, hj, rfl⟩ := List.mem_map.1 h
  have := List.mem_range.1 hj
  exact pieceB_size (by omega)
def topB (l : List UInt8) (g : ByteArray) : ByteArray := climbB (leafN g) ((cutL g).drop 15) (openB l ((cutL g).take 15)) 3
theorem openB_size (l : List UInt8) (zs : List ByteArray) : (openB l zs).size ≤ 8 := by
  unfold openB
  split
  · exact Nat.le_of_eq (shortB_size _)
  · exact Nat.zero_le _
theorem partV {W : World} {g : Nat} {zs : List ByteArray} (i m c : Nat) (h : i + m ≤ zs.length) (hc : m ≤ c) (hg : g < W.heap.size) (hx : ∀ k x, zs[k]? = some x → W.cell? ⟨g, k, none⟩ = some (.string x)) :
    VSl 0 W.heap.size W (.slice (some ⟨g, i, none⟩) m c) (((zs.drop i).take m).map tv) := by
  have hl : (((zs.drop i).take m).map tv).length = m := by rw [List.length_map, List.length_take, List.length_drop]; omega
  refine ⟨_, c, by rw [hl], by rw [hl]; exact hc, .inr ⟨g, i, rfl, Nat.zero_le _, hg, fun k x hk => ?_⟩⟩
  rw [List.getElem?_map] at hk
  obtain ⟨y, hy, rfl⟩ := Option.map_eq_some_iff.1 hk
  have hkm : k < m := by
    have := (List.getElem?_eq_some_iff.1 hy).1
    rw [List.length_take] at this
    omega
  rw [List.getElem?_take_of_lt hkm, List.getElem?_drop] at hy
  exact hx _ _ hy
def verN (g : ByteArray) (b : Bool) : Int := if b then (leafN g : Int) else 0
def VerW (n : Int) (b : Bool) (w : World) (e : Ending) (W' : World) : Prop := e = .returned (.tuple #[.int .i64 n, .bool b]) ∧ Below w.heap.size w W'
set_option maxRecDepth 100000 in
set_option maxHeartbeats 2000000 in
theorem verify_long (root : ByteArray) (tx : Value) (g : ByteArray) (hg : g.size ≠ 145) (w : World) :
    Calls Tryz.prog 55 #[.string root, tx, .string g] w (VerW 0 false w) := by
  have h1 : ((g.size : Int) == 145) = false := by simp; omega
  have h2 : ((g.size : Int) != 145) = true := by simp; omega
  go_enter Tryz.func55, Tryz.ntmps55
  go_wp2_with fail
  refine (leaf_any g _).mono ?_
  rintro e w1 ⟨rfl, rfl⟩
  go_wp2_with fail
  go_ret2
  exact ⟨rfl, Below.refl _ _⟩
set_option maxRecDepth 100000 in
set_option maxHeartbeats 2000000 in
theorem verify_leaf (root : ByteArray) (tx : Value) (g : ByteArray) (hg : g.size = 145) (h8 : 8 ≤ leafN g) (w : World) :
    Calls Tryz.prog 55 #[.string root, tx, .string g] w (VerW 0 false w) := by
  have h1 : ((g.size : Int) == 145) = true := by simp; omega
  have h2 : ((g.size : Int) != 145) = false := by simp; omega
  have HL := Lib.hid (leafI_of (g := g) (by omega))
  have h3 : 8 ≤ (leafN g : Int) := by omega
  clear hg h8
  go_enter Tryz.func55, Tryz.ntmps55
  go_wp2_with fail
  refine (leaf_any g _).mono ?_
  rw [HL.out]
  rintro e w1 ⟨rfl, rfl⟩
  go_wp2_with fail
  go_ret2
  exact ⟨rfl, Below.refl _ _⟩
set_option maxRecDepth 100000 in
set_option maxHeartbeats 2000000 in
theorem verify_top (root : ByteArray) (l : List UInt8) (tx : Value) (g : ByteArray) (hg : g.size = 145) (h8 : leafN g < 8) (w : World) (hreach : l.length ≤ 140737488353000) (htx : BSl 0 w.heap.size w tx l) (b : Bool) (hb : b = true ↔ topB l g = root) :
    Calls Tryz.prog 55 #[.string root, tx, .string g] w (VerW (verN g b) b w) := by
  have h1 : ((g.size : Int) == 145) = true := by simp; omega
  have h2 : ((g.size : Int) != 145) = false := by simp; omega
  have HL := Lib.hid (leafI_of (g := g) (by omega))
  have h3 : ¬ 8 ≤ (leafN g : Int) := by omega
  have HG := Lib.hid hg
  have HZ := Lib.hid (fun x (h : x ∈ cutL g) => cutL_size hg h)
  have HLN := Lib.hid (leafN_le g)
  have HT : Hid (topB l g = climbB (leafN g) ((cutL g).drop 15) (openB l ((cutL g).take 15)) 3) := Lib.hid rfl
  have HB := Lib.hid hb
  have htx0 := htx
  obtain ⟨ta, tc, rfl⟩ := bsl_slice htx
  clear hg h8 htx hb
  go_enter Tryz.func55, Tryz.ntmps55
  go_wp2_with fail
  refine (leaf_any g _).mono ?_
  rw [HL.out]
  rintro e w1 ⟨rfl, rfl⟩
  go_wp2_with fail
  refine (cut_any g HG.out _).mono ?_
  rintro e w2 ⟨v2, rfl, hown2, hb2⟩
  obtain ⟨q, c, rfl, hq, hx⟩ := textRow (n := 17) (zs := cutL g) (cutL_length g) hown2
  have hc : 18 ≤ c := by
    obtain ⟨_, h0 | ⟨g', cap', cur', e', _, _, hnc, _⟩⟩ := hown2
    · exact absurd h0.2 (by decide)
    · cases e'; exact hnc
  have HX := Lib.hid hx
  have hc1 : ¬ c < 15 := by omega
  have htx2 := (htx0.below hb2 (Nat.le_refl _)).mono (Nat.le_refl _) hb2.size
  clear hown2 hx htx0
  have hV15 := partV 0 15 c (by rw [cutL_length]; omega) (by omega) hq HX.out
  have h15 : (((cutL g).drop 0).take 15) = (cutL g).take 15 := rfl
  rw [h15] at hV15
  have hV3 := partV 15 3 (c - 15) (by rw [cutL_length]; omega) (by omega) hq HX.out
  have h3' : (((cutL g).drop 15).take 3) = (cutL g).drop 15 := List.take_of_length_le (by rw [List.length_drop, cutL_length]; omega)
  rw [h3'] at hV3
  have hl3 : ((cutL g).drop 15).length = 3 := by rw [List.length_drop, cutL_length]
  have hz15 : ∀ x ∈ (cutL g).take 15, x.size ≤ 9223372036854775807 := fun x hx => by rw [HZ.out x (List.mem_of_mem_take hx)]; omega
  have hz3 : ∀ x ∈ (cutL g).drop 15, x.size ≤ 8 := fun x hx => Nat.le_of_eq (HZ.out x (List.mem_of_mem_drop hx))
  have HZ15 := Lib.hid hz15
  have HZ3 := Lib.hid hz3
  have HL3 := Lib.hid hl3
  have hoz := openB_size l ((cutL g).take 15)
  clear h15 h3' hz15 hz3 hl3
  generalize (cutL g).take 15 = p15 at *
  generalize (cutL g).drop 15 = p3 at *
  go_wp2_with fail
  refine (open_any l _ p15 _ _ hreach HZ15.out htx2 hV15).mono ?_
  rintro e w3 ⟨rfl, hb3⟩
  have hV4 := (hV3.below hb3 (Nat.le_refl _)).mono (Nat.le_refl _) hb3.size
  have hB3 := chain hb2 hb3
  generalize openB l p15 = ob at *
  clear hV3 hV15 htx2 hb2 hb3
  go_wp2_with fail
  refine (climb_any (leafN g) HLN.out ob hoz p3 HL3.out HZ3.out _ _ hV4).mono ?_
  rintro e w4 ⟨rfl, hb4⟩
  rw [← HT.out]
  have hB4 := chain hB3 hb4
  generalize topB l g = top at *
  clear hB3 hb4 hV4
  cases b with
  | true =>
    obtain rfl : top = root := HB.out.1 rfl
    have he : (top.toList == top.toList) = true := by simp
    have hv : Hid (verN g true = (leafN g : Int)) := Lib.hid rfl
    go_wp2_with fail
    go_ret2
    exact ⟨by rw [hv.out]; rfl, hB4⟩
  | false =>
    have he : (top.toList == root.toList) = false := by
      rw [beq_eq_false_iff_ne]
      intro h
      rw [ByteArray.toList_eq, ByteArray.toList_eq] at h
      have h2 : top = root := ByteArray.ext (Array.toList_inj.1 h)
      exact absurd (HB.out.2 h2) (by decide)
    have hv : Hid (verN g false = 0) := Lib.hid rfl
    go_wp2_with fail
    go_ret2
    exact ⟨by rw [hv.out]; rfl, hB4⟩
end Go.Proofs.YtbhfajnejibaoaaGreat
