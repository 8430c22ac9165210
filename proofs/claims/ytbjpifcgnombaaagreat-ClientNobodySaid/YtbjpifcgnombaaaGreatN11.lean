/-
  ots' closures; whether parts are well-formed; ots.Public, ots.Sign, ots.Open; mss: a node of a key's tree; join; a key's lowest row; mss: the row above; the root; mss: the root; the path; The reference's Sum; The reference's Short, Walk, Digits; The reference's Begin
-/
import Derived.Outline
import Derived.Deep.AppendLies
import Derived.Test.YtbjpifcgnombaaaGreatN10
namespace Go.Proofs.YtbjpifcgnombaaaGreat
open Go.RowKit Go.Shelf
set_option maxHeartbeats 1000000 in
theorem toEnd_any (k : Int) (w : World) : Calls Tryz.prog 224 #[.int .i64 k] w fun e W' => e = .returned (.int .i64 3) ∧ w = W' := by
  go_enter Tryz.func224, Tryz.ntmps224
  go_wp2
  go_ret
  exact ⟨rfl, rfl⟩
def wf (zs : List ByteArray) : Bool := decide (zs.length = 15) && zs.all (fun x => x.size == 8)
end Go.Proofs.YtbjpifcgnombaaaGreat
namespace Go.Proofs.YtbjpifcgnombaaaGreat
open Go.RowKit Go.Shelf
theorem begs_mem {s : ByteArray} {f : Nat} {x : ByteArray} (h : x ∈ begs s f) : x.size = 8 := by
  obtain ⟨j, _, rfl⟩ := List.mem_map.1 h
  exact shortB_size _
theorem walked_mem {zs : List ByteArray} {d : Nat → Int} {m : Nat} (hz : ∀ x ∈ zs, x.size ≤ m) {y : ByteArray} (h : y ∈ walked zs d) : y.size ≤ max m 8 := by
  unfold walked at h
  obtain ⟨i, hi, rfl⟩ := List.mem_mapIdx.1 h
  have := linkB_size zs[i] (stp (d i))
  have := hz zs[i] (List.getElem_mem hi)
  omega
def publicB (s : ByteArray) (f : Nat) : ByteArray := joinB (walked (begs s f) fun _ => 3)
set_option maxRecDepth 100000 in
set_option maxHeartbeats 2000000 in
theorem public_any (s : ByteArray) (hs : s.size ≤ 140737488352000) (z : Int) (w : World) :
    Calls Tryz.prog 145 #[.string s, .int .i64 z] w fun e W' => e = .returned (.string (publicB s (lfN z))) ∧ Below w.heap.size w W' := by
  have hp : Hid (publicB s (lfN z) = joinB (walked (begs s (lfN z)) fun _ => 3)) := Lib.hid rfl
  go_enter Tryz.func145, Tryz.ntmps145
  go_wp2_with fail
  refine (begin_any s hs z _).mono ?_
  rintro e w1 ⟨v1, rfl, hown1, hb1⟩
  have hbl := begs_length s (lfN z)
  have hV1 := VSl.of_own (vs := (begs s (lfN z)).map tv) (by rw [List.length_map, hbl]; exact hown1)
  obtain ⟨g1, c1, rfl⟩ := ownsRow_succ hown1
  have hm : ∀ x ∈ begs s (lfN z), x.size ≤ 8 := fun x hx => by rw [begs_mem hx]; omega
  have HM := Lib.hid hm
  have HBL := Lib.hid hbl
  clear hm hbl hown1
  generalize begs s (lfN z) = bs at *
  go_wp2_with fail
  refine (walkAll_any bs (by have := HBL.out; omega) (fun x hx => by have := HM.out x hx; omega) (fun _ => 3) _ _ (hV1.mono (Nat.zero_le _) (Nat.le_refl _)) 224 #[] (enters_of Tryz.func224 (by kernel_rfl) rfl) (fun k W _ _ => (toEnd_any (k : Int) W).mono fun e W' ⟨he, hw⟩ => ⟨he, by rw [hw]; exact Below.refl _ _⟩)).mono ?_
  rintro e w2 ⟨v2, rfl, hown2, hb2⟩
  have hV2 := VSl.of_own (vs := (walked bs fun _ => 3).map tv) (by rw [List.length_map, walked_length]; exact hown2)
  obtain ⟨a2, c2, rfl⟩ := ownsRow_slice hown2
  go_wp2_with fail
  refine (join_any (walked bs fun _ => 3) (by rw [walked_length, HBL.out]; omega) (fun x hx => by have := walked_mem HM.out hx; omega) _ _ (hV2.mono (Nat.zero_le _) (Nat.le_refl _))).mono ?_
  rintro e w3 ⟨rfl, hb3⟩
  go_wp2_with fail
  go_ret
  exact ⟨by rw [hp.out]; rfl, chain (chain hb1 hb2) hb3⟩
end Go.Proofs.YtbjpifcgnombaaaGreat
namespace Go.Proofs.YtbjpifcgnombaaaGreat
open Go.RowKit Go.Shelf
def joinM (a b : ByteArray) : ByteArray := shortB (a.data.toList ++ b.data.toList)
theorem joinM_size (a b : ByteArray) : (joinM a b).size = 8 := shortB_size _
theorem publicB_size (s : ByteArray) (f : Nat) : (publicB s f).size = 8 := shortB_size _
def nodeB (s : ByteArray) : Nat → Nat → ByteArray
  | 0, i => publicB s i
  | h + 1, i => joinM (nodeB s h (2 * i)) (nodeB s h (2 * i + 1))
theorem nodeB_size (s : ByteArray) (h i : Nat) : (nodeB s h i).size = 8 := by
  cases h with
  | zero => exact publicB_size s i
  | succ h => exact joinM_size _ _
def cnt (h : Nat) : Nat := 2 ^ (3 - h)
theorem cnt_succ {h : Nat} (hh : h < 3) : cnt h = 2 * cnt (h + 1) := by
  have : h = 0 ∨ h = 1 ∨ h = 2 := by omega
  rcases this with rfl | rfl | rfl <;> rfl
theorem cnt_le (h : Nat) : cnt h ≤ 8 := by
  have h1 : 2 ^ (3 - h) ≤ 2 ^ 3 := Nat.pow_le_pow_right (by omega) (by omega)
  exact h1
theorem short_two (W : World) (v1 v2 : Value) (l1 l2 : List UInt8) (h1 : BSl 0 W.heap.size W v1 l1) (h2 : BSl 0 W.heap.size W v2 l2) (hl : l1.length + l2.length ≤ 140737488353000) :
    Calls Tryz.prog 228 #[.slice (some ⟨W.heap.size, 0, none⟩) 2 2] (W.alloc (.cells #[v1, v2] 80)) fun e W' => e = .returned (.string (shortB (l1 ++ l2))) ∧ Below W.heap.size W W' := by
  have hb : Below W.heap.size W (W.alloc (.cells #[v1, v2] 80)) := chain0 _ _
  have up : ∀ {v : Value} {l : List UInt8}, BSl 0 W.heap.size W v l → BSl 0 (W.alloc (.cells #[v1, v2] 80)).heap.size (W.alloc (.cells #[v1, v2] 80)) v l := fun h => (h.below hb (Nat.le_refl _)).mono (Nat.le_refl _) hb.size
  have hs := short_of (W.alloc (.cells #[v1, v2] 80)) (.slice (some ⟨W.heap.size, 0, none⟩) 2 2) [(v1, l1), (v2, l2)] (by simp) (fun p hp => by
    simp only [List.mem_cons, List.not_mem_nil, or_false] at hp
    rcases hp with rfl | rfl
    · exact ⟨up h1, by show l1.length ≤ _; omega⟩
    · exact ⟨up h2, by show l2.length ≤ _; omega⟩) (by simp; omega) ⟨_, 2, rfl, Nat.le_refl _, .inr ⟨_, 0, rfl, Nat.zero_le _, by simp, fun k x hx => by
      have hB : Blk (W.alloc (.cells #[v1, v2] 80)) W.heap.size 80 [v1, v2] := Blk.new W _ [v1, v2]
      rw [Nat.zero_add, hB.cell]
      exact hx⟩⟩
  refine hs.mono fun e W' ⟨he, hb2⟩ => ⟨?_, chain hb hb2⟩
  rw [he]
  simp
set_option maxRecDepth 100000 in
set_option maxHeartbeats 2000000 in
theorem joinM_any (a b : ByteArray) (hs : a.size + b.size ≤ 140737488353000) (w : World) :
    Calls Tryz.prog 146 #[.string a, .string b] w fun e W' => e = .returned (.string (joinM a b)) ∧ Below w.heap.size w W' := by
  obtain ⟨c1, W1, hcv1, hb1, hz1, ht1⟩ := conv_txt w a
  obtain ⟨c2, W2, hcv2, hb2, hz2, ht2⟩ := conv_txt W1 b
  have h1 := (ht1.below hb2).bsl.mono (Nat.zero_le _) (Nat.le_refl _)
  have h2 := ht2.bsl.mono (Nat.zero_le _) (Nat.le_refl _)
  have hp : Hid (joinM a b = shortB (a.data.toList ++ b.data.toList)) := Lib.hid rfl
  have HS := Lib.hid (show a.data.toList.length + b.data.toList.length ≤ 140737488353000 from hs)
  clear hz1 hz2 ht1 ht2 hs
  go_enter Tryz.func146, Tryz.ntmps146
  go_wp2_with fail
  refine (short_two _ _ _ _ _ h1 h2 HS.out).mono ?_
  rintro e w3 ⟨rfl, hb3⟩
  go_wp2_with fail
  go_ret
  exact ⟨by rw [hp.out]; rfl, chain (chain hb1 hb2) hb3⟩
theorem cell_new1 (w : World) (t : TypeId) (v : Value) : ∀ (j : Nat) (u : Value), [v][j]? = some u → (w.alloc (.cells #[v] t)).cell? ((⟨w.heap.size, 0, none⟩ : Addr).add j) = some u := fun j u hu => by
  have hp : (⟨w.heap.size, 0, none⟩ : Addr).add j = ⟨w.heap.size, j, none⟩ := by cases j <;> simp [Addr.add]
  rw [hp, (Blk.new w t [v]).cell]
  exact hu
theorem upto_snoc {α : Type} (f : Nat → ByteArray) (k : Nat) (g : ByteArray → α) : (upto f (k + 1)).map g = (upto f k).map g ++ [g (f k)] := by rw [upto_succ, List.map_append]; rfl
set_option maxRecDepth 100000 in
set_option maxHeartbeats 2000000 in
theorem lowest_any (s : ByteArray) (hs : s.size ≤ 140737488352000) (w : World) :
    Calls Tryz.prog 73 #[.string s] w (RowW w.heap.size 9 8 ((upto (nodeB s 0) 8).map tv) w) := by
  obtain ⟨i0, hi, hz0, hz1, hz2⟩ := info_parts Tryz.infoStr
  go_enter Tryz.func73, Tryz.ntmps73
  go_wp2
  go_loopw [3, 5] (fun v i wr => ∃ k : Nat, k ≤ 8 ∧ i = .int .i64 (k : Nat) ∧ wr.ownsRow w.heap.size 9 1 v k ((upto (nodeB s 0) k).map tv) ∧ Below w.heap.size w wr) (fun _ i _ => 8 - (intOf i).toNat)
  case atStart => exact ⟨0, by omega, rfl, World.ownsRow_nil _ _ _ _, Below.refl _ _⟩
  case round =>
    obtain ⟨k, hk, rfl, hown, hB⟩ := hrel
    obtain ⟨va, vc, rfl⟩ := ownsRow_slice hown
    by_cases hlt : k < 8
    · have HT := Lib.hid (upto_snoc (nodeB s 0) k tv)
      have hf : lfN (k : Int) = k := by have := lfN_cases (k : Int); omega
      have HF : Hid (nodeB s 0 k = publicB s (lfN (k : Int))) := Lib.hid (by rw [hf]; rfl)
      have hlt' : (k : Int) < 8 := by omega
      have HLT := Lib.hid hlt
      clear hlt hk hf
      generalize (upto (nodeB s 0) k).map tv = ts at *
      go_wp2_with fail
      refine (public_any s hs (k : Int) _).mono ?_
      rw [← HF.out]
      rintro e w2 ⟨rfl, hb2⟩
      have hown2 := own_below hown hb2
      have hB2 := hB.trans (hb2.mono hB.size)
      have hNW := hB2.size
      generalize nodeB s 0 k = x at *
      clear hown hB hb2
      go_wp2_with (at_builtin; refine wpList_append_own _ rfl _ _ 61 rfl w.heap.size 9 i0 (.string ⟨#[]⟩) 1 16 Tryz.underlying61 hi hz0 hz1 hz2 rfl (by decide) (.slice va k vc) k ts rfl (hown2.alloc _) ⟨w2.heap.size, 0, none⟩ 1 1 [tv x] rfl rfl (cell_new1 _ _ _) (by simp [Value.oneCell']) (by have := HLT.out; unfold maxLen; omega) (by have := HLT.out; omega) (by simp; omega) ?_; intro v' w3 hown' hgrow _; obtain ⟨g2, c2, rfl⟩ := ownsRow_succ hown')
      have hB3 : Below w.heap.size w w3 := (hB2.alloc hNW _).grown hgrow (Nat.le_trans hNW (by simp)) (fun j hj => (World.ownsRow.lt hown2 j hj).1)
      go_roundw
      case rel => exact ⟨k + 1, HLT.out, by simp, by rw [HT.out]; exact hown', hB3⟩
      case measure => have := HLT.out; simp [intOf]; omega
    · obtain rfl : k = 8 := by omega
      go_wp2
      go_ret
      exact ⟨_, rfl, hown, hB⟩
end Go.Proofs.YtbjpifcgnombaaaGreat
namespace Go.Proofs.YtbjpifcgnombaaaGreat
open Go.RowKit Go.Shelf
theorem upto_at (f : Nat → ByteArray) {n k : Nat} (h : k < n) : ((upto f n).map tv)[k]? = some (.string (f k)) := by
  unfold upto
  rw [List.getElem?_map, List.getElem?_map, List.getElem?_range h]
  rfl
theorem upto_row {lo hi : Nat} {W : World} {f : Nat → ByteArray} {n : Nat} {a : Option Addr} {len cap : Nat} (h : VSl lo hi W (.slice a len cap) ((upto f n).map tv)) (hn : 0 < n) :
    len = n ∧ ∃ b off, a = some ⟨b, off, none⟩ ∧ b < hi ∧ ∀ k, k < n → W.cell? ⟨b, off + k, none⟩ = some (.string (f k)) := by
  obtain ⟨a', c', e, hc, h0⟩ := h
  have hl : ((upto f n).map tv).length = n := by rw [List.length_map, upto_length]
  cases e
  refine ⟨hl, ?_⟩
  rcases h0 with h0 | ⟨b, off, ha, _, hb, hr⟩
  · rw [h0] at hl
    simp at hl
    omega
  · exact ⟨b, off, ha, hb, fun k hk => hr k _ (upto_at f hk)⟩
def overF (f : Nat → ByteArray) (k : Nat) : ByteArray := joinM (f (2 * k)) (f (2 * k + 1))
set_option maxRecDepth 100000 in
set_option maxHeartbeats 8000000 in
theorem above_any (f : Nat → ByteArray) (hf : ∀ i, (f i).size ≤ 1000) (n : Nat) (h0 : 0 < n) (hn : n ≤ 1000) (a : Option Addr) (len cap : Nat) (w : World) (hsv : VSl 0 w.heap.size w (.slice a len cap) ((upto f (2 * n)).map tv)) :
    Calls Tryz.prog 74 #[.slice a len cap] w (RowW w.heap.size 9 n ((upto (overF f) n).map tv) w) := by
  have hmx : Tryz.prog.follows .mixedOrders = true := by kernel_rfl
  obtain ⟨i0, hi, hz0, hz1, hz2⟩ := info_parts Tryz.infoStr
  obtain ⟨rfl, b, off, rfl, hbw, hcell⟩ := upto_row hsv (by omega)
  have HC := Lib.hid hcell
  have HF := Lib.hid hf
  clear hcell hf hsv
  have hdiv : ((2 * n : Nat) : Int) / 2 = (n : Int) := by omega
  generalize hL : 2 * n = L at *
  have HL := Lib.hid hL
  have hL2 : L ≤ 2000 := by omega
  clear hL
  go_enter Tryz.func74, Tryz.ntmps74
  go_wp2
  clear hdiv
  go_loopw [3, 8] (fun v i wr => ∃ k : Nat, k ≤ n ∧ i = .int .i64 (k : Nat) ∧ wr.ownsRow w.heap.size 9 1 v k ((upto (overF f) k).map tv) ∧ Below w.heap.size w wr) (fun _ i _ => n - (intOf i).toNat)
  case atStart => exact ⟨0, by omega, rfl, World.ownsRow_nil _ _ _ _, Below.refl _ _⟩
  case round =>
    obtain ⟨k, hk, rfl, hown, hB⟩ := hrel
    obtain ⟨va, vc, rfl⟩ := ownsRow_slice hown
    by_cases hlt : k < n
    · have HT := Lib.hid (upto_snoc (overF f) k tv)
      have c0 := HC.out (2 * k) (by have := HL.out; omega)
      have c1 := HC.out (2 * k + 1) (by have := HL.out; omega)
      have s0 := HF.out (2 * k)
      have s1 := HF.out (2 * k + 1)
      have HO : Hid (overF f k = joinM (f (2 * k)) (f (2 * k + 1))) := Lib.hid rfl
      have hlt' : (k : Int) < (n : Int) := by omega
      have HLT := Lib.hid hlt
      have e0 : IntKind.i64.wrap (2 * (k : Int)) = ((2 * k : Nat) : Int) := by rw [IntKind.wrap_i64]; omega
      have e1 : IntKind.i64.wrap (((2 * k : Nat) : Int) + 1) = ((2 * k + 1 : Nat) : Int) := by rw [IntKind.wrap_i64]; omega
      have i1 : 2 * k < L := by have := HL.out; omega
      have i2 : 2 * k + 1 < L := by have := HL.out; omega
      clear hlt hk
      generalize (upto (overF f) k).map tv = ts at *
      generalize f (2 * k) = x at *
      generalize f (2 * k + 1) = y at *
      generalize hp0 : 2 * k + 1 = q1 at *
      generalize hp1 : 2 * k = q0 at *
      have HP0 := Lib.hid hp0
      clear hp0 hp1
      go_wp2_with fail
      refine wp_region_held_drew (S := fun W => Below w.heap.size w W) hmx hB.drew ?_
      intro hS
      have hWd : Below wr.heap.size wr wr.drew := (Below.refl _ wr).drew
      replace hown : wr.drew.ownsRow w.heap.size 9 1 (.slice va k vc) k ts := hown
      generalize wr.drew = Y at *
      refine' wpAnyH_take (i := 0) (oi := _) (v := _) ?hi1 (by kernel_rfl) (by kernel_rfl) (by kernel_rfl) ?hQ1 (Or.inl ⟨?hw1, ?hy1⟩) hS ?rest1
      case hi1 => simp only [List.getElem?_toArray, List.getElem?_cons_zero]; rfl
      case hQ1 => exact fun _ _ _ h => h
      case hw1 => rfl
      case hy1 => intro W' hS'; go_simp; with_reducible rfl
      try simp only [Act.put, List.setIfInBounds_toArray, List.set_cons_zero, List.set_cons_succ]
      refine' wpAnyH_take (i := 1) (oi := _) (v := _) ?hi2 (by kernel_rfl) (by kernel_rfl) (by kernel_rfl) ?hQ2 (Or.inl ⟨?hw2, ?hy2⟩) hS ?rest2
      case hi2 => simp only [List.getElem?_toArray, List.getElem?_cons_succ, List.getElem?_cons_zero]; rfl
      case hQ2 => exact fun _ _ _ h => h
      case hw2 => rfl
      case hy2 => intro W' hS'; go_simp; with_reducible rfl
      try simp only [Act.put, List.setIfInBounds_toArray, List.set_cons_zero, List.set_cons_succ]
      refine' wpAnyH_take (i := 2) (oi := _) (v := _) ?hi3 (by kernel_rfl) (by kernel_rfl) (by kernel_rfl) ?hQ3 (Or.inl ⟨?hw3, ?hy3⟩) hS ?rest3
      case hi3 => simp only [List.getElem?_toArray, List.getElem?_cons_succ, List.getElem?_cons_zero]; rfl
      case hQ3 => exact fun _ _ _ h => h
      case hw3 => rfl
      case hy3 => intro W' hS'; go_simp; with_reducible rfl
      try simp only [Act.put, List.setIfInBounds_toArray, List.set_cons_zero, List.set_cons_succ]
      refine' wpAnyH_take (i := 3) (oi := _) (v := _) ?hi4 (by kernel_rfl) (by kernel_rfl) (by kernel_rfl) ?hQ4 (Or.inl ⟨?hw4, ?hy4⟩) hS ?rest4
      case hi4 => simp only [List.getElem?_toArray, List.getElem?_cons_succ, List.getElem?_cons_zero]; rfl
      case hQ4 => exact fun _ _ _ h => h
      case hw4 => rfl
      case hy4 => intro W' hS'; go_simp; with_reducible rfl
      try simp only [Act.put, List.setIfInBounds_toArray, List.set_cons_zero, List.set_cons_succ]
      refine' wpAnyH_take (i := 4) (oi := _) (v := _) ?hi5 (by kernel_rfl) (by kernel_rfl) (by kernel_rfl) ?hQ5 (Or.inl ⟨?hw5, ?hy5⟩) hS ?rest5
      case hi5 => simp only [List.getElem?_toArray, List.getElem?_cons_succ, List.getElem?_cons_zero]; rfl
      case hQ5 => exact fun _ _ _ h => h
      case hw5 => rfl
      case hy5 => intro W' hS'; go_simp; with_reducible rfl
      try simp only [Act.put, List.setIfInBounds_toArray, List.set_cons_zero, List.set_cons_succ]
      refine' wpAnyH_take (i := 5) (oi := _) (v := _) ?hi6 (by kernel_rfl) (by kernel_rfl) (by kernel_rfl) ?hQ6 (Or.inl ⟨?hw6, ?hy6⟩) hS ?rest6
      case hi6 => simp only [List.getElem?_toArray, List.getElem?_cons_succ, List.getElem?_cons_zero]; rfl
      case hQ6 => exact fun _ _ _ h => h
      case hw6 => rfl
      case hy6 => intro W' hS'; have hc := (hS'.cell (p := ⟨b, off + q0, none⟩) hbw).trans c0; go_simp; with_reducible rfl
      try simp only [Act.put, List.setIfInBounds_toArray, List.set_cons_zero, List.set_cons_succ]
      refine' wpAnyH_take (i := 6) (oi := _) (v := _) ?hi7 (by kernel_rfl) (by kernel_rfl) (by kernel_rfl) ?hQ7 (Or.inl ⟨?hw7, ?hy7⟩) hS ?rest7
      case hi7 => simp only [List.getElem?_toArray, List.getElem?_cons_succ, List.getElem?_cons_zero]; rfl
      case hQ7 => exact fun _ _ _ h => h
      case hw7 => rfl
      case hy7 => intro W' hS'; go_simp; with_reducible rfl
      try simp only [Act.put, List.setIfInBounds_toArray, List.set_cons_zero, List.set_cons_succ]
      refine' wpAnyH_take (i := 7) (oi := _) (v := _) ?hi8 (by kernel_rfl) (by kernel_rfl) (by kernel_rfl) ?hQ8 (Or.inl ⟨?hw8, ?hy8⟩) hS ?rest8
      case hi8 => simp only [List.getElem?_toArray, List.getElem?_cons_succ, List.getElem?_cons_zero]; rfl
      case hQ8 => exact fun _ _ _ h => h
      case hw8 => rfl
      case hy8 => intro W' hS'; go_simp; with_reducible rfl
      try simp only [Act.put, List.setIfInBounds_toArray, List.set_cons_zero, List.set_cons_succ]
      refine' wpAnyH_take (i := 8) (oi := _) (v := _) ?hi9 (by kernel_rfl) (by kernel_rfl) (by kernel_rfl) ?hQ9 (Or.inl ⟨?hw9, ?hy9⟩) hS ?rest9
      case hi9 => simp only [List.getElem?_toArray, List.getElem?_cons_succ, List.getElem?_cons_zero]; rfl
      case hQ9 => exact fun _ _ _ h => h
      case hw9 => rfl
      case hy9 => intro W' hS'; go_simp; with_reducible rfl
      try simp only [Act.put, List.setIfInBounds_toArray, List.set_cons_zero, List.set_cons_succ]
      refine' wpAnyH_take (i := 9) (oi := _) (v := _) ?hi10 (by kernel_rfl) (by kernel_rfl) (by kernel_rfl) ?hQ10 (Or.inl ⟨?hw10, ?hy10⟩) hS ?rest10
      case hi10 => simp only [List.getElem?_toArray, List.getElem?_cons_succ, List.getElem?_cons_zero]; rfl
      case hQ10 => exact fun _ _ _ h => h
      case hw10 => rfl
      case hy10 => intro W' hS'; go_simp; with_reducible rfl
      try simp only [Act.put, List.setIfInBounds_toArray, List.set_cons_zero, List.set_cons_succ]
      refine' wpAnyH_take (i := 10) (oi := _) (v := _) ?hi11 (by kernel_rfl) (by kernel_rfl) (by kernel_rfl) ?hQ11 (Or.inl ⟨?hw11, ?hy11⟩) hS ?rest11
      case hi11 => simp only [List.getElem?_toArray, List.getElem?_cons_succ, List.getElem?_cons_zero]; rfl
      case hQ11 => exact fun _ _ _ h => h
      case hw11 => rfl
      case hy11 => intro W' hS'; go_simp; with_reducible rfl
      try simp only [Act.put, List.setIfInBounds_toArray, List.set_cons_zero, List.set_cons_succ]
      refine' wpAnyH_take (i := 11) (oi := _) (v := _) ?hi12 (by kernel_rfl) (by kernel_rfl) (by kernel_rfl) ?hQ12 (Or.inl ⟨?hw12, ?hy12⟩) hS ?rest12
      case hi12 => simp only [List.getElem?_toArray, List.getElem?_cons_succ, List.getElem?_cons_zero]; rfl
      case hQ12 => exact fun _ _ _ h => h
      case hw12 => rfl
      case hy12 => intro W' hS'; have hc := (hS'.cell (p := ⟨b, off + q1, none⟩) hbw).trans c1; go_simp; with_reducible rfl
      try simp only [Act.put, List.setIfInBounds_toArray, List.set_cons_zero, List.set_cons_succ]
      refine wpAnyH_ready (rs := [12]) (by kernel_rfl) (by simp) ?_
      refine' AllReadyH.cons (o := _) ?ho13 (fun K hK => ?st13) AllReadyH.nil
      case ho13 => simp only [List.getElem?_toArray, List.getElem?_cons_succ, List.getElem?_cons_zero]; rfl
      case st13 =>
        go_simp
        refine (joinM_any x y (by omega) _).mono ?_
        rintro e Y1 ⟨rfl, hb⟩
        refine hK.out _ _ (hS.trans (hb.mono hS.size)) (fun hS => ?_)
        clear hK K
        try simp only [Act.put, List.setIfInBounds_toArray, List.set_cons_zero, List.set_cons_succ]
        replace hown := own_below hown hb
        clear hb
        refine wpAnyH_ready (rs := [13]) (by kernel_rfl) (by simp) ?_
        refine' AllReadyH.cons (o := _) ?ho14 (fun K hK => ?st14) AllReadyH.nil
        case ho14 => simp only [List.getElem?_toArray, List.getElem?_cons_succ, List.getElem?_cons_zero]; rfl
        case st14 =>
          go_simp
          refine hK.out _ _ (hS.alloc hS.size _) (fun hS => ?_)
          clear hK K
          try simp only [Act.put, List.setIfInBounds_toArray, List.set_cons_zero, List.set_cons_succ]
          have kt := cell_new1 Y1 9 (tv (joinM x y))
          replace hown := hown.alloc (.cells #[tv (joinM x y)] 9)
          generalize (Y1.alloc (.cells #[tv (joinM x y)] 9)) = Y2 at *
          generalize Y1.heap.size = gt at *
          refine wpAnyH_ready (rs := [14]) (by kernel_rfl) (by simp) ?_
          refine' AllReadyH.cons (o := _) ?ho15 (fun K hK => ?st15) AllReadyH.nil
          case ho15 => simp only [List.getElem?_toArray, List.getElem?_cons_succ, List.getElem?_cons_zero]; rfl
          case st15 =>
            refine step_append_lies _ rfl (.tmp 11) (.tmp 24) 61 rfl w.heap.size 9 i0 (.string ⟨#[]⟩) 1 16 Tryz.underlying61 hi hz0 hz1 hz2 rfl (by decide) (.slice va k vc) k ts rfl hown ⟨gt, 0, none⟩ 1 1 [tv (joinM x y)] rfl rfl kt (by simp [Value.oneCell']) (by decide) (by have := HLT.out; unfold maxLen; omega) (by have := HLT.out; omega) hS.size _ rfl ?_
            intro g c w1 hown' hgrow _ _
            have hS1 : Below w.heap.size w w1 := hS.grown hgrow hS.size (fun j hj => (World.ownsRow.lt hown j hj).1)
            refine hK.out _ _ hS1 (fun _ => ?_)
            clear hK K
            try simp only [Act.put, List.setIfInBounds_toArray, List.set_cons_zero, List.set_cons_succ]
            refine wpAnyH_ready (rs := [15]) (by kernel_rfl) (by simp) ?_
            refine' AllReadyH.cons (o := _) ?ho16 (fun K hK => ?st16) AllReadyH.nil
            case ho16 => simp only [List.getElem?_toArray, List.getElem?_cons_succ, List.getElem?_cons_zero]; rfl
            case st16 =>
              go_simp
              refine hK.out _ _ hS1 (fun _ => ?_)
              clear hK K
              try simp only [Act.put, List.setIfInBounds_toArray, List.set_cons_zero, List.set_cons_succ]
              refine wpAnyH_done (by kernel_rfl) ?_ _
              clear hown kt hS hB hWd
              go_wp2_with fail
              go_roundw
              case rel => exact ⟨k + 1, HLT.out, by simp, by rw [HT.out, HO.out]; exact hown', hS1⟩
              case measure => have := HLT.out; simp [intOf]; omega
    · obtain rfl : k = n := by omega
      go_wp2
      go_ret
      exact ⟨_, rfl, hown, hB⟩
end Go.Proofs.YtbjpifcgnombaaaGreat
namespace Go.Proofs.YtbjpifcgnombaaaGreat
open Go.RowKit Go.Shelf
theorem overF_node (s : ByteArray) (h : Nat) : overF (nodeB s h) = nodeB s (h + 1) := rfl
def rootB (s : ByteArray) : ByteArray := nodeB s 3 0
theorem rootB_size (s : ByteArray) : (rootB s).size = 8 := nodeB_size _ _ _
theorem above_own (s : ByteArray) (k : Nat) (hk : k < 3) (n₀ : Nat) (a : Option Addr) (c : Nat) (W : World) (hown : W.ownsRow n₀ 9 1 (.slice a (cnt k) c) (cnt k) ((upto (nodeB s k) (cnt k)).map tv)) :
    Calls Tryz.prog 74 #[.slice a (cnt k) c] W (RowW W.heap.size 9 (cnt (k + 1)) ((upto (nodeB s (k + 1)) (cnt (k + 1))).map tv) W) := by
  have hc := cnt_succ hk
  have hV := VSl.of_own (vs := (upto (nodeB s k) (cnt k)).map tv) (by rw [List.length_map, upto_length]; exact hown)
  have h8 := cnt_le (k + 1)
  have h0 : 0 < cnt (k + 1) := Nat.pow_pos (by omega)
  rw [← overF_node]
  refine above_any (nodeB s k) (fun i => by rw [nodeB_size]; omega) (cnt (k + 1)) h0 (by omega) a _ c W ?_
  have e : (upto (nodeB s k) (2 * cnt (k + 1))).map tv = (upto (nodeB s k) (cnt k)).map tv := by rw [hc]
  rw [e]
  exact hV.mono (Nat.zero_le _) (Nat.le_refl _)
set_option maxRecDepth 100000 in
set_option maxHeartbeats 2000000 in
theorem root_any (s : ByteArray) (hs : s.size ≤ 140737488352000) (w : World) :
    Calls Tryz.prog 30 #[.string s] w fun e W' => e = .returned (.string (rootB s)) ∧ Below w.heap.size w W' := by
  have hp : Hid (rootB s = nodeB s 3 0) := Lib.hid rfl
  go_enter Tryz.func30, Tryz.ntmps30
  go_wp2_with fail
  refine (lowest_any s hs _).mono ?_
  rintro e w1 ⟨v1, rfl, hown1, hb1⟩
  go_wp2
  go_loopw [3, 6] (fun v i wr => ∃ k : Nat, k ≤ 3 ∧ i = .int .i64 (k : Nat) ∧ wr.ownsRow w.heap.size 9 1 v (cnt k) ((upto (nodeB s k) (cnt k)).map tv) ∧ Below w.heap.size w wr) (fun _ i _ => 3 - (intOf i).toNat)
  case atStart => exact ⟨0, by omega, rfl, hown1, hb1⟩
  clear hown1 hb1
  case round =>
    obtain ⟨k, hk, rfl, hown, hB⟩ := hrel
    obtain ⟨va, vc, rfl⟩ := ownsRow_slice hown
    by_cases hlt : k < 3
    · have hlt' : (k : Int) < 3 := by omega
      have HA := Lib.hid (above_own s k hlt _ va vc wr hown)
      have HLT := Lib.hid hlt
      clear hlt hk
      generalize cnt k = c0 at *
      go_wp2_with fail
      refine (HA.out).mono ?_
      rintro e w2 ⟨v2, rfl, hown2, hb2⟩
      have hown3 := own_base hown2 hB.size
      have hB2 := hB.trans (hb2.mono hB.size)
      clear hown2 hown hB hb2
      go_wp2_with fail
      go_roundw
      case rel => exact ⟨k + 1, HLT.out, by simp, hown3, hB2⟩
      case measure => have := HLT.out; simp [intOf]; omega
    · obtain rfl : k = 3 := by omega
      have hV := VSl.of_own (vs := (upto (nodeB s 3) (cnt 3)).map tv) (by rw [List.length_map, upto_length]; exact hown)
      obtain ⟨_, b, off, rfl, hbw, hcell⟩ := upto_row hV (by decide)
      have c0 := hcell 0 (by decide)
      rw [Nat.add_zero] at c0
      rw [show cnt 3 = 1 from rfl]
      clear hcell hown hV
      generalize nodeB s 3 0 = x at *
      go_wp2
      go_ret
      exact ⟨by rw [hp.out]; rfl, hB⟩
end Go.Proofs.YtbjpifcgnombaaaGreat
namespace Go.Proofs.YtbjpifcgnombaaaGreat
open Go.RowKit Go.Shelf
theorem sq_lits : uv sq 8 = .agg #[.int .u32 1779033703, .int .u32 3144134277, .int .u32 1013904242, .int .u32 2773480762, .int .u32 1359893119, .int .u32 2600822924, .int .u32 528734635, .int .u32 1541459225] := by
  show Value.agg (us sq 8).toArray = _
  rw [← sq_us]
  rfl
set_option maxRecDepth 100000 in
set_option maxHeartbeats 2000000 in
theorem refSum_any (l : List UInt8) (sv : Value) (w : World) (hreach : l.length ≤ 140737488353000) (hsv : BSl 0 w.heap.size w sv l) :
    Calls Tryz.prog 222 #[sv] w (ByO (sumL cb sq l) w) := by
  have hsv0 := hsv
  obtain ⟨a, cap, rfl, hcap, hcs⟩ := hsv
  clear hcs
  go_enter Tryz.func222, Tryz.ntmps222
  go_wp2_with fail
  refine (table_any _).mono ?_
  rintro e w1 ⟨rfl, hb1⟩
  go_wp2_with fail
  rw [← sq_lits]
  refine (refOver_any l _ sq cb _ hreach ((hsv0.below hb1 (Nat.le_refl _)).mono (Nat.le_refl _) hb1.size)).mono ?_
  rintro e w2 ⟨v, rfl, hown, hb2⟩
  go_wp2_with fail
  go_ret
  exact ⟨_, rfl, own_base4 hown hb1.size, chain hb1 hb2⟩
end Go.Proofs.YtbjpifcgnombaaaGreat
namespace Go.Proofs.YtbjpifcgnombaaaGreat
open Go.RowKit Go.Shelf
set_option maxRecDepth 100000 in
set_option maxHeartbeats 2000000 in
theorem refShort_any (s : ByteArray) (hs : s.size ≤ 140737488353000) (w : World) :
    Calls Tryz.prog 143 #[.string s] w fun e W' => e = .returned (.string (shortB s.data.toList)) ∧ Below w.heap.size w W' := by
  obtain ⟨c1, W1, hcv, hc1, hb1, hz1, ho1⟩ := conv_bytes w s
  have hnew := conv_bsl hc1 hz1 ho1
  clear hc1 hz1 ho1
  have hS : Hid (shortB s.data.toList = (sumS s.data.toList).extract 0 8) := Lib.hid rfl
  have hl : s.data.toList.length ≤ 140737488353000 := hs
  go_enter Tryz.func143, Tryz.ntmps143
  go_wp2_with fail
  refine (refSum_any s.data.toList _ _ hl (hnew.mono (Nat.zero_le _) (Nat.le_refl _))).mono ?_
  rintro e w2 ⟨v2, rfl, hown2, hb2⟩
  have hcv2 := run_string (P := Tryz.prog) 80 5 9 Tryz.underlying80 Tryz.underlying5 Tryz.underlying9 w2 (BSl.of_own hown2)
  obtain ⟨a2, c2, rfl⟩ := ownsRow_slice hown2
  have hss : (⟨(sumL cb sq s.data.toList).toArray⟩ : ByteArray) = sumS s.data.toList := rfl
  rw [hss] at hcv2
  have h8 : 8 ≤ (sumS s.data.toList).size := by rw [sumS_size]; omega
  have h8' : (8 : Int) ≤ ((sumS s.data.toList).size : Int) := by omega
  clear hss
  generalize hq : sumS s.data.toList = q at *
  have HQ := Lib.hid hq
  clear hq
  go_wp2_with fail
  go_ret
  exact ⟨by rw [hS.out]; rfl, chain hb1 hb2⟩
set_option maxRecDepth 100000 in
set_option maxHeartbeats 2000000 in
theorem refWalk_any (s : ByteArray) (hs : s.size ≤ 140737488353000) (n : Int) (w : World) :
    Calls Tryz.prog 221 #[.string s, .int .i64 n] w fun e W' => e = .returned (.string (linkB s (stp n))) ∧ Below w.heap.size w W' := by
  have h3 := stp_le n
  have hC := Lib.hid (stp_cases n)
  go_enter Tryz.func221, Tryz.ntmps221
  go_wp2
  go_loopw [0, 5] (fun v i wr => ∃ k : Nat, k ≤ stp n ∧ i = .int .i64 (k : Nat) ∧ v = .string (linkB s k) ∧ Below w.heap.size w wr) (fun _ i _ => 3 - (intOf i).toNat)
  case atStart => exact ⟨0, by omega, rfl, rfl, Below.refl _ _⟩
  case round =>
    obtain ⟨k, hk, rfl, rfl, hB⟩ := hrel
    have hls := linkB_size s k
    by_cases hlt : k < stp n
    · have h1 : decide ((k : Int) < n) = true := by
        rcases hC.out with ⟨h, e⟩ | ⟨h, h', e⟩ | ⟨h, e⟩ <;> simp <;> omega
      have h2 : (k : Int) < 3 := by omega
      have HLT := Lib.hid hlt
      have HK := Lib.hid hk
      have H3 := Lib.hid h3
      clear hlt hk h3
      go_wp2_with fail
      refine (refShort_any (linkB s k) (by omega) _).mono ?_
      rintro e w2 ⟨rfl, hb2⟩
      go_wp2_with fail
      go_roundw
      case rel => exact ⟨k + 1, HLT.out, by simp, rfl, hB.trans (hb2.mono hB.size)⟩
      case measure => have := H3.out; have := HLT.out; simp [intOf]; omega
    · obtain rfl : k = stp n := by omega
      by_cases hn : (stp n : Int) < n
      · have h1 : decide ((stp n : Int) < n) = true := by simpa using hn
        have h2 : ¬ (stp n : Int) < 3 := by rcases hC.out with ⟨h, e⟩ | ⟨h, h', e⟩ | ⟨h, e⟩ <;> omega
        clear hn
        generalize hst : stp n = k at *
        have HST := Lib.hid hst
        clear hst
        go_wp2_with fail
        go_ret
        exact ⟨by rw [HST.out]; rfl, hB⟩
      · have h1 : decide ((stp n : Int) < n) = false := by simpa using hn
        clear hn
        generalize hst : stp n = k at *
        have HST := Lib.hid hst
        clear hst
        go_wp2_with fail
        go_ret
        exact ⟨by rw [HST.out]; rfl, hB⟩
end Go.Proofs.YtbjpifcgnombaaaGreat
namespace Go.Proofs.YtbjpifcgnombaaaGreat
open Go.RowKit Go.Shelf
theorem octs_one {k : Nat} (hk : k < 256) : octs (two (k : Int)) 1 = [UInt8.ofNat k] := by
  have h : two (k : Int) = k := by unfold two; omega
  rw [h]
  simp [octs, oct]
theorem begB_of (s : ByteArray) (f k : Nat) (hk : k < 15) : begB s f k = shortB (s ++ ⟨(octs (two (f : Int)) 2).toArray⟩ ++ ⟨([UInt8.ofNat k] : List UInt8).toArray⟩).data.toList := by
  unfold begB
  rw [octs_one (by omega)]
  congr 1
  simp
set_option maxRecDepth 100000 in
set_option maxHeartbeats 8000000 in
theorem refBegin_any (s : ByteArray) (hs : s.size ≤ 140737488352000) (z : Int) (w : World) :
    Calls Tryz.prog 220 #[.string s, .int .i64 z] w (RowW w.heap.size 9 15 ((begs s (lfN z)).map tv) w) := by
  have hmx : Tryz.prog.follows .mixedOrders = true := by kernel_rfl
  obtain ⟨i0, hi, hz0, hz1, hz2⟩ := info_parts Tryz.infoStr
  have hCC := lfN_cases z
  have hbl := begs_length s (lfN z)
  have hbat : ∀ k, k < 15 → ((begs s (lfN z)).map tv).take (k + 1) = ((begs s (lfN z)).map tv).take k ++ [tv (begB s (lfN z) k)] := fun k hk => by rw [List.take_add_one, List.getElem?_map, begs_at s _ hk]; rfl
  have HBA := Lib.hid hbat
  have HBL := Lib.hid hbl
  clear hbat hbl
  generalize lfN z = f at *
  obtain ⟨u, hq1, hq2⟩ : ∃ u : Int, (if z < 0 then (0 : Int) else z) = u ∧ (if 65535 < u then (65535 : Int) else u) = (f : Int) := by
    refine ⟨_, rfl, ?_⟩
    rcases hCC with ⟨hc0, hC⟩ | ⟨hc0, hc8, hC⟩ | ⟨hc8, hC⟩
    · rw [hC, if_pos hc0]; rfl
    · rw [hC, if_neg (show ¬ z < 0 by omega), if_neg (by omega)]
    · rw [hC, if_neg (show ¬ z < 0 by omega), if_pos (by omega)]
  clear hCC
  go_enter Tryz.func220, Tryz.ntmps220
  go_wp2
  clear hq1 hq2
  go_loopw [5, 6] (fun v i wr => ∃ k : Nat, k ≤ 15 ∧ i = .int .i64 (k : Nat) ∧ wr.ownsRow w.heap.size 9 1 v k (((begs s f).map tv).take k) ∧ Below w.heap.size w wr) (fun _ i _ => 15 - (intOf i).toNat)
  case atStart => exact ⟨0, by omega, rfl, World.ownsRow_nil _ _ _ _, Below.refl _ _⟩
  case round =>
    obtain ⟨k, hk, rfl, hown, hB⟩ := hrel
    obtain ⟨va, vc, rfl⟩ := ownsRow_slice hown
    by_cases hlt : k < 15
    · have HT := Lib.hid (HBA.out k hlt)
      have HLT := Lib.hid hlt
      have hlt' : (k : Int) < 15 := by omega
      have hwr : IntKind.u8.wrap (k : Int) = (k : Int) := by rw [IntKind.wrap_u8]; omega
      obtain ⟨t2, ht2⟩ : ∃ t : ByteArray, t = ⟨(octs (two (f : Int)) 2).toArray⟩ := ⟨_, rfl⟩
      obtain ⟨t1, ht1⟩ : ∃ t : ByteArray, t = ⟨([UInt8.ofNat k] : List UInt8).toArray⟩ := ⟨_, rfl⟩
      have hz2' : t2.size ≤ 2 := by rw [ht2]; show (octs (two (f : Int)) 2).toArray.size ≤ 2; simp [octs_length]
      have hz1' : t1.size ≤ 1 := by rw [ht1]; exact Nat.le_refl 1
      have hbe := begB_of s f k hlt
      rw [← ht2, ← ht1] at hbe
      have hc1 : ¬ 9223372036854775807 < s.size + t2.size := by omega
      have hc2 : ¬ 9223372036854775807 < s.size + t2.size + t1.size := by omega
      have HE := Lib.hid hbe
      have HT2 := Lib.hid ht2
      have HT1 := Lib.hid ht1
      clear hbe ht2 ht1
      generalize ((begs s f).map tv).take k = ts at *
      clear hk hlt
      go_wp2_with fail
      refine wp_region_any hmx ?_
      change wpAny _ _ _ _ _ _ _ wr.drew
      have hWd : Below wr.heap.size wr wr.drew := (Below.refl _ wr).drew
      replace hown : wr.drew.ownsRow w.heap.size 9 1 (.slice va k vc) k ts := hown
      generalize wr.drew = Y at *
      refine' wpAny_take (i := 0) (oi := _) (v := _) ?hi1 (by kernel_rfl) (by kernel_rfl) (by kernel_rfl) ?hQ1 (Or.inl ⟨?hw1, ?hy1⟩) ?rest1
      case hi1 => simp only [List.getElem?_toArray, List.getElem?_cons_zero]; rfl
      case hQ1 => exact fun _ _ _ h => h
      case hw1 => rfl
      case hy1 => intro W'; go_simp; with_reducible rfl
      try simp only [Act.put, List.setIfInBounds_toArray, List.set_cons_zero, List.set_cons_succ]
      refine' wpAny_take (i := 1) (oi := _) (v := _) ?hi2 (by kernel_rfl) (by kernel_rfl) (by kernel_rfl) ?hQ2 (Or.inl ⟨?hw2, ?hy2⟩) ?rest2
      case hi2 => simp only [List.getElem?_toArray, List.getElem?_cons_succ, List.getElem?_cons_zero]; rfl
      case hQ2 => exact fun _ _ _ h => h
      case hw2 => rfl
      case hy2 => intro W'; go_simp; with_reducible rfl
      try simp only [Act.put, List.setIfInBounds_toArray, List.set_cons_zero, List.set_cons_succ]
      refine' wpAny_take (i := 2) (oi := _) (v := _) ?hi3 (by kernel_rfl) (by kernel_rfl) (by kernel_rfl) ?hQ3 (Or.inl ⟨?hw3, ?hy3⟩) ?rest3
      case hi3 => simp only [List.getElem?_toArray, List.getElem?_cons_succ, List.getElem?_cons_zero]; rfl
      case hQ3 => exact fun _ _ _ h => h
      case hw3 => rfl
      case hy3 => intro W'; go_simp; with_reducible rfl
      try simp only [Act.put, List.setIfInBounds_toArray, List.set_cons_zero, List.set_cons_succ]
      refine' wpAny_take (i := 6) (oi := _) (v := _) ?hi4 (by kernel_rfl) (by kernel_rfl) (by kernel_rfl) ?hQ4 (Or.inl ⟨?hw4, ?hy4⟩) ?rest4
      case hi4 => simp only [List.getElem?_toArray, List.getElem?_cons_succ, List.getElem?_cons_zero]; rfl
      case hQ4 => exact fun _ _ _ h => h
      case hw4 => rfl
      case hy4 => intro W'; go_simp; with_reducible rfl
      try simp only [Act.put, List.setIfInBounds_toArray, List.set_cons_zero, List.set_cons_succ]
      refine' wpAny_take (i := 7) (oi := _) (v := _) ?hi5 (by kernel_rfl) (by kernel_rfl) (by kernel_rfl) ?hQ5 (Or.inl ⟨?hw5, ?hy5⟩) ?rest5
      case hi5 => simp only [List.getElem?_toArray, List.getElem?_cons_succ, List.getElem?_cons_zero]; rfl
      case hQ5 => exact fun _ _ _ h => h
      case hw5 => rfl
      case hy5 => intro W'; go_simp; with_reducible rfl
      try simp only [Act.put, List.setIfInBounds_toArray, List.set_cons_zero, List.set_cons_succ]
      refine wpAny_ready (rs := [3, 8]) (by kernel_rfl) (by simp) ?_
      refine' AllReady.cons (o := _) ?ho7 (fun K hK => ?st7) (AllReady.cons (o := _) ?ho6 (fun K hK => ?st6) AllReady.nil)
      case ho7 => simp only [List.getElem?_toArray, List.getElem?_cons_succ, List.getElem?_cons_zero]; rfl
      case ho6 => simp only [List.getElem?_toArray, List.getElem?_cons_succ, List.getElem?_cons_zero]; rfl
      case st7 =>
        go_simp
        refine (refNum_any (f : Int) 2 (by omega) (by omega) _).mono ?_
        rintro e Y1 ⟨v2, rfl, hv2, hb⟩
        rw [show clamp 2 = 2 from rfl] at hv2
        replace hv2 := hv2.mono (Nat.zero_le _) (Nat.le_refl _)
        obtain ⟨a2, c2, rfl⟩ := bsl_slice hv2
        refine hK _ _ ?_
        clear hK K
        try simp only [Act.put, List.setIfInBounds_toArray, List.set_cons_zero, List.set_cons_succ]
        replace hWd := chain hWd hb
        replace hown := own_below4 hown hb
        clear hb
        refine wpAny_ready (rs := [4, 8]) (by kernel_rfl) (by simp) ?_
        refine' AllReady.cons (o := _) ?ho9 (fun K hK => ?st9) (AllReady.cons (o := _) ?ho8 (fun K hK => ?st8) AllReady.nil)
        case ho9 => simp only [List.getElem?_toArray, List.getElem?_cons_succ, List.getElem?_cons_zero]; rfl
        case ho8 => simp only [List.getElem?_toArray, List.getElem?_cons_succ, List.getElem?_cons_zero]; rfl
        case st9 =>
          have hcv : (convert 80 9 (.slice a2 (octs (two (f : Int)) 2).length c2)).run Tryz.prog Y1 = .ok (.string t2) Y1 := by rw [HT2.out]; exact run_string (P := Tryz.prog) 80 5 9 Tryz.underlying80 Tryz.underlying5 Tryz.underlying9 Y1 hv2
          go_simp
          refine hK _ _ ?_
          clear hK K
          try simp only [Act.put, List.setIfInBounds_toArray, List.set_cons_zero, List.set_cons_succ]
          clear hcv hv2
          refine' wpAny_take (i := 5) (oi := _) (v := _) ?hi10 (by kernel_rfl) (by kernel_rfl) (by kernel_rfl) ?hQ10 (Or.inl ⟨?hw10, ?hy10⟩) ?rest10
          case hi10 => simp only [List.getElem?_toArray, List.getElem?_cons_succ, List.getElem?_cons_zero]; rfl
          case hQ10 => exact fun _ _ _ h => h
          case hw10 => rfl
          case hy10 => intro W'; go_simp; with_reducible rfl
          try simp only [Act.put, List.setIfInBounds_toArray, List.set_cons_zero, List.set_cons_succ]
          refine wpAny_ready (rs := [8]) (by kernel_rfl) (by simp) ?_
          refine' AllReady.cons (o := _) ?ho11 (fun K hK => ?st11) AllReady.nil
          case ho11 => simp only [List.getElem?_toArray, List.getElem?_cons_succ, List.getElem?_cons_zero]; rfl
          case st11 =>
            go_simp
            refine hK _ _ ?_
            clear hK K
            try simp only [Act.put, List.setIfInBounds_toArray, List.set_cons_zero, List.set_cons_succ]
            have hb : Below Y1.heap.size Y1 (Y1.alloc (.cells #[.int .u8 (k : Int)] 5)) := chain0 _ _
            have hv1 : BSl 0 (Y1.alloc (.cells #[.int .u8 (k : Int)] 5)).heap.size (Y1.alloc (.cells #[.int .u8 (k : Int)] 5)) (.slice (some ⟨Y1.heap.size, 0, none⟩) 1 1) [UInt8.ofNat k] := ⟨_, 1, rfl, Nat.le_refl _, .inr ⟨_, 0, rfl, Nat.zero_le _, by simp, fun j x hj => by
              have hj0 : j = 0 := by have := (List.getElem?_eq_some_iff.1 hj).1; simp at this; omega
              subst hj0
              cases hj
              rw [(Boxed.new Y1 5 (.int .u8 (k : Int))).cell]
              have : (UInt8.ofNat k).toNat = k := by rw [UInt8.toNat_ofNat']; have := HLT.out; omega
              rw [bv, this]⟩⟩
            replace hWd := chain hWd hb
            replace hown := own_below4 hown hb
            clear hb
            generalize (Y1.alloc (.cells #[.int .u8 (k : Int)] 5)) = Y2 at *
            generalize Y1.heap.size = gy at *
            refine wpAny_ready (rs := [9]) (by kernel_rfl) (by simp) ?_
            refine' AllReady.cons (o := _) ?ho12 (fun K hK => ?st12) AllReady.nil
            case ho12 => simp only [List.getElem?_toArray, List.getElem?_cons_succ, List.getElem?_cons_zero]; rfl
            case st12 =>
              have hcv : (convert 80 9 (.slice (some ⟨gy, 0, none⟩) 1 1)).run Tryz.prog Y2 = .ok (.string t1) Y2 := by rw [HT1.out]; exact run_string (P := Tryz.prog) 80 5 9 Tryz.underlying80 Tryz.underlying5 Tryz.underlying9 Y2 hv1
              go_simp
              refine hK _ _ ?_
              clear hK K
              try simp only [Act.put, List.setIfInBounds_toArray, List.set_cons_zero, List.set_cons_succ]
              clear hcv hv1
              refine' wpAny_take (i := 10) (oi := _) (v := _) ?hi13 (by kernel_rfl) (by kernel_rfl) (by kernel_rfl) ?hQ13 (Or.inl ⟨?hw13, ?hy13⟩) ?rest13
              case hi13 => simp only [List.getElem?_toArray, List.getElem?_cons_succ, List.getElem?_cons_zero]; rfl
              case hQ13 => exact fun _ _ _ h => h
              case hw13 => rfl
              case hy13 => intro W'; go_simp; with_reducible rfl
              try simp only [Act.put, List.setIfInBounds_toArray, List.set_cons_zero, List.set_cons_succ]
              refine wpAny_ready (rs := [11]) (by kernel_rfl) (by simp) ?_
              refine' AllReady.cons (o := _) ?ho14 (fun K hK => ?st14) AllReady.nil
              case ho14 => simp only [List.getElem?_toArray, List.getElem?_cons_succ, List.getElem?_cons_zero]; rfl
              case st14 =>
                go_simp
                refine (refShort_any (s ++ t2 ++ t1) (by rw [ByteArray.size_append, ByteArray.size_append]; omega) _).mono ?_
                rw [← HE.out]
                rintro e Y3 ⟨rfl, hb⟩
                refine hK _ _ ?_
                clear hK K
                try simp only [Act.put, List.setIfInBounds_toArray, List.set_cons_zero, List.set_cons_succ]
                replace hWd := chain hWd hb
                replace hown := own_below4 hown hb
                clear hb
                refine wpAny_ready (rs := [12]) (by kernel_rfl) (by simp) ?_
                refine' AllReady.cons (o := _) ?ho15 (fun K hK => ?st15) AllReady.nil
                case ho15 => simp only [List.getElem?_toArray, List.getElem?_cons_succ, List.getElem?_cons_zero]; rfl
                case st15 =>
                  go_simp
                  refine hK _ _ ?_
                  clear hK K
                  try simp only [Act.put, List.setIfInBounds_toArray, List.set_cons_zero, List.set_cons_succ]
                  have kt := cell_one_new Y3 (tv (begB s f k)) 9
                  have hb : Below Y3.heap.size Y3 (Y3.alloc (.cells #[tv (begB s f k)] 9)) := chain0 _ _
                  replace hWd := chain hWd hb
                  replace hown := own_below4 hown hb
                  clear hb
                  generalize (Y3.alloc (.cells #[tv (begB s f k)] 9)) = Y4 at *
                  generalize Y3.heap.size = gt at *
                  refine wpAny_ready (rs := [13]) (by kernel_rfl) (by simp) ?_
                  refine' AllReady.cons (o := _) ?ho16 (fun K hK => ?st16) AllReady.nil
                  case ho16 => simp only [List.getElem?_toArray, List.getElem?_cons_succ, List.getElem?_cons_zero]; rfl
                  case st16 =>
                    have hNW := Nat.le_trans hB.size hWd.size
                    refine step_append_lies _ rfl (.tmp 14) (.tmp 26) 61 rfl w.heap.size 9 i0 (.string ⟨#[]⟩) 1 16 Tryz.underlying61 hi hz0 hz1 hz2 rfl (by decide) (.slice va k vc) k ts rfl hown ⟨gt, 0, none⟩ 1 1 [tv (begB s f k)] rfl rfl kt (by simp [Value.oneCell']) (by decide) (by have := HLT.out; unfold maxLen; omega) (by have := HLT.out; omega) hNW _ rfl ?_
                    intro g c w1 hown' hgrow _ _
                    refine hK _ _ ?_
                    clear hK K
                    try simp only [Act.put, List.setIfInBounds_toArray, List.set_cons_zero, List.set_cons_succ]
                    refine wpAny_ready (rs := [14]) (by kernel_rfl) (by simp) ?_
                    refine' AllReady.cons (o := _) ?ho17 (fun K hK => ?st17) AllReady.nil
                    case ho17 => simp only [List.getElem?_toArray, List.getElem?_cons_succ, List.getElem?_cons_zero]; rfl
                    case st17 =>
                      go_simp
                      refine hK _ _ ?_
                      clear hK K
                      try simp only [Act.put, List.setIfInBounds_toArray, List.set_cons_zero, List.set_cons_succ]
                      refine wpAny_done (by kernel_rfl) ?_ _
                      have hbw := ((hB.trans (hWd.mono hB.size))).grown hgrow hNW (fun j hj => (World.ownsRow.lt hown j hj).1)
                      rw [← HT.out] at hown'
                      clear hown kt hWd
                      go_wp2_with fail
                      go_roundw
                      case rel => exact ⟨k + 1, HLT.out, by simp, hown', hbw⟩
                      case measure => have := HLT.out; simp [intOf]; omega
        case st8 =>
          go_simp
          refine hK _ _ ?_
          clear hK K
          try simp only [Act.put, List.setIfInBounds_toArray, List.set_cons_zero, List.set_cons_succ]
          have hb : Below Y1.heap.size Y1 (Y1.alloc (.cells #[.int .u8 (k : Int)] 5)) := chain0 _ _
          have hv1 : BSl 0 (Y1.alloc (.cells #[.int .u8 (k : Int)] 5)).heap.size (Y1.alloc (.cells #[.int .u8 (k : Int)] 5)) (.slice (some ⟨Y1.heap.size, 0, none⟩) 1 1) [UInt8.ofNat k] := ⟨_, 1, rfl, Nat.le_refl _, .inr ⟨_, 0, rfl, Nat.zero_le _, by simp, fun j x hj => by
            have hj0 : j = 0 := by have := (List.getElem?_eq_some_iff.1 hj).1; simp at this; omega
            subst hj0
            cases hj
            rw [(Boxed.new Y1 5 (.int .u8 (k : Int))).cell]
            have : (UInt8.ofNat k).toNat = k := by rw [UInt8.toNat_ofNat']; have := HLT.out; omega
            rw [bv, this]⟩⟩
          replace hWd := chain hWd hb
          replace hown := own_below4 hown hb
          replace hv2 := (hv2.below hb (Nat.le_refl _)).mono (Nat.le_refl _) hb.size
          clear hb
          generalize (Y1.alloc (.cells #[.int .u8 (k : Int)] 5)) = Y2 at *
          generalize Y1.heap.size = gy at *
          refine wpAny_ready (rs := [4, 9]) (by kernel_rfl) (by simp) ?_
          refine' AllReady.cons (o := _) ?ho19 (fun K hK => ?st19) (AllReady.cons (o := _) ?ho18 (fun K hK => ?st18) AllReady.nil)
          case ho19 => simp only [List.getElem?_toArray, List.getElem?_cons_succ, List.getElem?_cons_zero]; rfl
          case ho18 => simp only [List.getElem?_toArray, List.getElem?_cons_succ, List.getElem?_cons_zero]; rfl
          case st19 =>
            have hcv : (convert 80 9 (.slice a2 (octs (two (f : Int)) 2).length c2)).run Tryz.prog Y2 = .ok (.string t2) Y2 := by rw [HT2.out]; exact run_string (P := Tryz.prog) 80 5 9 Tryz.underlying80 Tryz.underlying5 Tryz.underlying9 Y2 hv2
            go_simp
            refine hK _ _ ?_
            clear hK K
            try simp only [Act.put, List.setIfInBounds_toArray, List.set_cons_zero, List.set_cons_succ]
            clear hcv hv2
            refine' wpAny_take (i := 5) (oi := _) (v := _) ?hi20 (by kernel_rfl) (by kernel_rfl) (by kernel_rfl) ?hQ20 (Or.inl ⟨?hw20, ?hy20⟩) ?rest20
            case hi20 => simp only [List.getElem?_toArray, List.getElem?_cons_succ, List.getElem?_cons_zero]; rfl
            case hQ20 => exact fun _ _ _ h => h
            case hw20 => rfl
            case hy20 => intro W'; go_simp; with_reducible rfl
            try simp only [Act.put, List.setIfInBounds_toArray, List.set_cons_zero, List.set_cons_succ]
            refine wpAny_ready (rs := [9]) (by kernel_rfl) (by simp) ?_
            refine' AllReady.cons (o := _) ?ho21 (fun K hK => ?st21) AllReady.nil
            case ho21 => simp only [List.getElem?_toArray, List.getElem?_cons_succ, List.getElem?_cons_zero]; rfl
            case st21 =>
              have hcv : (convert 80 9 (.slice (some ⟨gy, 0, none⟩) 1 1)).run Tryz.prog Y2 = .ok (.string t1) Y2 := by rw [HT1.out]; exact run_string (P := Tryz.prog) 80 5 9 Tryz.underlying80 Tryz.underlying5 Tryz.underlying9 Y2 hv1
              go_simp
              refine hK _ _ ?_
              clear hK K
              try simp only [Act.put, List.setIfInBounds_toArray, List.set_cons_zero, List.set_cons_succ]
              clear hcv hv1
              refine' wpAny_take (i := 10) (oi := _) (v := _) ?hi22 (by kernel_rfl) (by kernel_rfl) (by kernel_rfl) ?hQ22 (Or.inl ⟨?hw22, ?hy22⟩) ?rest22
              case hi22 => simp only [List.getElem?_toArray, List.getElem?_cons_succ, List.getElem?_cons_zero]; rfl
              case hQ22 => exact fun _ _ _ h => h
              case hw22 => rfl
              case hy22 => intro W'; go_simp; with_reducible rfl
              try simp only [Act.put, List.setIfInBounds_toArray, List.set_cons_zero, List.set_cons_succ]
              refine wpAny_ready (rs := [11]) (by kernel_rfl) (by simp) ?_
              refine' AllReady.cons (o := _) ?ho23 (fun K hK => ?st23) AllReady.nil
              case ho23 => simp only [List.getElem?_toArray, List.getElem?_cons_succ, List.getElem?_cons_zero]; rfl
              case st23 =>
                go_simp
                refine (refShort_any (s ++ t2 ++ t1) (by rw [ByteArray.size_append, ByteArray.size_append]; omega) _).mono ?_
                rw [← HE.out]
                rintro e Y3 ⟨rfl, hb⟩
                refine hK _ _ ?_
                clear hK K
                try simp only [Act.put, List.setIfInBounds_toArray, List.set_cons_zero, List.set_cons_succ]
                replace hWd := chain hWd hb
                replace hown := own_below4 hown hb
                clear hb
                refine wpAny_ready (rs := [12]) (by kernel_rfl) (by simp) ?_
                refine' AllReady.cons (o := _) ?ho24 (fun K hK => ?st24) AllReady.nil
                case ho24 => simp only [List.getElem?_toArray, List.getElem?_cons_succ, List.getElem?_cons_zero]; rfl
                case st24 =>
                  go_simp
                  refine hK _ _ ?_
                  clear hK K
                  try simp only [Act.put, List.setIfInBounds_toArray, List.set_cons_zero, List.set_cons_succ]
                  have kt := cell_one_new Y3 (tv (begB s f k)) 9
                  have hb : Below Y3.heap.size Y3 (Y3.alloc (.cells #[tv (begB s f k)] 9)) := chain0 _ _
                  replace hWd := chain hWd hb
                  replace hown := own_below4 hown hb
                  clear hb
                  generalize (Y3.alloc (.cells #[tv (begB s f k)] 9)) = Y4 at *
                  generalize Y3.heap.size = gt at *
                  refine wpAny_ready (rs := [13]) (by kernel_rfl) (by simp) ?_
                  refine' AllReady.cons (o := _) ?ho25 (fun K hK => ?st25) AllReady.nil
                  case ho25 => simp only [List.getElem?_toArray, List.getElem?_cons_succ, List.getElem?_cons_zero]; rfl
                  case st25 =>
                    have hNW := Nat.le_trans hB.size hWd.size
                    refine step_append_lies _ rfl (.tmp 14) (.tmp 26) 61 rfl w.heap.size 9 i0 (.string ⟨#[]⟩) 1 16 Tryz.underlying61 hi hz0 hz1 hz2 rfl (by decide) (.slice va k vc) k ts rfl hown ⟨gt, 0, none⟩ 1 1 [tv (begB s f k)] rfl rfl kt (by simp [Value.oneCell']) (by decide) (by have := HLT.out; unfold maxLen; omega) (by have := HLT.out; omega) hNW _ rfl ?_
                    intro g c w1 hown' hgrow _ _
                    refine hK _ _ ?_
                    clear hK K
                    try simp only [Act.put, List.setIfInBounds_toArray, List.set_cons_zero, List.set_cons_succ]
                    refine wpAny_ready (rs := [14]) (by kernel_rfl) (by simp) ?_
                    refine' AllReady.cons (o := _) ?ho26 (fun K hK => ?st26) AllReady.nil
                    case ho26 => simp only [List.getElem?_toArray, List.getElem?_cons_succ, List.getElem?_cons_zero]; rfl
                    case st26 =>
                      go_simp
                      refine hK _ _ ?_
                      clear hK K
                      try simp only [Act.put, List.setIfInBounds_toArray, List.set_cons_zero, List.set_cons_succ]
                      refine wpAny_done (by kernel_rfl) ?_ _
                      have hbw := ((hB.trans (hWd.mono hB.size))).grown hgrow hNW (fun j hj => (World.ownsRow.lt hown j hj).1)
                      rw [← HT.out] at hown'
                      clear hown kt hWd
                      go_wp2_with fail
                      go_roundw
                      case rel => exact ⟨k + 1, HLT.out, by simp, hown', hbw⟩
                      case measure => have := HLT.out; simp [intOf]; omega
          case st18 =>
            have hcv : (convert 80 9 (.slice (some ⟨gy, 0, none⟩) 1 1)).run Tryz.prog Y2 = .ok (.string t1) Y2 := by rw [HT1.out]; exact run_string (P := Tryz.prog) 80 5 9 Tryz.underlying80 Tryz.underlying5 Tryz.underlying9 Y2 hv1
            go_simp
            refine hK _ _ ?_
            clear hK K
            try simp only [Act.put, List.setIfInBounds_toArray, List.set_cons_zero, List.set_cons_succ]
            clear hcv hv1
            refine wpAny_ready (rs := [4]) (by kernel_rfl) (by simp) ?_
            refine' AllReady.cons (o := _) ?ho27 (fun K hK => ?st27) AllReady.nil
            case ho27 => simp only [List.getElem?_toArray, List.getElem?_cons_succ, List.getElem?_cons_zero]; rfl
            case st27 =>
              have hcv : (convert 80 9 (.slice a2 (octs (two (f : Int)) 2).length c2)).run Tryz.prog Y2 = .ok (.string t2) Y2 := by rw [HT2.out]; exact run_string (P := Tryz.prog) 80 5 9 Tryz.underlying80 Tryz.underlying5 Tryz.underlying9 Y2 hv2
              go_simp
              refine hK _ _ ?_
              clear hK K
              try simp only [Act.put, List.setIfInBounds_toArray, List.set_cons_zero, List.set_cons_succ]
              clear hcv hv2
              refine' wpAny_take (i := 5) (oi := _) (v := _) ?hi28 (by kernel_rfl) (by kernel_rfl) (by kernel_rfl) ?hQ28 (Or.inl ⟨?hw28, ?hy28⟩) ?rest28
              case hi28 => simp only [List.getElem?_toArray, List.getElem?_cons_succ, List.getElem?_cons_zero]; rfl
              case hQ28 => exact fun _ _ _ h => h
              case hw28 => rfl
              case hy28 => intro W'; go_simp; with_reducible rfl
              try simp only [Act.put, List.setIfInBounds_toArray, List.set_cons_zero, List.set_cons_succ]
              refine' wpAny_take (i := 10) (oi := _) (v := _) ?hi29 (by kernel_rfl) (by kernel_rfl) (by kernel_rfl) ?hQ29 (Or.inl ⟨?hw29, ?hy29⟩) ?rest29
              case hi29 => simp only [List.getElem?_toArray, List.getElem?_cons_succ, List.getElem?_cons_zero]; rfl
              case hQ29 => exact fun _ _ _ h => h
              case hw29 => rfl
              case hy29 => intro W'; go_simp; with_reducible rfl
              try simp only [Act.put, List.setIfInBounds_toArray, List.set_cons_zero, List.set_cons_succ]
              refine wpAny_ready (rs := [11]) (by kernel_rfl) (by simp) ?_
              refine' AllReady.cons (o := _) ?ho30 (fun K hK => ?st30) AllReady.nil
              case ho30 => simp only [List.getElem?_toArray, List.getElem?_cons_succ, List.getElem?_cons_zero]; rfl
              case st30 =>
                go_simp
                refine (refShort_any (s ++ t2 ++ t1) (by rw [ByteArray.size_append, ByteArray.size_append]; omega) _).mono ?_
                rw [← HE.out]
                rintro e Y3 ⟨rfl, hb⟩
                refine hK _ _ ?_
                clear hK K
                try simp only [Act.put, List.setIfInBounds_toArray, List.set_cons_zero, List.set_cons_succ]
                replace hWd := chain hWd hb
                replace hown := own_below4 hown hb
                clear hb
                refine wpAny_ready (rs := [12]) (by kernel_rfl) (by simp) ?_
                refine' AllReady.cons (o := _) ?ho31 (fun K hK => ?st31) AllReady.nil
                case ho31 => simp only [List.getElem?_toArray, List.getElem?_cons_succ, List.getElem?_cons_zero]; rfl
                case st31 =>
                  go_simp
                  refine hK _ _ ?_
                  clear hK K
                  try simp only [Act.put, List.setIfInBounds_toArray, List.set_cons_zero, List.set_cons_succ]
                  have kt := cell_one_new Y3 (tv (begB s f k)) 9
                  have hb : Below Y3.heap.size Y3 (Y3.alloc (.cells #[tv (begB s f k)] 9)) := chain0 _ _
                  replace hWd := chain hWd hb
                  replace hown := own_below4 hown hb
                  clear hb
                  generalize (Y3.alloc (.cells #[tv (begB s f k)] 9)) = Y4 at *
                  generalize Y3.heap.size = gt at *
                  refine wpAny_ready (rs := [13]) (by kernel_rfl) (by simp) ?_
                  refine' AllReady.cons (o := _) ?ho32 (fun K hK => ?st32) AllReady.nil
                  case ho32 => simp only [List.getElem?_toArray, List.getElem?_cons_succ, List.getElem?_cons_zero]; rfl
                  case st32 =>
                    have hNW := Nat.le_trans hB.size hWd.size
                    refine step_append_lies _ rfl (.tmp 14) (.tmp 26) 61 rfl w.heap.size 9 i0 (.string ⟨#[]⟩) 1 16 Tryz.underlying61 hi hz0 hz1 hz2 rfl (by decide) (.slice va k vc) k ts rfl hown ⟨gt, 0, none⟩ 1 1 [tv (begB s f k)] rfl rfl kt (by simp [Value.oneCell']) (by decide) (by have := HLT.out; unfold maxLen; omega) (by have := HLT.out; omega) hNW _ rfl ?_
                    intro g c w1 hown' hgrow _ _
                    refine hK _ _ ?_
                    clear hK K
                    try simp only [Act.put, List.setIfInBounds_toArray, List.set_cons_zero, List.set_cons_succ]
                    refine wpAny_ready (rs := [14]) (by kernel_rfl) (by simp) ?_
                    refine' AllReady.cons (o := _) ?ho33 (fun K hK => ?st33) AllReady.nil
                    case ho33 => simp only [List.getElem?_toArray, List.getElem?_cons_succ, List.getElem?_cons_zero]; rfl
                    case st33 =>
                      go_simp
                      refine hK _ _ ?_
                      clear hK K
                      try simp only [Act.put, List.setIfInBounds_toArray, List.set_cons_zero, List.set_cons_succ]
                      refine wpAny_done (by kernel_rfl) ?_ _
                      have hbw := ((hB.trans (hWd.mono hB.size))).grown hgrow hNW (fun j hj => (World.ownsRow.lt hown j hj).1)
                      rw [← HT.out] at hown'
                      clear hown kt hWd
                      go_wp2_with fail
                      go_roundw
                      case rel => exact ⟨k + 1, HLT.out, by simp, hown', hbw⟩
                      case measure => have := HLT.out; simp [intOf]; omega
      case st6 =>
        go_simp
        refine hK _ _ ?_
        clear hK K
        try simp only [Act.put, List.setIfInBounds_toArray, List.set_cons_zero, List.set_cons_succ]
        have hb : Below Y.heap.size Y (Y.alloc (.cells #[.int .u8 (k : Int)] 5)) := chain0 _ _
        have hv1 : BSl 0 (Y.alloc (.cells #[.int .u8 (k : Int)] 5)).heap.size (Y.alloc (.cells #[.int .u8 (k : Int)] 5)) (.slice (some ⟨Y.heap.size, 0, none⟩) 1 1) [UInt8.ofNat k] := ⟨_, 1, rfl, Nat.le_refl _, .inr ⟨_, 0, rfl, Nat.zero_le _, by simp, fun j x hj => by
          have hj0 : j = 0 := by have := (List.getElem?_eq_some_iff.1 hj).1; simp at this; omega
          subst hj0
          cases hj
          rw [(Boxed.new Y 5 (.int .u8 (k : Int))).cell]
          have : (UInt8.ofNat k).toNat = k := by rw [UInt8.toNat_ofNat']; have := HLT.out; omega
          rw [bv, this]⟩⟩
        replace hWd := chain hWd hb
        replace hown := own_below4 hown hb
        clear hb
        generalize (Y.alloc (.cells #[.int .u8 (k : Int)] 5)) = Y1 at *
        generalize Y.heap.size = gy at *
        refine wpAny_ready (rs := [3, 9]) (by kernel_rfl) (by simp) ?_
        refine' AllReady.cons (o := _) ?ho35 (fun K hK => ?st35) (AllReady.cons (o := _) ?ho34 (fun K hK => ?st34) AllReady.nil)
        case ho35 => simp only [List.getElem?_toArray, List.getElem?_cons_succ, List.getElem?_cons_zero]; rfl
        case ho34 => simp only [List.getElem?_toArray, List.getElem?_cons_succ, List.getElem?_cons_zero]; rfl
        case st35 =>
          go_simp
          refine (refNum_any (f : Int) 2 (by omega) (by omega) _).mono ?_
          rintro e Y2 ⟨v2, rfl, hv2, hb⟩
          rw [show clamp 2 = 2 from rfl] at hv2
          replace hv2 := hv2.mono (Nat.zero_le _) (Nat.le_refl _)
          obtain ⟨a2, c2, rfl⟩ := bsl_slice hv2
          refine hK _ _ ?_
          clear hK K
          try simp only [Act.put, List.setIfInBounds_toArray, List.set_cons_zero, List.set_cons_succ]
          replace hWd := chain hWd hb
          replace hown := own_below4 hown hb
          replace hv1 := (hv1.below hb (Nat.le_refl _)).mono (Nat.le_refl _) hb.size
          clear hb
          refine wpAny_ready (rs := [4, 9]) (by kernel_rfl) (by simp) ?_
          refine' AllReady.cons (o := _) ?ho37 (fun K hK => ?st37) (AllReady.cons (o := _) ?ho36 (fun K hK => ?st36) AllReady.nil)
          case ho37 => simp only [List.getElem?_toArray, List.getElem?_cons_succ, List.getElem?_cons_zero]; rfl
          case ho36 => simp only [List.getElem?_toArray, List.getElem?_cons_succ, List.getElem?_cons_zero]; rfl
          case st37 =>
            have hcv : (convert 80 9 (.slice a2 (octs (two (f : Int)) 2).length c2)).run Tryz.prog Y2 = .ok (.string t2) Y2 := by rw [HT2.out]; exact run_string (P := Tryz.prog) 80 5 9 Tryz.underlying80 Tryz.underlying5 Tryz.underlying9 Y2 hv2
            go_simp
            refine hK _ _ ?_
            clear hK K
            try simp only [Act.put, List.setIfInBounds_toArray, List.set_cons_zero, List.set_cons_succ]
            clear hcv hv2
            refine' wpAny_take (i := 5) (oi := _) (v := _) ?hi38 (by kernel_rfl) (by kernel_rfl) (by kernel_rfl) ?hQ38 (Or.inl ⟨?hw38, ?hy38⟩) ?rest38
            case hi38 => simp only [List.getElem?_toArray, List.getElem?_cons_succ, List.getElem?_cons_zero]; rfl
            case hQ38 => exact fun _ _ _ h => h
            case hw38 => rfl
            case hy38 => intro W'; go_simp; with_reducible rfl
            try simp only [Act.put, List.setIfInBounds_toArray, List.set_cons_zero, List.set_cons_succ]
            refine wpAny_ready (rs := [9]) (by kernel_rfl) (by simp) ?_
            refine' AllReady.cons (o := _) ?ho39 (fun K hK => ?st39) AllReady.nil
            case ho39 => simp only [List.getElem?_toArray, List.getElem?_cons_succ, List.getElem?_cons_zero]; rfl
            case st39 =>
              have hcv : (convert 80 9 (.slice (some ⟨gy, 0, none⟩) 1 1)).run Tryz.prog Y2 = .ok (.string t1) Y2 := by rw [HT1.out]; exact run_string (P := Tryz.prog) 80 5 9 Tryz.underlying80 Tryz.underlying5 Tryz.underlying9 Y2 hv1
              go_simp
              refine hK _ _ ?_
              clear hK K
              try simp only [Act.put, List.setIfInBounds_toArray, List.set_cons_zero, List.set_cons_succ]
              clear hcv hv1
              refine' wpAny_take (i := 10) (oi := _) (v := _) ?hi40 (by kernel_rfl) (by kernel_rfl) (by kernel_rfl) ?hQ40 (Or.inl ⟨?hw40, ?hy40⟩) ?rest40
              case hi40 => simp only [List.getElem?_toArray, List.getElem?_cons_succ, List.getElem?_cons_zero]; rfl
              case hQ40 => exact fun _ _ _ h => h
              case hw40 => rfl
              case hy40 => intro W'; go_simp; with_reducible rfl
              try simp only [Act.put, List.setIfInBounds_toArray, List.set_cons_zero, List.set_cons_succ]
              refine wpAny_ready (rs := [11]) (by kernel_rfl) (by simp) ?_
              refine' AllReady.cons (o := _) ?ho41 (fun K hK => ?st41) AllReady.nil
              case ho41 => simp only [List.getElem?_toArray, List.getElem?_cons_succ, List.getElem?_cons_zero]; rfl
              case st41 =>
                go_simp
                refine (refShort_any (s ++ t2 ++ t1) (by rw [ByteArray.size_append, ByteArray.size_append]; omega) _).mono ?_
                rw [← HE.out]
                rintro e Y3 ⟨rfl, hb⟩
                refine hK _ _ ?_
                clear hK K
                try simp only [Act.put, List.setIfInBounds_toArray, List.set_cons_zero, List.set_cons_succ]
                replace hWd := chain hWd hb
                replace hown := own_below4 hown hb
                clear hb
                refine wpAny_ready (rs := [12]) (by kernel_rfl) (by simp) ?_
                refine' AllReady.cons (o := _) ?ho42 (fun K hK => ?st42) AllReady.nil
                case ho42 => simp only [List.getElem?_toArray, List.getElem?_cons_succ, List.getElem?_cons_zero]; rfl
                case st42 =>
                  go_simp
                  refine hK _ _ ?_
                  clear hK K
                  try simp only [Act.put, List.setIfInBounds_toArray, List.set_cons_zero, List.set_cons_succ]
                  have kt := cell_one_new Y3 (tv (begB s f k)) 9
                  have hb : Below Y3.heap.size Y3 (Y3.alloc (.cells #[tv (begB s f k)] 9)) := chain0 _ _
                  replace hWd := chain hWd hb
                  replace hown := own_below4 hown hb
                  clear hb
                  generalize (Y3.alloc (.cells #[tv (begB s f k)] 9)) = Y4 at *
                  generalize Y3.heap.size = gt at *
                  refine wpAny_ready (rs := [13]) (by kernel_rfl) (by simp) ?_
                  refine' AllReady.cons (o := _) ?ho43 (fun K hK => ?st43) AllReady.nil
                  case ho43 => simp only [List.getElem?_toArray, List.getElem?_cons_succ, List.getElem?_cons_zero]; rfl
                  case st43 =>
                    have hNW := Nat.le_trans hB.size hWd.size
                    refine step_append_lies _ rfl (.tmp 14) (.tmp 26) 61 rfl w.heap.size 9 i0 (.string ⟨#[]⟩) 1 16 Tryz.underlying61 hi hz0 hz1 hz2 rfl (by decide) (.slice va k vc) k ts rfl hown ⟨gt, 0, none⟩ 1 1 [tv (begB s f k)] rfl rfl kt (by simp [Value.oneCell']) (by decide) (by have := HLT.out; unfold maxLen; omega) (by have := HLT.out; omega) hNW _ rfl ?_
                    intro g c w1 hown' hgrow _ _
                    refine hK _ _ ?_
                    clear hK K
                    try simp only [Act.put, List.setIfInBounds_toArray, List.set_cons_zero, List.set_cons_succ]
                    refine wpAny_ready (rs := [14]) (by kernel_rfl) (by simp) ?_
                    refine' AllReady.cons (o := _) ?ho44 (fun K hK => ?st44) AllReady.nil
                    case ho44 => simp only [List.getElem?_toArray, List.getElem?_cons_succ, List.getElem?_cons_zero]; rfl
                    case st44 =>
                      go_simp
                      refine hK _ _ ?_
                      clear hK K
                      try simp only [Act.put, List.setIfInBounds_toArray, List.set_cons_zero, List.set_cons_succ]
                      refine wpAny_done (by kernel_rfl) ?_ _
                      have hbw := ((hB.trans (hWd.mono hB.size))).grown hgrow hNW (fun j hj => (World.ownsRow.lt hown j hj).1)
                      rw [← HT.out] at hown'
                      clear hown kt hWd
                      go_wp2_with fail
                      go_roundw
                      case rel => exact ⟨k + 1, HLT.out, by simp, hown', hbw⟩
                      case measure => have := HLT.out; simp [intOf]; omega
          case st36 =>
            have hcv : (convert 80 9 (.slice (some ⟨gy, 0, none⟩) 1 1)).run Tryz.prog Y2 = .ok (.string t1) Y2 := by rw [HT1.out]; exact run_string (P := Tryz.prog) 80 5 9 Tryz.underlying80 Tryz.underlying5 Tryz.underlying9 Y2 hv1
            go_simp
            refine hK _ _ ?_
            clear hK K
            try simp only [Act.put, List.setIfInBounds_toArray, List.set_cons_zero, List.set_cons_succ]
            clear hcv hv1
            refine wpAny_ready (rs := [4]) (by kernel_rfl) (by simp) ?_
            refine' AllReady.cons (o := _) ?ho45 (fun K hK => ?st45) AllReady.nil
            case ho45 => simp only [List.getElem?_toArray, List.getElem?_cons_succ, List.getElem?_cons_zero]; rfl
            case st45 =>
              have hcv : (convert 80 9 (.slice a2 (octs (two (f : Int)) 2).length c2)).run Tryz.prog Y2 = .ok (.string t2) Y2 := by rw [HT2.out]; exact run_string (P := Tryz.prog) 80 5 9 Tryz.underlying80 Tryz.underlying5 Tryz.underlying9 Y2 hv2
              go_simp
              refine hK _ _ ?_
              clear hK K
              try simp only [Act.put, List.setIfInBounds_toArray, List.set_cons_zero, List.set_cons_succ]
              clear hcv hv2
              refine' wpAny_take (i := 5) (oi := _) (v := _) ?hi46 (by kernel_rfl) (by kernel_rfl) (by kernel_rfl) ?hQ46 (Or.inl ⟨?hw46, ?hy46⟩) ?rest46
              case hi46 => simp only [List.getElem?_toArray, List.getElem?_cons_succ, List.getElem?_cons_zero]; rfl
              case hQ46 => exact fun _ _ _ h => h
              case hw46 => rfl
              case hy46 => intro W'; go_simp; with_reducible rfl
              try simp only [Act.put, List.setIfInBounds_toArray, List.set_cons_zero, List.set_cons_succ]
              refine' wpAny_take (i := 10) (oi := _) (v := _) ?hi47 (by kernel_rfl) (by kernel_rfl) (by kernel_rfl) ?hQ47 (Or.inl ⟨?hw47, ?hy47⟩) ?rest47
              case hi47 => simp only [List.getElem?_toArray, List.getElem?_cons_succ, List.getElem?_cons_zero]; rfl
              case hQ47 => exact fun _ _ _ h => h
              case hw47 => rfl
              case hy47 => intro W'; go_simp; with_reducible rfl
              try simp only [Act.put, List.setIfInBounds_toArray, List.set_cons_zero, List.set_cons_succ]
              refine wpAny_ready (rs := [11]) (by kernel_rfl) (by simp) ?_
              refine' AllReady.cons (o := _) ?ho48 (fun K hK => ?st48) AllReady.nil
              case ho48 => simp only [List.getElem?_toArray, List.getElem?_cons_succ, List.getElem?_cons_zero]; rfl
              case st48 =>
                go_simp
                refine (refShort_any (s ++ t2 ++ t1) (by rw [ByteArray.size_append, ByteArray.size_append]; omega) _).mono ?_
                rw [← HE.out]
                rintro e Y3 ⟨rfl, hb⟩
                refine hK _ _ ?_
                clear hK K
                try simp only [Act.put, List.setIfInBounds_toArray, List.set_cons_zero, List.set_cons_succ]
                replace hWd := chain hWd hb
                replace hown := own_below4 hown hb
                clear hb
                refine wpAny_ready (rs := [12]) (by kernel_rfl) (by simp) ?_
                refine' AllReady.cons (o := _) ?ho49 (fun K hK => ?st49) AllReady.nil
                case ho49 => simp only [List.getElem?_toArray, List.getElem?_cons_succ, List.getElem?_cons_zero]; rfl
                case st49 =>
                  go_simp
                  refine hK _ _ ?_
                  clear hK K
                  try simp only [Act.put, List.setIfInBounds_toArray, List.set_cons_zero, List.set_cons_succ]
                  have kt := cell_one_new Y3 (tv (begB s f k)) 9
                  have hb : Below Y3.heap.size Y3 (Y3.alloc (.cells #[tv (begB s f k)] 9)) := chain0 _ _
                  replace hWd := chain hWd hb
                  replace hown := own_below4 hown hb
                  clear hb
                  generalize (Y3.alloc (.cells #[tv (begB s f k)] 9)) = Y4 at *
                  generalize Y3.heap.size = gt at *
                  refine wpAny_ready (rs := [13]) (by kernel_rfl) (by simp) ?_
                  refine' AllReady.cons (o := _) ?ho50 (fun K hK => ?st50) AllReady.nil
                  case ho50 => simp only [List.getElem?_toArray, List.getElem?_cons_succ, List.getElem?_cons_zero]; rfl
                  case st50 =>
                    have hNW := Nat.le_trans hB.size hWd.size
                    refine step_append_lies _ rfl (.tmp 14) (.tmp 26) 61 rfl w.heap.size 9 i0 (.string ⟨#[]⟩) 1 16 Tryz.underlying61 hi hz0 hz1 hz2 rfl (by decide) (.slice va k vc) k ts rfl hown ⟨gt, 0, none⟩ 1 1 [tv (begB s f k)] rfl rfl kt (by simp [Value.oneCell']) (by decide) (by have := HLT.out; unfold maxLen; omega) (by have := HLT.out; omega) hNW _ rfl ?_
                    intro g c w1 hown' hgrow _ _
                    refine hK _ _ ?_
                    clear hK K
                    try simp only [Act.put, List.setIfInBounds_toArray, List.set_cons_zero, List.set_cons_succ]
                    refine wpAny_ready (rs := [14]) (by kernel_rfl) (by simp) ?_
                    refine' AllReady.cons (o := _) ?ho51 (fun K hK => ?st51) AllReady.nil
                    case ho51 => simp only [List.getElem?_toArray, List.getElem?_cons_succ, List.getElem?_cons_zero]; rfl
                    case st51 =>
                      go_simp
                      refine hK _ _ ?_
                      clear hK K
                      try simp only [Act.put, List.setIfInBounds_toArray, List.set_cons_zero, List.set_cons_succ]
                      refine wpAny_done (by kernel_rfl) ?_ _
                      have hbw := ((hB.trans (hWd.mono hB.size))).grown hgrow hNW (fun j hj => (World.ownsRow.lt hown j hj).1)
                      rw [← HT.out] at hown'
                      clear hown kt hWd
                      go_wp2_with fail
                      go_roundw
                      case rel => exact ⟨k + 1, HLT.out, by simp, hown', hbw⟩
                      case measure => have := HLT.out; simp [intOf]; omega
        case st34 =>
          have hcv : (convert 80 9 (.slice (some ⟨gy, 0, none⟩) 1 1)).run Tryz.prog Y1 = .ok (.string t1) Y1 := by rw [HT1.out]; exact run_string (P := Tryz.prog) 80 5 9 Tryz.underlying80 Tryz.underlying5 Tryz.underlying9 Y1 hv1
          go_simp
          refine hK _ _ ?_
          clear hK K
          try simp only [Act.put, List.setIfInBounds_toArray, List.set_cons_zero, List.set_cons_succ]
          clear hcv hv1
          refine wpAny_ready (rs := [3]) (by kernel_rfl) (by simp) ?_
          refine' AllReady.cons (o := _) ?ho52 (fun K hK => ?st52) AllReady.nil
          case ho52 => simp only [List.getElem?_toArray, List.getElem?_cons_succ, List.getElem?_cons_zero]; rfl
          case st52 =>
            go_simp
            refine (refNum_any (f : Int) 2 (by omega) (by omega) _).mono ?_
            rintro e Y2 ⟨v2, rfl, hv2, hb⟩
            rw [show clamp 2 = 2 from rfl] at hv2
            replace hv2 := hv2.mono (Nat.zero_le _) (Nat.le_refl _)
            obtain ⟨a2, c2, rfl⟩ := bsl_slice hv2
            refine hK _ _ ?_
            clear hK K
            try simp only [Act.put, List.setIfInBounds_toArray, List.set_cons_zero, List.set_cons_succ]
            replace hWd := chain hWd hb
            replace hown := own_below4 hown hb
            clear hb
            refine wpAny_ready (rs := [4]) (by kernel_rfl) (by simp) ?_
            refine' AllReady.cons (o := _) ?ho53 (fun K hK => ?st53) AllReady.nil
            case ho53 => simp only [List.getElem?_toArray, List.getElem?_cons_succ, List.getElem?_cons_zero]; rfl
            case st53 =>
              have hcv : (convert 80 9 (.slice a2 (octs (two (f : Int)) 2).length c2)).run Tryz.prog Y2 = .ok (.string t2) Y2 := by rw [HT2.out]; exact run_string (P := Tryz.prog) 80 5 9 Tryz.underlying80 Tryz.underlying5 Tryz.underlying9 Y2 hv2
              go_simp
              refine hK _ _ ?_
              clear hK K
              try simp only [Act.put, List.setIfInBounds_toArray, List.set_cons_zero, List.set_cons_succ]
              clear hcv hv2
              refine' wpAny_take (i := 5) (oi := _) (v := _) ?hi54 (by kernel_rfl) (by kernel_rfl) (by kernel_rfl) ?hQ54 (Or.inl ⟨?hw54, ?hy54⟩) ?rest54
              case hi54 => simp only [List.getElem?_toArray, List.getElem?_cons_succ, List.getElem?_cons_zero]; rfl
              case hQ54 => exact fun _ _ _ h => h
              case hw54 => rfl
              case hy54 => intro W'; go_simp; with_reducible rfl
              try simp only [Act.put, List.setIfInBounds_toArray, List.set_cons_zero, List.set_cons_succ]
              refine' wpAny_take (i := 10) (oi := _) (v := _) ?hi55 (by kernel_rfl) (by kernel_rfl) (by kernel_rfl) ?hQ55 (Or.inl ⟨?hw55, ?hy55⟩) ?rest55
              case hi55 => simp only [List.getElem?_toArray, List.getElem?_cons_succ, List.getElem?_cons_zero]; rfl
              case hQ55 => exact fun _ _ _ h => h
              case hw55 => rfl
              case hy55 => intro W'; go_simp; with_reducible rfl
              try simp only [Act.put, List.setIfInBounds_toArray, List.set_cons_zero, List.set_cons_succ]
              refine wpAny_ready (rs := [11]) (by kernel_rfl) (by simp) ?_
              refine' AllReady.cons (o := _) ?ho56 (fun K hK => ?st56) AllReady.nil
              case ho56 => simp only [List.getElem?_toArray, List.getElem?_cons_succ, List.getElem?_cons_zero]; rfl
              case st56 =>
                go_simp
                refine (refShort_any (s ++ t2 ++ t1) (by rw [ByteArray.size_append, ByteArray.size_append]; omega) _).mono ?_
                rw [← HE.out]
                rintro e Y3 ⟨rfl, hb⟩
                refine hK _ _ ?_
                clear hK K
                try simp only [Act.put, List.setIfInBounds_toArray, List.set_cons_zero, List.set_cons_succ]
                replace hWd := chain hWd hb
                replace hown := own_below4 hown hb
                clear hb
                refine wpAny_ready (rs := [12]) (by kernel_rfl) (by simp) ?_
                refine' AllReady.cons (o := _) ?ho57 (fun K hK => ?st57) AllReady.nil
                case ho57 => simp only [List.getElem?_toArray, List.getElem?_cons_succ, List.getElem?_cons_zero]; rfl
                case st57 =>
                  go_simp
                  refine hK _ _ ?_
                  clear hK K
                  try simp only [Act.put, List.setIfInBounds_toArray, List.set_cons_zero, List.set_cons_succ]
                  have kt := cell_one_new Y3 (tv (begB s f k)) 9
                  have hb : Below Y3.heap.size Y3 (Y3.alloc (.cells #[tv (begB s f k)] 9)) := chain0 _ _
                  replace hWd := chain hWd hb
                  replace hown := own_below4 hown hb
                  clear hb
                  generalize (Y3.alloc (.cells #[tv (begB s f k)] 9)) = Y4 at *
                  generalize Y3.heap.size = gt at *
                  refine wpAny_ready (rs := [13]) (by kernel_rfl) (by simp) ?_
                  refine' AllReady.cons (o := _) ?ho58 (fun K hK => ?st58) AllReady.nil
                  case ho58 => simp only [List.getElem?_toArray, List.getElem?_cons_succ, List.getElem?_cons_zero]; rfl
                  case st58 =>
                    have hNW := Nat.le_trans hB.size hWd.size
                    refine step_append_lies _ rfl (.tmp 14) (.tmp 26) 61 rfl w.heap.size 9 i0 (.string ⟨#[]⟩) 1 16 Tryz.underlying61 hi hz0 hz1 hz2 rfl (by decide) (.slice va k vc) k ts rfl hown ⟨gt, 0, none⟩ 1 1 [tv (begB s f k)] rfl rfl kt (by simp [Value.oneCell']) (by decide) (by have := HLT.out; unfold maxLen; omega) (by have := HLT.out; omega) hNW _ rfl ?_
                    intro g c w1 hown' hgrow _ _
                    refine hK _ _ ?_
                    clear hK K
                    try simp only [Act.put, List.setIfInBounds_toArray, List.set_cons_zero, List.set_cons_succ]
                    refine wpAny_ready (rs := [14]) (by kernel_rfl) (by simp) ?_
                    refine' AllReady.cons (o := _) ?ho59 (fun K hK => ?st59) AllReady.nil
                    case ho59 => simp only [List.getElem?_toArray, List.getElem?_cons_succ, List.getElem?_cons_zero]; rfl
                    case st59 =>
                      go_simp
                      refine hK _ _ ?_
                      clear hK K
                      try simp only [Act.put, List.setIfInBounds_toArray, List.set_cons_zero, List.set_cons_succ]
                      refine wpAny_done (by kernel_rfl) ?_ _
                      have hbw := ((hB.trans (hWd.mono hB.size))).grown hgrow hNW (fun j hj => (World.ownsRow.lt hown j hj).1)
                      rw [← HT.out] at hown'
                      clear hown kt hWd
                      go_wp2_with fail
                      go_roundw
                      case rel => exact ⟨k + 1, HLT.out, by simp, hown', hbw⟩
                      case measure => have := HLT.out; simp [intOf]; omega
    · obtain rfl : k = 15 := by omega
      rw [List.take_of_length_le (by rw [List.length_map, HBL.out]; omega)] at hown
      go_wp2
      go_ret
      exact ⟨_, rfl, hown, hB⟩
end Go.Proofs.YtbjpifcgnombaaaGreat
