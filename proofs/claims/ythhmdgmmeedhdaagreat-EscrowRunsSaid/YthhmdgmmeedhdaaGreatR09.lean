/-
  mss: a node of a key's tree; join; a key's lowest row; mss: Leaf; what stands behind the leaf; the climb; The reference's Sum; The reference's Short, Walk, Digits; What is signed opens to the public one: the plain side; The reference's Public, Parts, Open; mss.Verify; The reference's rows, root, path; The reference's Verify; What Verify tells, and the reference's, as one plain function; escrow: a 
-/
import Derived.Outline
import Derived.Deep.AppendLies
import Derived.OneCell
import Derived.Lib.AppendZeros
import Derived.IntWalk
import Derived.Test.YthhmdgmmeedhdaaGreatR08
namespace Go.Proofs.YthhmdgmmeedhdaaGreat
open Go.RowKit Go.Shelf
def joinM (a b : ByteArray) : ByteArray := shortB (a.data.toList ++ b.data.toList)
theorem joinM_size (a b : ByteArray) : (joinM a b).size = 8 := shortB_size _
theorem short_two (W : World) (v1 v2 : Value) (l1 l2 : List UInt8) (h1 : BSl 0 W.heap.size W v1 l1) (h2 : BSl 0 W.heap.size W v2 l2) (hl : l1.length + l2.length ≤ 140737488353000) :
  Calls Tryz.prog 173 #[.slice (some ⟨W.heap.size, 0, none⟩) 2 2] (W.alloc (.cells #[v1, v2] 95)) fun e W' => e = .returned (.string (shortB (l1 ++ l2))) ∧ Below W.heap.size W W' := by
 have hb : Below W.heap.size W (W.alloc (.cells #[v1, v2] 95)) := chain0 _ _
 have up : ∀ {v : Value} {l : List UInt8}, BSl 0 W.heap.size W v l → BSl 0 (W.alloc (.cells #[v1, v2] 95)).heap.size (W.alloc (.cells #[v1, v2] 95)) v l := fun h => (h.below hb (Nat.le_refl _)).mono (Nat.le_refl _) hb.size
 have hs := short_of (W.alloc (.cells #[v1, v2] 95)) (.slice (some ⟨W.heap.size, 0, none⟩) 2 2) [(v1, l1), (v2, l2)] (by simp) (fun p hp => by
  simp only [List.mem_cons, List.not_mem_nil, or_false] at hp
  rcases hp with rfl | rfl
  ·
   exact ⟨up h1, by show l1.length ≤ _; omega⟩
  ·
   exact ⟨up h2, by show l2.length ≤ _; omega⟩) (by simp; omega) ⟨_, 2, rfl, Nat.le_refl _, .inr ⟨_, 0, rfl, Nat.zero_le _, by simp, fun k x hx => by
   have hB : Blk (W.alloc (.cells #[v1, v2] 95)) W.heap.size 95 [v1, v2] := Blk.new W _ [v1, v2]
   rw [Nat.zero_add, hB.cell]
   exact hx⟩⟩
 refine hs.mono fun e W' ⟨he, hb2⟩ => ⟨?_, chain hb hb2⟩
 rw [he]
 simp
set_option maxRecDepth 100000 in
set_option maxHeartbeats 2000000 in
theorem joinM_any (a b : ByteArray) (hs : a.size + b.size ≤ 140737488353000) (w : World) :
  Calls Tryz.prog 162 #[.string a, .string b] w fun e W' => e = .returned (.string (joinM a b)) ∧ Below w.heap.size w W' := by
 obtain ⟨c1, W1, hcv1, hb1, hz1, ht1⟩ := conv_txt w a
 obtain ⟨c2, W2, hcv2, hb2, hz2, ht2⟩ := conv_txt W1 b
 have h1 := (ht1.below hb2).bsl.mono (Nat.zero_le _) (Nat.le_refl _)
 have h2 := ht2.bsl.mono (Nat.zero_le _) (Nat.le_refl _)
 have hp : Hid (joinM a b = shortB (a.data.toList ++ b.data.toList)) := Lib.hid rfl
 have HS := Lib.hid (show a.data.toList.length + b.data.toList.length ≤ 140737488353000 from hs)
 clear hz1 hz2 ht1 ht2 hs
 go_enter Tryz.func162, Tryz.ntmps162
 go_wp2_with fail
 refine (short_two _ _ _ _ _ h1 h2 HS.out).mono ?_
 rintro e w3 ⟨rfl, hb3⟩
 go_wp2_with fail
 go_ret
 exact ⟨by rw [hp.out]; rfl, chain (chain hb1 hb2) hb3⟩
theorem cell_new1 (w : World) (t : TypeId) (v : Value) : ∀ (j : Nat) (u : Value), [v][j]? = some u → (w.alloc (.cells #[v] t)).cell? ((⟨w.heap.size, 0, none⟩ : Addr).add j) = some u := fun j u hu => by
 have hp : (⟨w.heap.size, 0, none⟩ : Addr).add j = ⟨w.heap.size, j, none⟩ := by cases j <;> simp [Addr.add]
 rw [hp, (Blk.new w t [v]).cell]
 exact hu
theorem upto_snoc {α : Type} (f : Nat → ByteArray) (k : Nat) (g : ByteArray → α) : (upto f (k + 1)).map g = (upto f k).map g ++ [g (f k)] := by rw [upto_succ, List.map_append]; rfl
end Go.Proofs.YthhmdgmmeedhdaaGreat
namespace Go.Proofs.YthhmdgmmeedhdaaGreat
open Go.RowKit Go.Shelf
def leafI (g : ByteArray) : Int := if h : 0 < g.size then (g[0].toNat : Int) else -1
set_option maxRecDepth 100000 in
theorem leaf_any (g : ByteArray) (w : World) : Calls Tryz.prog 144 #[.string g] w fun e W' => e = .returned (.int .i64 (leafI g)) ∧ w = W' := by
 by_cases h : 0 < g.size
 ·
  have hp : Hid (leafI g = (g[0].toNat : Int)) := Lib.hid (by unfold leafI; rw [dif_pos h])
  have h1 : g.toList.isEmpty = false := by
   rw [ByteArray.toList_eq]
   cases h2 : g.data.toList with
   | nil =>
    have h3 : g.data.toList.length = 0 := by rw [h2]; rfl
    have h4 : g.data.toList.length = g.size := rfl
    omega
   | cons => rfl
  have hx : (g[0].toNat : Int) ≤ 255 := by have := g[0].toNat_lt; omega
  go_enter Tryz.func144, Tryz.ntmps144
  go_wp2
  go_ret
  exact ⟨by rw [hp.out]; rfl, rfl⟩
 ·
  have hp : Hid (leafI g = -1) := Lib.hid (by unfold leafI; rw [dif_neg h])
  obtain rfl : g = ⟨#[]⟩ := by
   apply ByteArray.ext
   apply Array.eq_empty_of_size_eq_zero
   show g.size = 0
   omega
  go_enter Tryz.func144, Tryz.ntmps144
  go_wp2
  go_ret
  exact ⟨by rw [hp.out]; rfl, rfl⟩
def pieceB (g : ByteArray) (k : Nat) : ByteArray := (g.extract (1 + k * 8) g.size).extract 0 8
theorem pieceB_size {g : ByteArray} {k : Nat} (h : 9 + 8 * k ≤ g.size) : (pieceB g k).size = 8 := by
 unfold pieceB
 rw [ByteArray.size_extract, ByteArray.size_extract]
 omega
set_option maxRecDepth 100000 in
set_option maxHeartbeats 2000000 in
theorem cut_any (g : ByteArray) (hg : g.size = 145) (w : World) :
  Calls Tryz.prog 145 #[.string g] w (RowW w.heap.size 9 18 ((upto (pieceB g) 18).map tv) w) := by
 obtain ⟨i0, hi, hz0, hz1, hz2⟩ := info_parts Tryz.infoStr
 have HG := Lib.hid hg
 have hg' : g.size ≤ 145 := by omega
 have hg2 : 145 ≤ g.size := by omega
 clear hg
 go_enter Tryz.func145, Tryz.ntmps145
 go_wp2
 go_loopw [3, 5] (fun v i wr => ∃ k : Nat, k ≤ 18 ∧ i = .int .i64 (k : Nat) ∧ wr.ownsRow w.heap.size 9 1 v k ((upto (pieceB g) k).map tv) ∧ Below w.heap.size w wr) (fun _ i _ => 18 - (intOf i).toNat)
 case atStart => exact ⟨0, by omega, rfl, World.ownsRow_nil _ _ _ _, Below.refl _ _⟩
 case round =>
  obtain ⟨k, hk, rfl, hown, hB⟩ := hrel
  obtain ⟨va, vc, rfl⟩ := ownsRow_slice hown
  have hNW := hB.size
  by_cases hlt : k < 18
  ·
   have HT := Lib.hid (upto_snoc (pieceB g) k tv)
   have hlt' : (k : Int) < 18 := by omega
   have h1 : (1 : Int) + (k : Int) * 8 ≤ (g.size : Int) := by omega
   have h2 : (8 : Int) ≤ (g.size : Int) - (1 + (k : Int) * 8) := by omega
   have HLT := Lib.hid hlt
   clear hlt hk
   generalize (upto (pieceB g) k).map tv = ts at *
   have HP : Hid (pieceB g k = (g.extract (1 + k * 8) g.size).extract 0 8) := Lib.hid rfl
   go_wp2_with (at_builtin; refine wpList_append_own _ rfl _ _ 181 rfl w.heap.size 9 i0 (.string ⟨#[]⟩) 1 16 Tryz.underlying181 hi hz0 hz1 hz2 rfl (by decide) (.slice va k vc) k ts rfl (hown.alloc _) ⟨wr.heap.size, 0, none⟩ 1 1 [tv ((g.extract (1 + k * 8) g.size).extract 0 8)] rfl rfl (cell_new1 _ _ _) (by simp [Value.oneCell']) (by have := HLT.out; unfold maxLen; omega) (by have := HLT.out; omega) (by simp; omega) ?_; intro v' w3 hown' hgrow _; obtain ⟨g2, c2, rfl⟩ := ownsRow_succ hown')
   have hB3 : Below w.heap.size w w3 := (hB.alloc hNW _).grown hgrow (Nat.le_trans hNW (by simp)) (fun j hj => (World.ownsRow.lt hown j hj).1)
   go_roundw
   case rel => exact ⟨k + 1, HLT.out, by simp, by rw [HT.out, HP.out]; exact hown', hB3⟩
   case measure => have := HLT.out; simp [intOf]; omega
  ·
   obtain rfl : k = 18 := by omega
   go_wp2
   go_ret
   exact ⟨_, rfl, hown, hB⟩
theorem and1 {a : Nat} (ha : a ≤ 9223372036854775807) : bits .and .i64 (a : Int) 1 = ((a % 2 : Nat) : Int) := by
 have e := (Go.bits_nat .i64 63 (by decide) (fun n h0 h1 => by rw [IntKind.wrap_i64]; omega) a 1 (by simp; omega) (by simp)).1
 rw [Nat.and_one_is_mod] at e
 rw [← e]
 rfl
theorem odd_of (n k : Nat) (hn : n ≤ 255) : bits .and .i64 ((n : Int) / 2 ^ k) 1 = ((n / 2 ^ k % 2 : Nat) : Int) := by
 have e : (n : Int) / 2 ^ k = ((n / 2 ^ k : Nat) : Int) := by simp
 have h : n / 2 ^ k ≤ n := Nat.div_le_self _ _
 rw [e, and1 (by omega)]
def climbB (n : Nat) (p : List ByteArray) (x : ByteArray) : Nat → ByteArray
 | 0 => x
 | k + 1 => if n / 2 ^ k % 2 = 0 then joinM (climbB n p x k) (p.getD k ⟨#[]⟩) else joinM (p.getD k ⟨#[]⟩) (climbB n p x k)
theorem climbB_size (n : Nat) (p : List ByteArray) (x : ByteArray) (k : Nat) : (climbB n p x k).size ≤ max x.size 8 := by
 cases k with
 | zero => exact Nat.le_max_left _ _
 | succ k => rw [climbB]; split <;> rw [joinM_size] <;> exact Nat.le_max_right _ _
set_option maxRecDepth 100000 in
set_option maxHeartbeats 2000000 in
theorem climb_any (n : Nat) (hn : n ≤ 255) (x : ByteArray) (hx : x.size ≤ 8) (p : List ByteArray) (h3 : p.length = 3) (hp : ∀ y ∈ p, y.size ≤ 8) (sv : Value) (w : World) (hsv : VSl 0 w.heap.size w sv (p.map tv)) :
  Calls Tryz.prog 147 #[.int .i64 (n : Int), .string x, sv] w fun e W' => e = .returned (.string (climbB n p x 3)) ∧ Below w.heap.size w W' := by
 obtain ⟨a, cap, rfl⟩ := hsv.slice
 rw [List.length_map, h3]
 have hcell : ∃ b off, a = some ⟨b, off, none⟩ ∧ b < w.heap.size ∧ ∀ k, k < 3 → w.cell? ⟨b, off + k, none⟩ = some (.string (p.getD k ⟨#[]⟩)) := by
  obtain ⟨a', c', e, hc, h0⟩ := hsv
  cases e
  rcases h0 with h0 | ⟨b, off, ha, _, hb, hr⟩
  ·
   have := congrArg List.length h0
   rw [List.length_map, h3] at this
   simp at this
  ·
   refine ⟨b, off, ha, hb, fun k hk => hr k _ ?_⟩
   rw [List.getElem?_map, List.getD, List.getElem?_eq_getElem (by omega)]
   rfl
 have hsz : ∀ k, k < 3 → (p.getD k ⟨#[]⟩).size ≤ 8 := fun k hk => by
  rw [List.getD, List.getElem?_eq_getElem (show k < p.length by omega)]
  exact hp _ (List.getElem_mem _)
 obtain ⟨b, off, rfl, hbw, hcell⟩ := hcell
 have HC := Lib.hid hcell
 have HZ := Lib.hid hsz
 clear hcell hsz hsv hp h3
 go_enter Tryz.func147, Tryz.ntmps147
 go_wp2
 go_loopw [7, 10] (fun v i wr => ∃ k : Nat, k ≤ 3 ∧ i = .int .i64 (k : Nat) ∧ v = .string (climbB n p x k) ∧ Below w.heap.size w wr) (fun _ i _ => 3 - (intOf i).toNat)
 case atStart => exact ⟨0, by omega, rfl, rfl, Below.refl _ _⟩
 case round =>
  obtain ⟨k, hk, rfl, rfl, hB⟩ := hrel
  by_cases hlt : k < 3
  ·
   have c0 := (hB.cell (p := ⟨b, off + k, none⟩) hbw).trans (HC.out k hlt)
   have hlt' : (k : Int) < 3 := by omega
   have hs1 := climbB_size n p x k
   have hs2 := HZ.out k hlt
   by_cases hbit : n / 2 ^ k % 2 = 0
   ·
    have hb : (bits .and .i64 ((n : Int) / 2 ^ k) 1 == 0) = true := by rw [odd_of n k hn, hbit]; rfl
    have HK : Hid (climbB n p x (k + 1) = joinM (climbB n p x k) (p.getD k ⟨#[]⟩)) := Lib.hid (by rw [climbB, if_pos hbit])
    have HLT := Lib.hid hlt
    clear hbit hk hlt
    generalize p.getD k ⟨#[]⟩ = y at *
    generalize climbB n p x k = z at *
    go_wp2_with fail
    refine (joinM_any z y (by omega) _).mono ?_
    rintro e w2 ⟨rfl, hb2⟩
    go_wp2_with fail
    go_roundw
    case rel => exact ⟨k + 1, HLT.out, by simp, by rw [HK.out], hB.trans (hb2.mono hB.size)⟩
    case measure => have := HLT.out; simp [intOf]; omega
   ·
    have hb : (bits .and .i64 ((n : Int) / 2 ^ k) 1 == 0) = false := by
     rw [odd_of n k hn, show n / 2 ^ k % 2 = 1 by omega]; rfl
    have HK : Hid (climbB n p x (k + 1) = joinM (p.getD k ⟨#[]⟩) (climbB n p x k)) := Lib.hid (by rw [climbB, if_neg hbit])
    have HLT := Lib.hid hlt
    clear hbit hk hlt
    generalize p.getD k ⟨#[]⟩ = y at *
    generalize climbB n p x k = z at *
    go_wp2_with fail
    refine (joinM_any y z (by omega) _).mono ?_
    rintro e w2 ⟨rfl, hb2⟩
    go_wp2_with fail
    go_roundw
    case rel => exact ⟨k + 1, HLT.out, by simp, by rw [HK.out], hB.trans (hb2.mono hB.size)⟩
    case measure => have := HLT.out; simp [intOf]; omega
  ·
   obtain rfl : k = 3 := by omega
   go_wp2
   go_ret
   exact ⟨rfl, hB⟩
end Go.Proofs.YthhmdgmmeedhdaaGreat
namespace Go.Proofs.YthhmdgmmeedhdaaGreat
open Go.RowKit Go.Shelf
theorem sq_lits : uv sq 8 = .agg #[.int .u32 1779033703, .int .u32 3144134277, .int .u32 1013904242, .int .u32 2773480762, .int .u32 1359893119, .int .u32 2600822924, .int .u32 528734635, .int .u32 1541459225] := by
 show Value.agg (us sq 8).toArray = _
 rw [← sq_us]
 rfl
set_option maxRecDepth 100000 in
set_option maxHeartbeats 2000000 in
theorem refSum_any (l : List UInt8) (sv : Value) (w : World) (hreach : l.length ≤ 140737488353000) (hsv : BSl 0 w.heap.size w sv l) :
  Calls Tryz.prog 52 #[sv] w (ByO (sumL cb sq l) w) := by
 have hsv0 := hsv
 obtain ⟨a, cap, rfl, hcap, hcs⟩ := hsv
 clear hcs
 go_enter Tryz.func52, Tryz.ntmps52
 go_wp2_with fail
 refine (table_any _).mono ?_
 rintro e w1 ⟨rfl, hb1⟩
 go_wp2_with fail
 rw [← sq_lits]
 refine (refOver_any l _ sq cb _ hreach ((hsv0.below hb1 (Nat.le_refl _)).mono (Nat.le_refl _) hb1.size)).mono ?_
 rintro e w2 ⟨v, rfl, hown, hb2⟩
 go_wp2_with fail
 go_ret
 exact ⟨_, rfl, own_base4 hown hb1.size, chain hb1 hb2⟩
end Go.Proofs.YthhmdgmmeedhdaaGreat
namespace Go.Proofs.YthhmdgmmeedhdaaGreat
open Go.RowKit Go.Shelf
set_option maxRecDepth 100000 in
set_option maxHeartbeats 2000000 in
theorem refShort_any (s : ByteArray) (hs : s.size ≤ 140737488353000) (w : World) :
  Calls Tryz.prog 132 #[.string s] w fun e W' => e = .returned (.string (shortB s.data.toList)) ∧ Below w.heap.size w W' := by
 obtain ⟨c1, W1, hcv, hc1, hb1, hz1, ho1⟩ := conv_bytes w s
 have hnew := conv_bsl hc1 hz1 ho1
 clear hc1 hz1 ho1
 have hS : Hid (shortB s.data.toList = (sumS s.data.toList).extract 0 8) := Lib.hid rfl
 have hl : s.data.toList.length ≤ 140737488353000 := hs
 go_enter Tryz.func132, Tryz.ntmps132
 go_wp2_with fail
 refine (refSum_any s.data.toList _ _ hl (hnew.mono (Nat.zero_le _) (Nat.le_refl _))).mono ?_
 rintro e w2 ⟨v2, rfl, hown2, hb2⟩
 have hcv2 := run_string (P := Tryz.prog) 95 5 9 Tryz.underlying95 Tryz.underlying5 Tryz.underlying9 w2 (BSl.of_own hown2)
 obtain ⟨a2, c2, rfl⟩ := ownsRow_slice hown2
 have hss : (⟨(sumL cb sq s.data.toList).toArray⟩ : ByteArray) = sumS s.data.toList := rfl
 rw [hss] at hcv2
 have h8 : 8 ≤ (sumS s.data.toList).size := by rw [sumS_size]; omega
 have h8' : (8 : Int) ≤ ((sumS s.data.toList).size : Int) := by omega
 clear hss
 generalize hq : sumS s.data.toList = q at *
 have HQ := Lib.hid hq
 clear hq
 go_wp2_with fail
 go_ret
 exact ⟨by rw [hS.out]; rfl, chain hb1 hb2⟩
set_option maxRecDepth 100000 in
set_option maxHeartbeats 2000000 in
theorem refWalk_any (s : ByteArray) (hs : s.size ≤ 140737488353000) (n : Int) (w : World) :
  Calls Tryz.prog 150 #[.string s, .int .i64 n] w fun e W' => e = .returned (.string (linkB s (stp n))) ∧ Below w.heap.size w W' := by
 have h3 := stp_le n
 have hC := Lib.hid (stp_cases n)
 go_enter Tryz.func150, Tryz.ntmps150
 go_wp2
 go_loopw [0, 5] (fun v i wr => ∃ k : Nat, k ≤ stp n ∧ i = .int .i64 (k : Nat) ∧ v = .string (linkB s k) ∧ Below w.heap.size w wr) (fun _ i _ => 3 - (intOf i).toNat)
 case atStart => exact ⟨0, by omega, rfl, rfl, Below.refl _ _⟩
 case round =>
  obtain ⟨k, hk, rfl, rfl, hB⟩ := hrel
  have hls := linkB_size s k
  by_cases hlt : k < stp n
  ·
   have h1 : decide ((k : Int) < n) = true := by
    rcases hC.out with ⟨h, e⟩ | ⟨h, h', e⟩ | ⟨h, e⟩ <;> simp <;> omega
   have h2 : (k : Int) < 3 := by omega
   have HLT := Lib.hid hlt
   have HK := Lib.hid hk
   have H3 := Lib.hid h3
   clear hlt hk h3
   go_wp2_with fail
   refine (refShort_any (linkB s k) (by omega) _).mono ?_
   rintro e w2 ⟨rfl, hb2⟩
   go_wp2_with fail
   go_roundw
   case rel => exact ⟨k + 1, HLT.out, by simp, rfl, hB.trans (hb2.mono hB.size)⟩
   case measure => have := H3.out; have := HLT.out; simp [intOf]; omega
  ·
   obtain rfl : k = stp n := by omega
   by_cases hn : (stp n : Int) < n
   ·
    have h1 : decide ((stp n : Int) < n) = true := by simpa using hn
    have h2 : ¬ (stp n : Int) < 3 := by rcases hC.out with ⟨h, e⟩ | ⟨h, h', e⟩ | ⟨h, e⟩ <;> omega
    clear hn
    generalize hst : stp n = k at *
    have HST := Lib.hid hst
    clear hst
    go_wp2_with fail
    go_ret
    exact ⟨by rw [HST.out]; rfl, hB⟩
   ·
    have h1 : decide ((stp n : Int) < n) = false := by simpa using hn
    clear hn
    generalize hst : stp n = k at *
    have HST := Lib.hid hst
    clear hst
    go_wp2_with fail
    go_ret
    exact ⟨by rw [HST.out]; rfl, hB⟩
def sumAt (l : List UInt8) (k : Nat) : Nat := ((sumL cb sq l).getD k 0).toNat
theorem sumAt_lt (l : List UInt8) (k : Nat) : sumAt l k < 256 := UInt8.toNat_lt _
theorem headN_of (l : List UInt8) : headN l = sumAt l 0 * 65536 + sumAt l 1 * 256 + sumAt l 2 := by
 have h : (sumL cb sq l).length = 32 := sumTo_length _ 8
 unfold headN sumAt
 generalize sumL cb sq l = q at *
 match q, h with
 | x0 :: x1 :: x2 :: r, _ =>
  simp [be]
  omega
theorem digF_byte (l : List UInt8) {k : Nat} (hk : k < 3) : digF l (4 * k) = sumAt l k / 64 ∧ digF l (4 * k + 1) = sumAt l k / 16 % 4 ∧ digF l (4 * k + 2) = sumAt l k / 4 % 4 ∧ digF l (4 * k + 3) = sumAt l k % 4 := by
 have h := headN_of l
 have h0 := sumAt_lt l 0
 have h1 := sumAt_lt l 1
 have h2 := sumAt_lt l 2
 unfold digF dig
 rw [if_pos (by omega), if_pos (by omega), if_pos (by omega), if_pos (by omega)]
 generalize headN l = x at *
 have : k = 0 ∨ k = 1 ∨ k = 2 := by omega
 rcases this with rfl | rfl | rfl
 ·
  generalize sumAt l 0 = a at *
  generalize sumAt l 1 = b at *
  generalize sumAt l 2 = c at *
  simp only [Nat.reduceMul, Nat.reduceAdd, Nat.reduceSub, Nat.reducePow]
  omega
 ·
  generalize sumAt l 0 = a at *
  generalize sumAt l 1 = b at *
  generalize sumAt l 2 = c at *
  simp only [Nat.reduceMul, Nat.reduceAdd, Nat.reduceSub, Nat.reducePow]
  omega
 ·
  generalize sumAt l 0 = a at *
  generalize sumAt l 1 = b at *
  generalize sumAt l 2 = c at *
  simp only [Nat.reduceMul, Nat.reduceAdd, Nat.reduceSub, Nat.reducePow]
  omega
theorem digF_rest (l : List UInt8) : digF l 12 = restN l / 16 ∧ digF l 13 = restN l / 4 % 4 ∧ digF l 14 = restN l % 4 := by
 have hr : restN l ≤ 36 := by unfold restN; omega
 have e0 : digF l 12 = dig (restN l) 2 := rfl
 have e1 : digF l 13 = dig (restN l) 1 := rfl
 have e2 : digF l 14 = dig (restN l) 0 := rfl
 rw [e0, e1, e2]
 clear e0 e1 e2
 generalize restN l = r at *
 refine ⟨?_, ?_, ?_⟩
 ·
  show r / 16 % 4 = r / 16
  omega
 ·
  show r / 4 % 4 = r / 4 % 4
  rfl
 ·
  show r / 1 % 4 = r % 4
  omega
def digV (l : List UInt8) (k : Nat) : List Value := upto (fun i => iv (digF l i : Int)) k
theorem digV_all (l : List UInt8) : digV l 15 = (digL l).map iv := by
 apply List.ext_getElem?
 intro k
 unfold digV upto
 rw [List.getElem?_map, List.getElem?_map]
 by_cases hk : k < 15
 ·
  rw [List.getElem?_range hk, digL_at l hk]; rfl
 ·
  rw [List.getElem?_eq_none (by simp; omega), List.getElem?_eq_none (by rw [digL_length]; omega)]; rfl
theorem digV_four (l : List UInt8) {k : Nat} (hk : k < 3) : digV l (4 * (k + 1)) = digV l (4 * k) ++ [iv ((sumAt l k / 64 : Nat) : Int), iv ((sumAt l k / 16 % 4 : Nat) : Int), iv ((sumAt l k / 4 % 4 : Nat) : Int), iv ((sumAt l k % 4 : Nat) : Int)] := by
 obtain ⟨h0, h1, h2, h3⟩ := digF_byte l hk
 rw [← h0, ← h1, ← h2, ← h3, show 4 * (k + 1) = 4 * k + 3 + 1 by omega]
 unfold digV
 rw [upto_succ, show 4 * k + 3 = 4 * k + 2 + 1 by omega, upto_succ, show 4 * k + 2 = 4 * k + 1 + 1 by omega, upto_succ, upto_succ]
 simp
theorem digV_three (l : List UInt8) : digV l 15 = digV l 12 ++ [iv ((restN l / 16 : Nat) : Int), iv ((restN l / 4 % 4 : Nat) : Int), iv ((restN l % 4 : Nat) : Int)] := by
 obtain ⟨h0, h1, h2⟩ := digF_rest l
 rw [← h0, ← h1, ← h2]
 unfold digV
 rw [show 15 = 12 + 1 + 1 + 1 from rfl, upto_succ, upto_succ, upto_succ]
 simp
theorem sum_four (l : List UInt8) {k : Nat} (hk : k < 3) : sumTo12 (headN l) (4 * (k + 1)) = sumTo12 (headN l) (4 * k) + (sumAt l k / 64 + sumAt l k / 16 % 4 + sumAt l k / 4 % 4 + sumAt l k % 4) := by
 obtain ⟨h0, h1, h2, h3⟩ := digF_byte l hk
 rw [← h0, ← h1, ← h2, ← h3, show 4 * (k + 1) = 4 * k + 3 + 1 by omega, digF_step l _ (by omega), show 4 * k + 3 = 4 * k + 2 + 1 by omega, digF_step l _ (by omega), show 4 * k + 2 = 4 * k + 1 + 1 by omega, digF_step l _ (by omega), digF_step l _ (by omega)]
 omega
theorem cells_new (w : World) (t : TypeId) (vs : List Value) : ∀ (j : Nat) (u : Value), vs[j]? = some u → (w.alloc (.cells vs.toArray t)).cell? ((⟨w.heap.size, 0, none⟩ : Addr).add j) = some u := fun j u hu => by
 have hp : (⟨w.heap.size, 0, none⟩ : Addr).add j = ⟨w.heap.size, j, none⟩ := by cases j <;> simp [Addr.add]
 rw [hp, (Blk.new w t vs).cell]
 exact hu
set_option maxRecDepth 100000 in
set_option maxHeartbeats 4000000 in
theorem refDigits_any (l : List UInt8) (sv : Value) (w : World) (hreach : l.length ≤ 140737488353000) (hsv : BSl 0 w.heap.size w sv l) :
  Calls Tryz.prog 149 #[sv] w (RowW w.heap.size 3 15 ((digL l).map iv) w) := by
 obtain ⟨i0, hi, hz0, hz1, hz2⟩ := info_parts Tryz.infoIntI
 have hsv0 := hsv
 obtain ⟨a, cap, rfl⟩ := bsl_slice hsv
 clear hsv
 go_enter Tryz.func149, Tryz.ntmps149
 go_wp2_with fail
 refine (refSum_any l _ _ hreach hsv0).mono ?_
 rintro e w1 ⟨v1, rfl, hown1, hb1⟩
 have h32 : (sumL cb sq l).length = 32 := sumTo_length _ 8
 have hq1 := BSl.of_own hown1
 rw [h32] at hown1
 obtain ⟨g, c, rfl⟩ := ownsRow_succ hown1
 have hcell : ∀ k, k < 32 → w1.cell? ⟨g, k, none⟩ = some (.int .u8 (sumAt l k : Int)) := fun k hk => by
  obtain ⟨a', c', e', _, h0⟩ := hq1
  cases e'
  obtain ⟨b, off, ha, _, _, ho⟩ := h0.resolve_left (fun h => by rw [h] at h32; simp at h32)
  cases ha
  obtain ⟨x, hx⟩ : ∃ x, (sumL cb sq l)[k]? = some x := ⟨_, List.getElem?_eq_getElem (by rw [h32]; exact hk)⟩
  have h := ho k x hx
  rw [Nat.zero_add] at h
  rw [h]
  unfold sumAt
  rw [show (sumL cb sq l).getD k 0 = x by simp [List.getD, hx]]
 have HC := Lib.hid hcell
 have hgw : g < w1.heap.size := World.ownsRow.lt hown1 g rfl |>.2
 clear hcell hq1 hown1 hsv0 h32
 go_wp2
 go_loopw [4, 5, 6] (fun v r i wr => ∃ k : Nat, k ≤ 3 ∧ i = .int .i64 (k : Nat) ∧ r = .int .i64 (36 - (sumTo12 (headN l) (4 * k) : Int)) ∧ wr.ownsRow w1.heap.size 3 1 v (4 * k) (digV l (4 * k)) ∧ Below w1.heap.size w1 wr) (fun _ _ i _ => 3 - (intOf i).toNat)
 case atStart => exact ⟨0, by omega, rfl, rfl, World.ownsRow_nil _ _ _ _, Below.refl _ _⟩
 case round =>
  obtain ⟨k, hk, rfl, rfl, hown, hB⟩ := hrel
  have hsl := sumTo12_le (headN l) (4 * k)
  have hsl' : (sumTo12 (headN l) (4 * k) : Int) ≤ 36 := by omega
  obtain ⟨va, vc, rfl⟩ := ownsRow_slice hown
  have hNW := hB.size
  by_cases hlt : k < 3
  ·
   have cx := (hB.cell (p := ⟨g, k, none⟩) hgw).trans (HC.out k (by omega))
   have HV := Lib.hid (digV_four l hlt)
   have HS := Lib.hid (sum_four l hlt)
   have hx := sumAt_lt l k
   have hx' : (sumAt l k : Int) ≤ 255 := by omega
   have hlt' : (k : Int) < 3 := by omega
   have hk32 : (k : Int) < 32 := by omega
   have e0 : ((sumAt l k / 64 : Nat) : Int) = (sumAt l k : Int) / 64 := by simp
   have e1 : ((sumAt l k / 16 % 4 : Nat) : Int) = (sumAt l k : Int) / 16 % 4 := by simp
   have e2 : ((sumAt l k / 4 % 4 : Nat) : Int) = (sumAt l k : Int) / 4 % 4 := by simp
   have e3 : ((sumAt l k % 4 : Nat) : Int) = (sumAt l k : Int) % 4 := by simp
   rw [e0, e1, e2, e3] at HV
   clear e0 e1 e2 e3
   generalize sumTo12 (headN l) (4 * k) = S at *
   generalize sumAt l k = x at *
   generalize hq : digV l (4 * k) = ds at *
   have HQ := Lib.hid hq
   have HLT := Lib.hid hlt
   clear hq hlt hk
   go_wp2_with (at_builtin; refine wpList_append_own _ rfl _ _ 23 rfl w1.heap.size 3 i0 (.int .i64 0) 1 8 Tryz.underlying23 hi hz0 hz1 hz2 rfl (by decide) (.slice va (4 * k) vc) (4 * k) ds rfl (hown.alloc _) ⟨wr.heap.size, 0, none⟩ 4 4 [iv ((x : Int) / 64), iv ((x : Int) / 16 % 4), iv ((x : Int) / 4 % 4), iv ((x : Int) % 4)] rfl rfl (cells_new _ _ _) (by simp [Value.oneCell']) (by have := HLT.out; unfold maxLen; omega) (by have := HLT.out; omega) (by simp; omega) ?_; intro v' w2 hown' hgrow _; obtain ⟨g2, c2, rfl⟩ := ownsRow_succ (k := 4 * k + 3) hown')
   have hb2 : Below w1.heap.size wr w2 := (chain0 wr _ |>.mono hNW).grown hgrow (Nat.le_trans hNW (by simp)) (fun j hj => (World.ownsRow.lt hown j hj).1)
   go_roundw
   case rel =>
    refine ⟨k + 1, HLT.out, by simp, ?_, ?_, hB.trans hb2⟩
    ·
     rw [HS.out]
     exact congrArg (Value.int .i64) (by omega)
    ·
     rw [HV.out]
     exact hown'
   case measure => have := HLT.out; simp [intOf]; omega
  ·
   obtain rfl : k = 3 := by omega
   have hrn : Hid (digV l 15 = digV l 12 ++ [iv ((restN l / 16 : Nat) : Int), iv ((restN l / 4 % 4 : Nat) : Int), iv ((restN l % 4 : Nat) : Int)]) := Lib.hid (digV_three l)
   have hr : (36 - (sumTo12 (headN l) (4 * 3) : Int)) = ((restN l : Nat) : Int) := by
    unfold restN
    have : sumTo12 (headN l) 12 ≤ 36 := sumTo12_le (headN l) 12
    rw [show 4 * 3 = 12 from rfl]
    omega
   rw [hr]
   have hr36 : restN l ≤ 36 := by unfold restN; omega
   have hr36' : (restN l : Int) ≤ 36 := by omega
   have e0 : ((restN l / 16 : Nat) : Int) = (restN l : Int) / 16 := by simp
   have e1 : ((restN l / 4 % 4 : Nat) : Int) = (restN l : Int) / 4 % 4 := by simp
   have e2 : ((restN l % 4 : Nat) : Int) = (restN l : Int) % 4 := by simp
   rw [e0, e1, e2] at hrn
   have hall := Lib.hid (digV_all l)
   rw [show 4 * 3 = 12 from rfl] at hown
   clear hsl hsl' hr e0 e1 e2 hk hlt
   generalize restN l = r at *
   generalize digV l 12 = ds at *
   go_wp2_with (at_builtin; refine wpList_append_own _ rfl _ _ 23 rfl w1.heap.size 3 i0 (.int .i64 0) 1 8 Tryz.underlying23 hi hz0 hz1 hz2 rfl (by decide) (.slice va 12 vc) 12 ds rfl (hown.alloc _) ⟨wr.heap.size, 0, none⟩ 3 3 [iv ((r : Int) / 16), iv ((r : Int) / 4 % 4), iv ((r : Int) % 4)] rfl rfl (cells_new _ _ _) (by simp [Value.oneCell']) (by unfold maxLen; omega) (by omega) (by simp; omega) ?_; intro v' w2 hown' hgrow _; obtain ⟨g2, c2, rfl⟩ := ownsRow_succ (k := 14) hown')
   have hb2 : Below w1.heap.size wr w2 := (chain0 wr _ |>.mono hNW).grown hgrow (Nat.le_trans hNW (by simp)) (fun j hj => (World.ownsRow.lt hown j hj).1)
   rw [← hrn.out, hall.out] at hown'
   go_ret
   exact ⟨_, rfl, own_base hown' hb1.size, hb1.trans ((hB.trans hb2).mono hb1.size)⟩
end Go.Proofs.YthhmdgmmeedhdaaGreat
namespace Go.Proofs.YthhmdgmmeedhdaaGreat
open Go.RowKit Go.Shelf
theorem walked_get (zs : List ByteArray) (d : Nat → Int) (k : Nat) : (walked zs d)[k]? = zs[k]?.map fun x => linkB x (stp (d k)) := by
 unfold walked; rw [List.getElem?_mapIdx]
end Go.Proofs.YthhmdgmmeedhdaaGreat
namespace Go.Proofs.YthhmdgmmeedhdaaGreat
open Go.RowKit Go.Shelf
def catL (zs : List ByteArray) : ByteArray := zs.foldl (· ++ ·) ⟨#[]⟩
theorem catL_snoc (zs : List ByteArray) (x : ByteArray) : catL (zs ++ [x]) = catL zs ++ x := by unfold catL; rw [List.foldl_append]; rfl
theorem catL_list (zs : List ByteArray) : (catL zs).data.toList = (zs.map fun s => s.data.toList).flatten := by
 rw [← List.reverse_reverse zs]
 generalize zs.reverse = r
 induction r with
 | nil => rfl
 | cons x r ih =>
  rw [List.reverse_cons, catL_snoc, List.map_append, List.flatten_append, ← ih]
  simp
theorem catL_le (zs : List ByteArray) (m : Nat) (h : ∀ x ∈ zs, x.size ≤ m) : (catL zs).size ≤ zs.length * m := by
 have e : (catL zs).size = (catL zs).data.toList.length := rfl
 rw [e, catL_list]
 exact flatten_le _ m zs h
theorem joinB_of (zs : List ByteArray) : joinB zs = shortB (catL zs).data.toList := by rw [catL_list]; rfl
theorem catL_take {zs : List ByteArray} {k : Nat} {x : ByteArray} (h : zs[k]? = some x) : catL (zs.take (k + 1)) = catL (zs.take k) ++ x := by
 rw [List.take_add_one, h]; exact catL_snoc _ _
theorem textRow {lo n : Nat} {W : World} {v : Value} {zs : List ByteArray} (hn : zs.length = n + 1) (h : W.ownsRow lo 9 1 v (n + 1) (zs.map tv)) :
  ∃ g c, v = .slice (some ⟨g, 0, none⟩) (n + 1) c ∧ g < W.heap.size ∧ ∀ k x, zs[k]? = some x → W.cell? ⟨g, k, none⟩ = some (.string x) := by
 have hq := VSl.of_own (vs := zs.map tv) (by rw [List.length_map, hn]; exact h)
 obtain ⟨g, c, rfl⟩ := ownsRow_succ h
 obtain ⟨a', c', e, hc, h0 | ⟨b, off, ha, _, hb, hr⟩⟩ := hq
 ·
  have := congrArg List.length h0
  rw [List.length_map, hn] at this
  simp at this
 ·
  rw [List.length_map, hn] at e
  cases e
  cases ha
  exact ⟨g, c, rfl, hb, fun k x hk => by
   have := hr k (.string x) (by rw [List.getElem?_map, hk]; rfl)
   rwa [Nat.zero_add] at this⟩
set_option maxRecDepth 100000 in
set_option maxHeartbeats 600000 in
theorem refOpen_any (l : List UInt8) (tx : Value) (zs : List ByteArray) (sv : Value) (w : World) (hreach : l.length ≤ 140737488353000) (htx : BSl 0 w.heap.size w tx l) (hsv : VSl 0 w.heap.size w sv (zs.map tv)) :
  Calls Tryz.prog 131 #[tx, sv] w fun e W' => e = .returned (.string (openB l zs)) ∧ Below w.heap.size w W' := by
 have hmx : Tryz.prog.follows .mixedOrders = true := by kernel_rfl
 have hsv0 := hsv
 obtain ⟨sa, sc, rfl⟩ := hsv.slice
 have htx0 := htx
 obtain ⟨ta, tc, rfl⟩ := bsl_slice htx
 rw [List.length_map] at hsv0 ⊢
 clear htx hsv
 by_cases h15 : zs.length = 15
 ·
  have hno : ∀ (k : Nat) (x : ByteArray), zs[k]? = some x → x.size ≠ 8 → openB l zs = ⟨#[]⟩ := fun k x hx h8 => by
   unfold openB
   rw [if_neg]
   intro hw
   unfold wf at hw
   simp only [Bool.and_eq_true, List.all_eq_true, beq_iff_eq] at hw
   exact h8 (hw.2 x (List.mem_of_getElem? hx))
  have hyes : (∀ x ∈ zs, x.size = 8) → openB l zs = shortB (catL (walked zs fun k => 3 - (digF l k : Int))).data.toList := fun h8 => by
   unfold openB
   rw [if_pos, joinB_of]
   unfold wf
   simp only [Bool.and_eq_true, List.all_eq_true, beq_iff_eq, decide_eq_true_eq]
   exact ⟨h15, h8⟩
  have HNO := Lib.hid hno
  have HYES := Lib.hid hyes
  clear hno hyes
  obtain ⟨a', c', e', hc', hr⟩ := id hsv0
  rw [List.length_map] at e' hc'
  have hrow : ∃ b off, sa = some ⟨b, off, none⟩ ∧ b < w.heap.size ∧ ∀ k x, zs[k]? = some x → w.cell? ⟨b, off + k, none⟩ = some (.string x) := by
   rcases hr with h0 | ⟨b, off, ha, _, hb, hr⟩
   ·
    have := congrArg List.length h0
    rw [List.length_map, h15] at this
    simp at this
   ·
    cases e'
    exact ⟨b, off, ha, hb, fun k x hx => hr k _ (by rw [List.getElem?_map, hx]; rfl)⟩
  obtain ⟨b, off, rfl, hbw, hcell⟩ := hrow
  rw [h15]
  have HC := Lib.hid hcell
  have HBL := Lib.hid h15
  clear hcell h15 e' hc' hr hsv0
  go_enter Tryz.func131, Tryz.ntmps131
  go_wp2_with fail
  refine (refDigits_any l _ _ hreach htx0).mono ?_
  rintro e w1 ⟨v1, rfl, hown1, hb1⟩
  obtain ⟨g, c, rfl, hgw, hcap, hdc⟩ := digRow hown1
  have hle := digF_le l
  have HLE := Lib.hid hle
  have HDC := Lib.hid hdc
  have hsz1 := hb1.size
  clear hle hdc hown1 htx0
  go_wp2_with fail
  go_loopw [6, 7] (fun v i wr => ∃ k : Nat, k ≤ 15 ∧ i = .int .i64 (k : Nat) ∧ v = .string (catL ((walked zs fun k => 3 - (digF l k : Int)).take k)) ∧ (∀ x ∈ zs.take k, x.size = 8) ∧ Below w1.heap.size w1 wr) (fun _ i _ => 15 - (intOf i).toNat)
  case atStart => exact ⟨0, by omega, rfl, rfl, fun x hx => by simp at hx, Below.refl _ _⟩
  case round =>
   obtain ⟨k, hk, rfl, rfl, h8k, hB⟩ := hrel
   have H8K := Lib.hid h8k
   clear h8k
   by_cases hlt : k < 15
   ·
    obtain ⟨x, hx⟩ : ∃ x, zs[k]? = some x := ⟨_, List.getElem?_eq_getElem (by rw [HBL.out]; exact hlt)⟩
    have c0 := ((hB.cell (p := ⟨b, off + k, none⟩) (Nat.lt_of_lt_of_le hbw hsz1)).trans (hb1.cell (p := ⟨b, off + k, none⟩) hbw)).trans (HC.out k x hx)
    have hlt' : (k : Int) < 15 := by omega
    by_cases h8 : x.size = 8
    ·
     have hb8 : ((x.size : Int) != 8) = false := by simp; omega
     have cd := (hB.cell (p := ⟨g, k, none⟩) hgw).trans (HDC.out k hlt)
     have hd3 := HLE.out k
     have hd3' : (digF l k : Int) ≤ 3 := by omega
     have hwk := walked_at (fun k => 3 - (digF l k : Int)) hx
     have HK := Lib.hid (catL_take hwk)
     have hlk := linkB_size x (stp (3 - (digF l k : Int)))
     have hcs := catL_le ((walked zs fun k => 3 - (digF l k : Int)).take k) 8 (fun y hy => by
      have hyt : y ∈ walked (zs.take k) fun k => 3 - (digF l k : Int) := by
       obtain ⟨i, hi⟩ := List.mem_iff_getElem?.1 hy
       rw [List.getElem?_take] at hi
       split at hi
       ·
        rename_i hik
        refine List.mem_iff_getElem?.2 ⟨i, ?_⟩
        rw [walked_get] at hi ⊢
        rw [List.getElem?_take_of_lt hik]
        exact hi
       ·
        cases hi
      have := walked_mem (m := 8) (fun x hx => by rw [H8K.out x hx]; omega) hyt
      omega)
     rw [List.length_take, walked_length, HBL.out] at hcs
     have hadd : ¬ 9223372036854775807 < (catL ((walked zs fun k => 3 - (digF l k : Int)).take k)).size + (linkB x (stp (3 - (digF l k : Int)))).size := by omega
     have HX := Lib.hid hx
     have HLT := Lib.hid hlt
     have H8 := Lib.hid h8
     clear hx hwk hcs hlt hk h8 hd3 hlk
     generalize catL ((walked zs fun k => 3 - (digF l k : Int)).take k) = cs at *
     generalize digF l k = d at *
     have hwr : IntKind.i64.wrap (3 - (d : Int)) = 3 - (d : Int) := by rw [IntKind.wrap_i64]; omega
     have hszr := hB.size
     have hbwr := Nat.lt_of_lt_of_le hbw (Nat.le_trans hsz1 hszr)
     have hgwr := Nat.lt_of_lt_of_le hgw hszr
     go_wp2_with fail
     refine wp_region_held_drew (S := fun W => Below wr.heap.size wr W) hmx (Below.refl _ wr).drew ?_
     intro hS
     replace c0 : (wr.drew).cell? ⟨b, off + k, none⟩ = some (.string x) := c0
     replace cd : (wr.drew).cell? ⟨g, k, none⟩ = some (.int .i64 (d : Int)) := cd
     replace hbwr : b < (wr.drew).heap.size := hbwr
     replace hgwr : g < (wr.drew).heap.size := hgwr
     replace hszr : w1.heap.size ≤ (wr.drew).heap.size := hszr
     replace hB : Below w1.heap.size w1 wr.drew := hB.drew
     refine wpAnyH_mono (S' := fun W => Below wr.drew.heap.size wr.drew W) (fun W h => (Below.refl _ wr).drew.trans h) _ _ _ _ ?_
     replace hS : Below wr.drew.heap.size wr.drew wr.drew := Below.refl _ _
     generalize wr.drew = w2 at *
     refine' wpAnyH_take (i := 0) (oi := _) (v := _) ?hi0 (by kernel_rfl) (by kernel_rfl) (by kernel_rfl) ?hQ0 (Or.inl ⟨?hw0, ?hy0⟩) hS ?rest0
     case hi0 => simp only [List.getElem?_toArray, List.getElem?_cons_zero]; rfl
     case hQ0 => exact fun _ _ _ h => h
     case hw0 => rfl
     case hy0 => intro W' hS'; go_simp; with_reducible rfl
     try try simp only [Act.put, List.setIfInBounds_toArray, List.set_cons_zero, List.set_cons_succ]
     refine' wpAnyH_take (i := 1) (oi := _) (v := _) ?hi1 (by kernel_rfl) (by kernel_rfl) (by kernel_rfl) ?hQ1 (Or.inl ⟨?hw1, ?hy1⟩) hS ?rest1
     case hi1 => simp only [List.getElem?_toArray, List.getElem?_cons_succ, List.getElem?_cons_zero]; rfl
     case hQ1 => exact fun _ _ _ h => h
     case hw1 => rfl
     case hy1 => intro W' hS'; go_simp; with_reducible rfl
     try try simp only [Act.put, List.setIfInBounds_toArray, List.set_cons_zero, List.set_cons_succ]
     refine' wpAnyH_take (i := 2) (oi := _) (v := _) ?hi2 (by kernel_rfl) (by kernel_rfl) (by kernel_rfl) ?hQ2 (Or.inl ⟨?hw2, ?hy2⟩) hS ?rest2
     case hi2 => simp only [List.getElem?_toArray, List.getElem?_cons_succ, List.getElem?_cons_zero]; rfl
     case hQ2 => exact fun _ _ _ h => h
     case hw2 => rfl
     case hy2 => intro W' hS'; go_simp; with_reducible rfl
     try try simp only [Act.put, List.setIfInBounds_toArray, List.set_cons_zero, List.set_cons_succ]
     refine' wpAnyH_take (i := 3) (oi := _) (v := _) ?hi3 (by kernel_rfl) (by kernel_rfl) (by kernel_rfl) ?hQ3 (Or.inl ⟨?hw3, ?hy3⟩) hS ?rest3
     case hi3 => simp only [List.getElem?_toArray, List.getElem?_cons_succ, List.getElem?_cons_zero]; rfl
     case hQ3 => exact fun _ _ _ h => h
     case hw3 => rfl
     case hy3 => intro W' hS'; go_simp; with_reducible rfl
     try try simp only [Act.put, List.setIfInBounds_toArray, List.set_cons_zero, List.set_cons_succ]
     refine' wpAnyH_take (i := 4) (oi := _) (v := _) ?hi4 (by kernel_rfl) (by kernel_rfl) (by kernel_rfl) ?hQ4 (Or.inl ⟨?hw4, ?hy4⟩) hS ?rest4
     case hi4 => simp only [List.getElem?_toArray, List.getElem?_cons_succ, List.getElem?_cons_zero]; rfl
     case hQ4 => exact fun _ _ _ h => h
     case hw4 => rfl
     case hy4 => intro W' hS'; have cc := (hS'.cell (p := ⟨b, off + k, none⟩) hbwr).trans c0; go_simp; with_reducible rfl
     try try simp only [Act.put, List.setIfInBounds_toArray, List.set_cons_zero, List.set_cons_succ]
     refine' wpAnyH_take (i := 5) (oi := _) (v := _) ?hi5 (by kernel_rfl) (by kernel_rfl) (by kernel_rfl) ?hQ5 (Or.inl ⟨?hw5, ?hy5⟩) hS ?rest5
     case hi5 => simp only [List.getElem?_toArray, List.getElem?_cons_succ, List.getElem?_cons_zero]; rfl
     case hQ5 => exact fun _ _ _ h => h
     case hw5 => rfl
     case hy5 => intro W' hS'; go_simp; with_reducible rfl
     try try simp only [Act.put, List.setIfInBounds_toArray, List.set_cons_zero, List.set_cons_succ]
     refine' wpAnyH_take (i := 6) (oi := _) (v := _) ?hi6 (by kernel_rfl) (by kernel_rfl) (by kernel_rfl) ?hQ6 (Or.inl ⟨?hw6, ?hy6⟩) hS ?rest6
     case hi6 => simp only [List.getElem?_toArray, List.getElem?_cons_succ, List.getElem?_cons_zero]; rfl
     case hQ6 => exact fun _ _ _ h => h
     case hw6 => rfl
     case hy6 => intro W' hS'; go_simp; with_reducible rfl
     try try simp only [Act.put, List.setIfInBounds_toArray, List.set_cons_zero, List.set_cons_succ]
     refine' wpAnyH_take (i := 7) (oi := _) (v := _) ?hi7 (by kernel_rfl) (by kernel_rfl) (by kernel_rfl) ?hQ7 (Or.inl ⟨?hw7, ?hy7⟩) hS ?rest7
     case hi7 => simp only [List.getElem?_toArray, List.getElem?_cons_succ, List.getElem?_cons_zero]; rfl
     case hQ7 => exact fun _ _ _ h => h
     case hw7 => rfl
     case hy7 => intro W' hS'; go_simp; with_reducible rfl
     try try simp only [Act.put, List.setIfInBounds_toArray, List.set_cons_zero, List.set_cons_succ]
     refine' wpAnyH_take (i := 8) (oi := _) (v := _) ?hi8 (by kernel_rfl) (by kernel_rfl) (by kernel_rfl) ?hQ8 (Or.inl ⟨?hw8, ?hy8⟩) hS ?rest8
     case hi8 => simp only [List.getElem?_toArray, List.getElem?_cons_succ, List.getElem?_cons_zero]; rfl
     case hQ8 => exact fun _ _ _ h => h
     case hw8 => rfl
     case hy8 => intro W' hS'; have cc := (hS'.cell (p := ⟨g, k, none⟩) hgwr).trans cd; go_simp; with_reducible rfl
     try try simp only [Act.put, List.setIfInBounds_toArray, List.set_cons_zero, List.set_cons_succ]
     refine' wpAnyH_take (i := 9) (oi := _) (v := _) ?hi9 (by kernel_rfl) (by kernel_rfl) (by kernel_rfl) ?hQ9 (Or.inl ⟨?hw9, ?hy9⟩) hS ?rest9
     case hi9 => simp only [List.getElem?_toArray, List.getElem?_cons_succ, List.getElem?_cons_zero]; rfl
     case hQ9 => exact fun _ _ _ h => h
     case hw9 => rfl
     case hy9 => intro W' hS'; go_simp; with_reducible rfl
     try try simp only [Act.put, List.setIfInBounds_toArray, List.set_cons_zero, List.set_cons_succ]
     refine wpAnyH_ready (rs := [10]) (by kernel_rfl) (by simp) ?_
     refine' AllReadyH.cons (o := _) ?ho10 (fun K hK => ?st10) AllReadyH.nil
     case ho10 => simp only [List.getElem?_toArray, List.getElem?_cons_succ, List.getElem?_cons_zero]; rfl
     go_simp
     refine (refWalk_any x (by have := H8.out; omega) (3 - (d : Int)) _).mono ?_
     rintro e w3 ⟨rfl, hb⟩
     refine hK.out _ _ hb (fun hS2 => ?_)
     clear hK K hS2
     try try simp only [Act.put, List.setIfInBounds_toArray, List.set_cons_zero, List.set_cons_succ]
     refine wpAnyH_mono (S' := fun W => Below w3.heap.size w3 W) (fun W h => chain hb h) _ _ _ _ ?_
     replace hS : Below w3.heap.size w3 w3 := Below.refl _ _
     replace hB := hB.trans (hb.mono hszr)
     clear hb
     refine' wpAnyH_take (i := 11) (oi := _) (v := _) ?hi11 (by kernel_rfl) (by kernel_rfl) (by kernel_rfl) ?hQ11 (Or.inl ⟨?hw11, ?hy11⟩) hS ?rest11
     case hi11 => simp only [List.getElem?_toArray, List.getElem?_cons_succ, List.getElem?_cons_zero]; rfl
     case hQ11 => exact fun _ _ _ h => h
     case hw11 => rfl
     case hy11 => intro W' hS'; go_simp; with_reducible rfl
     try try simp only [Act.put, List.setIfInBounds_toArray, List.set_cons_zero, List.set_cons_succ]
     refine' wpAnyH_take (i := 12) (oi := _) (v := _) ?hi12 (by kernel_rfl) (by kernel_rfl) (by kernel_rfl) ?hQ12 (Or.inl ⟨?hw12, ?hy12⟩) hS ?rest12
     case hi12 => simp only [List.getElem?_toArray, List.getElem?_cons_succ, List.getElem?_cons_zero]; rfl
     case hQ12 => exact fun _ _ _ h => h
     case hw12 => rfl
     case hy12 => intro W' hS'; go_simp; with_reducible rfl
     try try simp only [Act.put, List.setIfInBounds_toArray, List.set_cons_zero, List.set_cons_succ]
     refine wpAnyH_done (by kernel_rfl) ?_ _
     go_wp2_with fail
     go_roundw
     case rel =>
      refine ⟨k + 1, HLT.out, by simp, by rw [HK.out], fun y hy => ?_, hB⟩
      rw [List.take_add_one, HX.out] at hy
      rcases List.mem_append.1 hy with h | h
      ·
       exact H8K.out y h
      ·
       have : y = x := by simpa using h
       rw [this]; exact H8.out
     case measure => have := HLT.out; simp [intOf]; omega
    ·
     have hb8 : ((x.size : Int) != 8) = true := by simp; omega
     have hN := Lib.hid (HNO.out k x hx h8)
     clear hx h8
     go_wp2_with fail
     go_ret
     exact ⟨by rw [hN.out]; rfl, hb1.trans (hB.mono hsz1)⟩
   ·
    obtain rfl : k = 15 := by omega
    have hall : ∀ x ∈ zs, x.size = 8 := fun x hx => H8K.out x (by rw [List.take_of_length_le (by rw [HBL.out]; omega)]; exact hx)
    have hY := Lib.hid (HYES.out hall)
    have hcs := catL_le (walked zs fun k => 3 - (digF l k : Int)) 8 (fun y hy => by have := walked_mem (m := 8) (fun x hx => by rw [hall x hx]; omega) hy; omega)
    rw [walked_length, HBL.out] at hcs
    rw [List.take_of_length_le (by rw [walked_length, HBL.out]; omega)]
    clear hall
    generalize catL (walked zs fun k => 3 - (digF l k : Int)) = cs at *
    go_wp2_with fail
    refine (refShort_any cs (by omega) _).mono ?_
    rintro e w2 ⟨rfl, hb2⟩
    go_wp2_with fail
    go_ret
    exact ⟨by rw [hY.out]; rfl, hb1.trans ((hB.trans (hb2.mono hB.size)).mono hsz1)⟩
 ·
  have hp : Hid (openB l zs = ⟨#[]⟩) := Lib.hid (by
   unfold openB
   rw [if_neg]
   unfold wf
   simp [h15])
  have h15' : ((zs.length : Int) != 15) = true := by simp; omega
  clear h15
  go_enter Tryz.func131, Tryz.ntmps131
  go_wp2_with fail
  go_ret
  exact ⟨by rw [hp.out]; rfl, Below.refl _ _⟩
end Go.Proofs.YthhmdgmmeedhdaaGreat
namespace Go.Proofs.YthhmdgmmeedhdaaGreat
open Go.RowKit Go.Shelf
def leafN (g : ByteArray) : Nat := if h : 0 < g.size then g[0].toNat else 0
theorem leafN_le (g : ByteArray) : leafN g ≤ 255 := by
 unfold leafN
 split
 ·
  have := g[0].toNat_lt
  omega
 ·
  omega
theorem leafI_of {g : ByteArray} (h : 0 < g.size) : leafI g = (leafN g : Int) := by unfold leafI leafN; rw [dif_pos h, dif_pos h]
def cutL (g : ByteArray) : List ByteArray := upto (pieceB g) 18
theorem cutL_length (g : ByteArray) : (cutL g).length = 18 := upto_length _ _
theorem cutL_size {g : ByteArray} (hg : g.size = 145) {x : ByteArray} (h : x ∈ cutL g) : x.size = 8 := by
 unfold cutL upto at h
 obtain ⟨j, hj, rfl⟩ := List.mem_map.1 h
 have := List.mem_range.1 hj
 exact pieceB_size (by omega)
def topB (l : List UInt8) (g : ByteArray) : ByteArray := climbB (leafN g) ((cutL g).drop 15) (openB l ((cutL g).take 15)) 3
theorem openB_size (l : List UInt8) (zs : List ByteArray) : (openB l zs).size ≤ 8 := by
 unfold openB
 split
 ·
  exact Nat.le_of_eq (shortB_size _)
 ·
  exact Nat.zero_le _
theorem partV {W : World} {g : Nat} {zs : List ByteArray} (i m c : Nat) (h : i + m ≤ zs.length) (hc : m ≤ c) (hg : g < W.heap.size) (hx : ∀ k x, zs[k]? = some x → W.cell? ⟨g, k, none⟩ = some (.string x)) :
  VSl 0 W.heap.size W (.slice (some ⟨g, i, none⟩) m c) (((zs.drop i).take m).map tv) := by
 have hl : (((zs.drop i).take m).map tv).length = m := by rw [List.length_map, List.length_take, List.length_drop]; omega
 refine ⟨_, c, by rw [hl], by rw [hl]; exact hc, .inr ⟨g, i, rfl, Nat.zero_le _, hg, fun k x hk => ?_⟩⟩
 rw [List.getElem?_map] at hk
 obtain ⟨y, hy, rfl⟩ := Option.map_eq_some_iff.1 hk
 have hkm : k < m := by
  have := (List.getElem?_eq_some_iff.1 hy).1
  rw [List.length_take] at this
  omega
 rw [List.getElem?_take_of_lt hkm, List.getElem?_drop] at hy
 exact hx _ _ hy
def verN (g : ByteArray) (b : Bool) : Int := if b then (leafN g : Int) else 0
def VerW (n : Int) (b : Bool) (w : World) (e : Ending) (W' : World) : Prop := e = .returned (.tuple #[.int .i64 n, .bool b]) ∧ Below w.heap.size w W'
set_option maxRecDepth 100000 in
set_option maxHeartbeats 2000000 in
theorem verify_long (root : ByteArray) (tx : Value) (g : ByteArray) (hg : g.size ≠ 145) (w : World) :
  Calls Tryz.prog 128 #[.string root, tx, .string g] w (VerW 0 false w) := by
 have h1 : ((g.size : Int) == 145) = false := by simp; omega
 have h2 : ((g.size : Int) != 145) = true := by simp; omega
 go_enter Tryz.func128, Tryz.ntmps128
 go_wp2_with fail
 refine (leaf_any g _).mono ?_
 rintro e w1 ⟨rfl, rfl⟩
 go_wp2_with fail
 go_ret2
 exact ⟨rfl, Below.refl _ _⟩
set_option maxRecDepth 100000 in
set_option maxHeartbeats 2000000 in
theorem verify_leaf (root : ByteArray) (tx : Value) (g : ByteArray) (hg : g.size = 145) (h8 : 8 ≤ leafN g) (w : World) :
  Calls Tryz.prog 128 #[.string root, tx, .string g] w (VerW 0 false w) := by
 have h1 : ((g.size : Int) == 145) = true := by simp; omega
 have h2 : ((g.size : Int) != 145) = false := by simp; omega
 have HL := Lib.hid (leafI_of (g := g) (by omega))
 have h3 : 8 ≤ (leafN g : Int) := by omega
 clear hg h8
 go_enter Tryz.func128, Tryz.ntmps128
 go_wp2_with fail
 refine (leaf_any g _).mono ?_
 rw [HL.out]
 rintro e w1 ⟨rfl, rfl⟩
 go_wp2_with fail
 go_ret2
 exact ⟨rfl, Below.refl _ _⟩
set_option maxRecDepth 100000 in
set_option maxHeartbeats 2000000 in
theorem verify_top (root : ByteArray) (l : List UInt8) (tx : Value) (g : ByteArray) (hg : g.size = 145) (h8 : leafN g < 8) (w : World) (hreach : l.length ≤ 140737488353000) (htx : BSl 0 w.heap.size w tx l) (b : Bool) (hb : b = true ↔ topB l g = root) :
  Calls Tryz.prog 128 #[.string root, tx, .string g] w (VerW (verN g b) b w) := by
 have h1 : ((g.size : Int) == 145) = true := by simp; omega
 have h2 : ((g.size : Int) != 145) = false := by simp; omega
 have HL := Lib.hid (leafI_of (g := g) (by omega))
 have h3 : ¬ 8 ≤ (leafN g : Int) := by omega
 have HG := Lib.hid hg
 have HZ := Lib.hid (fun x (h : x ∈ cutL g) => cutL_size hg h)
 have HLN := Lib.hid (leafN_le g)
 have HT : Hid (topB l g = climbB (leafN g) ((cutL g).drop 15) (openB l ((cutL g).take 15)) 3) := Lib.hid rfl
 have HB := Lib.hid hb
 have htx0 := htx
 obtain ⟨ta, tc, rfl⟩ := bsl_slice htx
 clear hg h8 htx hb
 go_enter Tryz.func128, Tryz.ntmps128
 go_wp2_with fail
 refine (leaf_any g _).mono ?_
 rw [HL.out]
 rintro e w1 ⟨rfl, rfl⟩
 go_wp2_with fail
 refine (cut_any g HG.out _).mono ?_
 rintro e w2 ⟨v2, rfl, hown2, hb2⟩
 obtain ⟨q, c, rfl, hq, hx⟩ := textRow (n := 17) (zs := cutL g) (cutL_length g) hown2
 have hc : 18 ≤ c := by
  obtain ⟨_, h0 | ⟨g', cap', cur', e', _, _, hnc, _⟩⟩ := hown2
  ·
   exact absurd h0.2 (by decide)
  ·
   cases e'; exact hnc
 have HX := Lib.hid hx
 have hc1 : ¬ c < 15 := by omega
 have htx2 := (htx0.below hb2 (Nat.le_refl _)).mono (Nat.le_refl _) hb2.size
 clear hown2 hx htx0
 have hV15 := partV 0 15 c (by rw [cutL_length]; omega) (by omega) hq HX.out
 have h15 : (((cutL g).drop 0).take 15) = (cutL g).take 15 := rfl
 rw [h15] at hV15
 have hV3 := partV 15 3 (c - 15) (by rw [cutL_length]; omega) (by omega) hq HX.out
 have h3' : (((cutL g).drop 15).take 3) = (cutL g).drop 15 := List.take_of_length_le (by rw [List.length_drop, cutL_length]; omega)
 rw [h3'] at hV3
 have hl3 : ((cutL g).drop 15).length = 3 := by rw [List.length_drop, cutL_length]
 have hz15 : ∀ x ∈ (cutL g).take 15, x.size ≤ 9223372036854775807 := fun x hx => by rw [HZ.out x (List.mem_of_mem_take hx)]; omega
 have hz3 : ∀ x ∈ (cutL g).drop 15, x.size ≤ 8 := fun x hx => Nat.le_of_eq (HZ.out x (List.mem_of_mem_drop hx))
 have HZ15 := Lib.hid hz15
 have HZ3 := Lib.hid hz3
 have HL3 := Lib.hid hl3
 have hoz := openB_size l ((cutL g).take 15)
 clear h15 h3' hz15 hz3 hl3
 generalize (cutL g).take 15 = p15 at *
 generalize (cutL g).drop 15 = p3 at *
 go_wp2_with fail
 refine (open_any l _ p15 _ _ hreach HZ15.out htx2 hV15).mono ?_
 rintro e w3 ⟨rfl, hb3⟩
 have hV4 := (hV3.below hb3 (Nat.le_refl _)).mono (Nat.le_refl _) hb3.size
 have hB3 := chain hb2 hb3
 generalize openB l p15 = ob at *
 clear hV3 hV15 htx2 hb2 hb3
 go_wp2_with fail
 refine (climb_any (leafN g) HLN.out ob hoz p3 HL3.out HZ3.out _ _ hV4).mono ?_
 rintro e w4 ⟨rfl, hb4⟩
 rw [← HT.out]
 have hB4 := chain hB3 hb4
 generalize topB l g = top at *
 clear hB3 hb4 hV4
 cases b with
 | true =>
  obtain rfl : top = root := HB.out.1 rfl
  have he : (top.toList == top.toList) = true := by simp
  have hv : Hid (verN g true = (leafN g : Int)) := Lib.hid rfl
  go_wp2_with fail
  go_ret2
  exact ⟨by rw [hv.out]; rfl, hB4⟩
 | false =>
  have he : (top.toList == root.toList) = false := by
   rw [beq_eq_false_iff_ne]
   intro h
   rw [ByteArray.toList_eq, ByteArray.toList_eq] at h
   have h2 : top = root := ByteArray.ext (Array.toList_inj.1 h)
   exact absurd (HB.out.2 h2) (by decide)
  have hv : Hid (verN g false = 0) := Lib.hid rfl
  go_wp2_with fail
  go_ret2
  exact ⟨by rw [hv.out]; rfl, hB4⟩
end Go.Proofs.YthhmdgmmeedhdaaGreat
namespace Go.Proofs.YthhmdgmmeedhdaaGreat
open Go.RowKit Go.Shelf
theorem joinM_of (a b : ByteArray) : joinM a b = shortB (a ++ b).data.toList := by
 unfold joinM
 congr 1
end Go.Proofs.YthhmdgmmeedhdaaGreat
namespace Go.Proofs.YthhmdgmmeedhdaaGreat
open Go.RowKit Go.Shelf
theorem pieceB_of {g : ByteArray} {k : Nat} (h : 9 + 8 * k ≤ g.size) : pieceB g k = g.extract (1 + 8 * k) (9 + 8 * k) := by
 unfold pieceB
 apply ByteArray.ext
 apply Array.toList_inj.1
 simp only [ByteArray.data_extract, Array.toList_extract, List.extract_eq_take_drop]
 have h' : g.data.size = g.size := rfl
 rw [Nat.mul_comm k 8, List.drop_zero, List.take_take]
 congr 1
 omega
theorem drop_getD (zs : List ByteArray) {i k : Nat} (h : i + k < zs.length) : zs[i + k]? = some ((zs.drop i).getD k ⟨#[]⟩) := by
 rw [List.getD, List.getElem?_drop, List.getElem?_eq_getElem h]
 rfl
set_option maxRecDepth 100000 in
set_option maxHeartbeats 2000000 in
theorem refVerify_long (root : ByteArray) (tx : Value) (g : ByteArray) (hg : g.size ≠ 145) (w : World) :
  Calls Tryz.prog 105 #[.string root, tx, .string g] w (VerW 0 false w) := by
 have h1 : ((g.size : Int) == 145) = false := by simp; omega
 have h2 : ((g.size : Int) != 145) = true := by simp; omega
 go_enter Tryz.func105, Tryz.ntmps105
 go_wp2_with fail
 go_ret2
 exact ⟨rfl, Below.refl _ _⟩
theorem leafN_of {g : ByteArray} (h : 0 < g.size) : leafN g = (g[0]'h).toNat := by unfold leafN; rw [dif_pos h]
set_option maxRecDepth 100000 in
set_option maxHeartbeats 2000000 in
theorem refVerify_leaf (root : ByteArray) (tx : Value) (g : ByteArray) (hg : g.size = 145) (h8 : 8 ≤ leafN g) (w : World) :
  Calls Tryz.prog 105 #[.string root, tx, .string g] w (VerW 0 false w) := by
 have h1 : ((g.size : Int) == 145) = true := by simp; omega
 have h2 : ((g.size : Int) != 145) = false := by simp; omega
 have h0 : 0 < g.size := by omega
 rw [leafN_of h0] at h8
 have h3 : 7 < (g[0].toNat : Int) := by omega
 clear hg h8
 go_enter Tryz.func105, Tryz.ntmps105
 go_wp2_with fail
 go_ret2
 exact ⟨rfl, Below.refl _ _⟩
set_option maxRecDepth 100000 in
set_option maxHeartbeats 8000000 in
theorem refVerify_top (root : ByteArray) (l : List UInt8) (tx : Value) (g : ByteArray) (hg : g.size = 145) (h8 : leafN g < 8) (w : World) (hreach : l.length ≤ 140737488353000) (htx : BSl 0 w.heap.size w tx l) (b : Bool) (hb : b = true ↔ topB l g = root) :
  Calls Tryz.prog 105 #[.string root, tx, .string g] w (VerW (verN g b) b w) := by
 have hmx : Tryz.prog.follows .mixedOrders = true := by kernel_rfl
 obtain ⟨i0, hi, hz0, hz1, hz2⟩ := info_parts Tryz.infoStr
 have h1 : ((g.size : Int) == 145) = true := by simp; omega
 have h2 : ((g.size : Int) != 145) = false := by simp; omega
 have h0 : 0 < g.size := by omega
 have hLf := Lib.hid (leafN_of h0)
 have h3 : ¬ 7 < (g[0].toNat : Int) := by rw [leafN_of h0] at h8; omega
 have h60 : (g[0].toNat : Int) ≤ 255 := by have := g[0].toNat_lt; omega
 have HG := Lib.hid hg
 have H8 := Lib.hid h8
 have HZ := Lib.hid (fun x (h : x ∈ cutL g) => cutL_size hg h)
 have HT : Hid (topB l g = climbB (leafN g) ((cutL g).drop 15) (openB l ((cutL g).take 15)) 3) := Lib.hid rfl
 have HB := Lib.hid hb
 have HCL : Hid (cutL g = upto (pieceB g) 18) := Lib.hid rfl
 have htx0 := htx
 obtain ⟨ta, tc, rfl⟩ := bsl_slice htx
 have hg' : g.size ≤ 145 := by omega
 have hg2 : 145 ≤ g.size := by omega
 clear hg h8 htx hb
 go_enter Tryz.func105, Tryz.ntmps105
 go_wp2_with fail
 go_loopw [8, 9] (fun v i wr => ∃ k : Nat, k ≤ 18 ∧ i = .int .i64 (k : Nat) ∧ wr.ownsRow w.heap.size 9 1 v k ((upto (pieceB g) k).map tv) ∧ Below w.heap.size w wr) (fun _ i _ => 18 - (intOf i).toNat)
 case atStart => exact ⟨0, by omega, rfl, World.ownsRow_nil _ _ _ _, Below.refl _ _⟩
 case round =>
  obtain ⟨k, hk, rfl, hown, hB⟩ := hrel
  obtain ⟨va, vc, rfl⟩ := ownsRow_slice hown
  have hNW := hB.size
  by_cases hlt : k < 18
  ·
   have HTT := Lib.hid (upto_snoc (pieceB g) k tv)
   have HP := Lib.hid (pieceB_of (g := g) (k := k) (by omega))
   have hlt' : (k : Int) < 18 := by omega
   have HLT := Lib.hid hlt
   clear hlt hk
   generalize (upto (pieceB g) k).map tv = ts at *
   go_wp2_with (at_builtin; refine wpList_append_own _ rfl _ _ 181 rfl w.heap.size 9 i0 (.string ⟨#[]⟩) 1 16 Tryz.underlying181 hi hz0 hz1 hz2 rfl (by decide) (.slice va k vc) k ts rfl (hown.alloc _) ⟨wr.heap.size, 0, none⟩ 1 1 [tv (g.extract (1 + 8 * k) (9 + 8 * k))] rfl rfl (cell_new1 _ _ _) (by simp [Value.oneCell']) (by have := HLT.out; unfold maxLen; omega) (by have := HLT.out; omega) (by simp; omega) ?_; intro v' w3 hown' hgrow _; obtain ⟨g2, c2, rfl⟩ := ownsRow_succ hown')
   have hB3 : Below w.heap.size w w3 := (hB.alloc hNW _).grown hgrow (Nat.le_trans hNW (by simp)) (fun j hj => (World.ownsRow.lt hown j hj).1)
   go_roundw
   case rel => exact ⟨k + 1, HLT.out, by simp, by rw [HTT.out, HP.out]; exact hown', hB3⟩
   case measure => have := HLT.out; simp [intOf]; omega
  ·
   obtain rfl : k = 18 := by omega
   rw [← HCL.out] at hown
   clear hlt hk
   obtain ⟨q, c, e, hq, hx⟩ := textRow (n := 17) (zs := cutL g) (cutL_length g) hown
   have hc : 18 ≤ vc := by
    obtain ⟨_, h0 | ⟨g', cap', cur', e', _, _, hnc, _⟩⟩ := hown
    ·
     exact absurd h0.2 (by decide)
    ·
     cases e'; exact hnc
   cases e
   have HX := Lib.hid hx
   have hc1 : ¬ vc < 15 := by omega
   have hci : (15 : Int) ≤ (vc : Int) := by omega
   have htx2 := (htx0.below hB (Nat.le_refl _)).mono (Nat.le_refl _) hB.size
   have hV15 := partV 0 15 vc (by rw [cutL_length]; omega) (by omega) hq HX.out
   have h15 : (((cutL g).drop 0).take 15) = (cutL g).take 15 := rfl
   rw [h15] at hV15
   have hz15 : ∀ x ∈ (cutL g).take 15, x.size ≤ 9223372036854775807 := fun x hx => by rw [HZ.out x (List.mem_of_mem_take hx)]; omega
   have HZ15 := Lib.hid hz15
   have hoz := openB_size l ((cutL g).take 15)
   have hp3 : ∀ k, k < 3 → (cutL g)[15 + k]? = some (((cutL g).drop 15).getD k ⟨#[]⟩) := fun k hk => drop_getD (cutL g) (by rw [cutL_length]; omega)
   have hx3 : ∀ k, k < 3 → wr.cell? ⟨q, 15 + k, none⟩ = some (.string (((cutL g).drop 15).getD k ⟨#[]⟩)) := fun k hk => HX.out (15 + k) _ (hp3 k hk)
   have hs3 : ∀ k, k < 3 → (((cutL g).drop 15).getD k ⟨#[]⟩).size ≤ 8 := fun k hk => Nat.le_of_eq (HZ.out _ (List.mem_of_getElem? (hp3 k hk)))
   have HX3 := Lib.hid hx3
   have HS3 := Lib.hid hs3
   have HLE := Lib.hid (show leafN g ≤ 255 from leafN_le g)
   clear h15 hz15 hp3 hx3 hs3 hown hx htx0
   generalize (cutL g).take 15 = p15 at *
   generalize (cutL g).drop 15 = p3 at *
   go_wp2_with fail
   refine wp_region_held_drew (S := fun W => Below wr.heap.size wr W) hmx (Below.refl _ wr).drew ?_
   intro hS
   generalize wr.drew = Y at *
   refine' wpAnyH_take (i := 0) (oi := _) (v := _) ?hi1 (by kernel_rfl) (by kernel_rfl) (by kernel_rfl) ?hQ1 (Or.inl ⟨?hw1, ?hy1⟩) hS ?rest1
   case hi1 => simp only [List.getElem?_toArray, List.getElem?_cons_zero]; rfl
   case hQ1 => exact fun _ _ _ h => h
   case hw1 => rfl
   case hy1 => intro W' hS'; go_simp; with_reducible rfl
   try simp only [Act.put, List.setIfInBounds_toArray, List.set_cons_zero, List.set_cons_succ]
   refine' wpAnyH_take (i := 1) (oi := _) (v := _) ?hi2 (by kernel_rfl) (by kernel_rfl) (by kernel_rfl) ?hQ2 (Or.inl ⟨?hw2, ?hy2⟩) hS ?rest2
   case hi2 => simp only [List.getElem?_toArray, List.getElem?_cons_succ, List.getElem?_cons_zero]; rfl
   case hQ2 => exact fun _ _ _ h => h
   case hw2 => rfl
   case hy2 => intro W' hS'; go_simp; with_reducible rfl
   try simp only [Act.put, List.setIfInBounds_toArray, List.set_cons_zero, List.set_cons_succ]
   refine' wpAnyH_take (i := 2) (oi := _) (v := _) ?hi3 (by kernel_rfl) (by kernel_rfl) (by kernel_rfl) ?hQ3 (Or.inl ⟨?hw3, ?hy3⟩) hS ?rest3
   case hi3 => simp only [List.getElem?_toArray, List.getElem?_cons_succ, List.getElem?_cons_zero]; rfl
   case hQ3 => exact fun _ _ _ h => h
   case hw3 => rfl
   case hy3 => intro W' hS'; go_simp; with_reducible rfl
   try simp only [Act.put, List.setIfInBounds_toArray, List.set_cons_zero, List.set_cons_succ]
   refine' wpAnyH_take (i := 4) (oi := _) (v := _) ?hi4 (by kernel_rfl) (by kernel_rfl) (by kernel_rfl) ?hQ4 (Or.inl ⟨?hw4, ?hy4⟩) hS ?rest4
   case hi4 => simp only [List.getElem?_toArray, List.getElem?_cons_succ, List.getElem?_cons_zero]; rfl
   case hQ4 => exact fun _ _ _ h => h
   case hw4 => rfl
   case hy4 => intro W' hS'; go_simp; with_reducible rfl
   try simp only [Act.put, List.setIfInBounds_toArray, List.set_cons_zero, List.set_cons_succ]
   refine' wpAnyH_take (i := 5) (oi := _) (v := _) ?hi5 (by kernel_rfl) (by kernel_rfl) (by kernel_rfl) ?hQ5 (Or.inl ⟨?hw5, ?hy5⟩) hS ?rest5
   case hi5 => simp only [List.getElem?_toArray, List.getElem?_cons_succ, List.getElem?_cons_zero]; rfl
   case hQ5 => exact fun _ _ _ h => h
   case hw5 => rfl
   case hy5 => intro W' hS'; go_simp; with_reducible rfl
   try simp only [Act.put, List.setIfInBounds_toArray, List.set_cons_zero, List.set_cons_succ]
   refine' wpAnyH_take (i := 6) (oi := _) (v := _) ?hi6 (by kernel_rfl) (by kernel_rfl) (by kernel_rfl) ?hQ6 (Or.inl ⟨?hw6, ?hy6⟩) hS ?rest6
   case hi6 => simp only [List.getElem?_toArray, List.getElem?_cons_succ, List.getElem?_cons_zero]; rfl
   case hQ6 => exact fun _ _ _ h => h
   case hw6 => rfl
   case hy6 => intro W' hS'; go_simp; with_reducible rfl
   try simp only [Act.put, List.setIfInBounds_toArray, List.set_cons_zero, List.set_cons_succ]
   refine wpAnyH_ready (rs := [3]) (by kernel_rfl) (by simp) ?_
   refine' AllReadyH.cons (o := _) ?ho7 (fun K hK => ?st7) AllReadyH.nil
   case ho7 => simp only [List.getElem?_toArray, List.getElem?_cons_succ, List.getElem?_cons_zero]; rfl
   case st7 =>
    go_simp
    refine (refOpen_any l _ p15 _ _ hreach ((htx2.below hS (Nat.le_refl _)).mono (Nat.le_refl _) hS.size) ((hV15.below hS (Nat.le_refl _)).mono (Nat.le_refl _) hS.size)).mono ?_
    rintro e Y1 ⟨rfl, hb⟩
    refine hK.out _ _ (hS.trans (hb.mono hS.size)) (fun hS => ?_)
    clear hK K
    try simp only [Act.put, List.setIfInBounds_toArray, List.set_cons_zero, List.set_cons_succ]
    clear hb
    refine wpAnyH_ready (rs := [7]) (by kernel_rfl) (by simp) ?_
    refine' AllReadyH.cons (o := _) ?ho8 (fun K hK => ?st8) AllReadyH.nil
    case ho8 => simp only [List.getElem?_toArray, List.getElem?_cons_succ, List.getElem?_cons_zero]; rfl
    case st8 =>
     go_simp
     refine hK.out _ _ hS (fun hS => ?_)
     clear hK K
     try simp only [Act.put, List.setIfInBounds_toArray, List.set_cons_zero, List.set_cons_succ]
     refine wpAnyH_ready (rs := [8]) (by kernel_rfl) (by simp) ?_
     refine' AllReadyH.cons (o := _) ?ho9 (fun K hK => ?st9) AllReadyH.nil
     case ho9 => simp only [List.getElem?_toArray, List.getElem?_cons_succ, List.getElem?_cons_zero]; rfl
     case st9 =>
      go_simp
      refine hK.out _ _ hS (fun hS => ?_)
      clear hK K
      try simp only [Act.put, List.setIfInBounds_toArray, List.set_cons_zero, List.set_cons_succ]
      refine wpAnyH_done (by kernel_rfl) ?_ _
      have hB1 := hB.trans (hS.mono hB.size)
      replace HX3 := Lib.hid (fun k hk => (hS.cell (p := ⟨q, 15 + k, none⟩) hq).trans (HX3.out k hk))
      have hq1 := Nat.lt_of_lt_of_le hq hS.size
      clear hS hV15 htx2 hB HX
      rw [← hLf.out]
      generalize openB l p15 = ob at *
      generalize hn : leafN g = n at *
      have HNN := Lib.hid hn
      clear hn
      go_wp2_with fail
      go_loopw [10, 11, 12] (fun v t i wr => ∃ j k : Nat, j = 15 + k ∧ k ≤ 3 ∧ i = .int .i64 (j : Nat) ∧ t = .int .i64 ((n / 2 ^ k : Nat) : Int) ∧ v = .string (climbB n p3 ob k) ∧ Below w.heap.size w wr ∧ Below Y1.heap.size Y1 wr) (fun _ _ i _ => 18 - (intOf i).toNat)
      case atStart => exact ⟨15, 0, rfl, by omega, rfl, by have e : IntKind.i64.wrap (n : Int) = (n : Int) := (by rw [IntKind.wrap_i64]; have := HLE.out; omega); simp [e], rfl, hB1, Below.refl _ _⟩
      clear hB1
      case round =>
       rename_i wr2
       obtain ⟨j, k, hj, hk, rfl, rfl, rfl, hBw, hBY⟩ := hrel
       have HJ := Lib.hid hj
       by_cases hlt : k < 3
       ·
        have c0 := (hBY.cell (p := ⟨q, 15 + k, none⟩) hq1).trans (HX3.out k hlt)
        rw [← hj] at c0
        have hj18 : (j : Int) < 18 := by omega
        have hys := HS3.out k hlt
        have hzs := climbB_size n p3 ob k
        have hzs' : (climbB n p3 ob k).size ≤ 8 := by omega
        have hq2 : n / 2 ^ k / 2 = n / 2 ^ (k + 1) := by rw [Nat.div_div_eq_div_mul, ← Nat.pow_succ]
        have hqi : ((n / 2 ^ k : Nat) : Int) / 2 = ((n / 2 ^ (k + 1) : Nat) : Int) := by rw [← hq2]; simp
        have HQ2 := Lib.hid hqi
        have hq7 : n / 2 ^ k ≤ n := Nat.div_le_self _ _
        have hn8 := H8.out
        have hq7' : ((n / 2 ^ k : Nat) : Int) ≤ 7 := by omega
        have HLT := Lib.hid hlt
        generalize hQ : n / 2 ^ k = Q at *
        have HQ := Lib.hid hQ
        generalize hyv : p3.getD k ⟨#[]⟩ = y at *
        have HYV := Lib.hid hyv
        generalize hcz : climbB n p3 ob k = z at *
        have HCZ := Lib.hid hcz
        clear hj hk hlt hq2 hqi hq7 hn8 hzs hQ hyv hcz
        by_cases hbit : Q % 2 = 0
        ·
         have hbit' : (((Q : Nat) : Int) % 2 == 0) = true := by rw [show ((Q : Nat) : Int) % 2 = 0 by omega]; rfl
         have HK : Hid (climbB n p3 ob (k + 1) = joinM z y) := Lib.hid (by rw [climbB, if_pos (by rw [HQ.out]; omega), HCZ.out, HYV.out])
         have hadd : ¬ 9223372036854775807 < z.size + y.size := by omega
         have hle2 : z.size + y.size ≤ 16 := by omega
         clear hbit
         go_wp2_with fail
         refine (refShort_any (z ++ y) (by rw [ByteArray.size_append]; omega) _).mono ?_
         rw [← joinM_of]
         rintro e w5 ⟨rfl, hb5⟩
         have hB5 := hBw.trans (hb5.mono hBw.size)
         have hY5 := hBY.trans (hb5.mono hBY.size)
         clear hBw hBY hb5
         go_wp2_with fail
         go_roundw
         case rel => exact ⟨j + 1, k + 1, by have := HJ.out; omega, by have := HLT.out; omega, by simp, by rw [HQ2.out], by rw [HK.out], hB5, hY5⟩
         case measure => have := HLT.out; have := HJ.out; simp [intOf]; omega
        ·
         have hbit' : (((Q : Nat) : Int) % 2 == 0) = false := by rw [show ((Q : Nat) : Int) % 2 = 1 by omega]; rfl
         have HK : Hid (climbB n p3 ob (k + 1) = joinM y z) := Lib.hid (by rw [climbB, if_neg (by rw [HQ.out]; omega), HCZ.out, HYV.out])
         have hadd : ¬ 9223372036854775807 < y.size + z.size := by omega
         have hle2 : y.size + z.size ≤ 16 := by omega
         clear hbit
         go_wp2_with fail
         refine (refShort_any (y ++ z) (by rw [ByteArray.size_append]; omega) _).mono ?_
         rw [← joinM_of]
         rintro e w5 ⟨rfl, hb5⟩
         have hB5 := hBw.trans (hb5.mono hBw.size)
         have hY5 := hBY.trans (hb5.mono hBY.size)
         clear hBw hBY hb5
         go_wp2_with fail
         go_roundw
         case rel => exact ⟨j + 1, k + 1, by have := HJ.out; omega, by have := HLT.out; omega, by simp, by rw [HQ2.out], by rw [HK.out], hB5, hY5⟩
         case measure => have := HLT.out; have := HJ.out; simp [intOf]; omega
       ·
        obtain rfl : k = 3 := by omega
        obtain rfl : j = 18 := by omega
        rw [← HT.out]
        clear hlt hk hj
        generalize topB l g = top at *
        cases b with
        | true =>
         obtain rfl : top = root := HB.out.1 rfl
         have he : (top.toList == top.toList) = true := by simp
         have hv : Hid (verN g true = (n : Int)) := Lib.hid (by unfold verN; rw [if_pos rfl, HNN.out])
         have hlf : (g[0].toNat : Int) = (n : Int) := by rw [hLf.out]
         have HLF := Lib.hid hlf
         clear hlf
         go_wp2_with fail
         go_ret2
         exact ⟨by rw [hv.out, ← HLF.out]; rfl, hBw⟩
        | false =>
         have he : (top.toList == root.toList) = false := by
          rw [beq_eq_false_iff_ne]
          intro h
          rw [ByteArray.toList_eq, ByteArray.toList_eq] at h
          have h2 : top = root := ByteArray.ext (Array.toList_inj.1 h)
          exact absurd (HB.out.2 h2) (by decide)
         have hv : Hid (verN g false = 0) := Lib.hid rfl
         go_wp2_with fail
         go_ret2
         exact ⟨by rw [hv.out]; rfl, hBw⟩
end Go.Proofs.YthhmdgmmeedhdaaGreat
namespace Go.Proofs.YthhmdgmmeedhdaaGreat
open Go.RowKit Go.Shelf
def verB (root : ByteArray) (l : List UInt8) (g : ByteArray) : Bool := decide (g.size = 145 ∧ leafN g < 8 ∧ topB l g = root)
def VerB (b : Bool) (w : World) (e : Ending) (W' : World) : Prop := ∃ n : Int, e = .returned (.tuple #[.int .i64 n, .bool b]) ∧ Below w.heap.size w W'
theorem verifyB_any (root : ByteArray) (l : List UInt8) (tx : Value) (g : ByteArray) (hreach : l.length ≤ 140737488353000) (w : World) (htx : BSl 0 w.heap.size w tx l) :
  Calls Tryz.prog 128 #[.string root, tx, .string g] w (VerB (verB root l g) w) := by
 by_cases hg : g.size = 145
 ·
  by_cases h8 : leafN g < 8
  ·
   by_cases ht : topB l g = root
   ·
    rw [show verB root l g = true from decide_eq_true ⟨hg, h8, ht⟩]
    exact (verify_top root l tx g hg h8 w hreach htx true ⟨fun _ => ht, fun _ => rfl⟩).mono fun e W' h => ⟨_, h.1, h.2⟩
   ·
    rw [show verB root l g = false from decide_eq_false fun h => ht h.2.2]
    exact (verify_top root l tx g hg h8 w hreach htx false ⟨fun h => (by cases h), fun h => absurd h ht⟩).mono fun e W' h => ⟨_, h.1, h.2⟩
  ·
   rw [show verB root l g = false from decide_eq_false fun h => h8 h.2.1]
   exact (verify_leaf root tx g hg (by omega) w).mono fun e W' h => ⟨_, h.1, h.2⟩
 ·
  rw [show verB root l g = false from decide_eq_false fun h => hg h.1]
  exact (verify_long root tx g hg w).mono fun e W' h => ⟨_, h.1, h.2⟩
theorem refVerifyB_any (root : ByteArray) (l : List UInt8) (tx : Value) (g : ByteArray) (hreach : l.length ≤ 140737488353000) (w : World) (htx : BSl 0 w.heap.size w tx l) :
  Calls Tryz.prog 105 #[.string root, tx, .string g] w (VerB (verB root l g) w) := by
 by_cases hg : g.size = 145
 ·
  by_cases h8 : leafN g < 8
  ·
   by_cases ht : topB l g = root
   ·
    rw [show verB root l g = true from decide_eq_true ⟨hg, h8, ht⟩]
    exact (refVerify_top root l tx g hg h8 w hreach htx true ⟨fun _ => ht, fun _ => rfl⟩).mono fun e W' h => ⟨_, h.1, h.2⟩
   ·
    rw [show verB root l g = false from decide_eq_false fun h => ht h.2.2]
    exact (refVerify_top root l tx g hg h8 w hreach htx false ⟨fun h => (by cases h), fun h => absurd h ht⟩).mono fun e W' h => ⟨_, h.1, h.2⟩
  ·
   rw [show verB root l g = false from decide_eq_false fun h => h8 h.2.1]
   exact (refVerify_leaf root tx g hg (by omega) w).mono fun e W' h => ⟨_, h.1, h.2⟩
 ·
  rw [show verB root l g = false from decide_eq_false fun h => hg h.1]
  exact (refVerify_long root tx g hg w).mono fun e W' h => ⟨_, h.1, h.2⟩
end Go.Proofs.YthhmdgmmeedhdaaGreat
namespace Go.Proofs.YthhmdgmmeedhdaaGreat
open Go.RowKit Go.Shelf
theorem of_one (w : World) : Calls Tryz.prog 54 #[.int .u64 1] w fun e W' => e = .returned (wn 1) ∧ Below w.heap.size w W' := ofN_any 1 (by unfold M; decide) w
theorem one_lt : 1 < M4 := by unfold M4 M; decide
def chgE (s : Es) (t : Tr) : Es × Int :=
 if errT t ≠ 0 then (s, errT t) else if t.no ≠ s.no t.fr.toNat then (s, 20) else if (takeB s.pu t.fr 0 1).2 ≠ 0 then (s, 21) else if ¬ s.bu + 1 < M4 then (s, 21)
 else ({ s with pu := (takeB s.pu t.fr 0 1).1, bu := s.bu + 1, no := updNo s.no t.fr.toNat (s.no t.fr.toNat + 1) }, 0)
set_option maxRecDepth 100000 in
set_option maxHeartbeats 4000000 in
theorem charge_any (s : Es) (v : Value) (hs : OkE s) (t : Tr) {B : Nat} (w : World) (hB : Blk w B 34 (stc s v)) :
  Calls Tryz.prog 30 #[.pointer (some ⟨B, 0, none⟩), txv t] w (EndE w B v (chgE s t)) := by
 have hmx : Tryz.prog.follows .mixedOrders = true := by kernel_rfl
 have hM := (Mem.startB hB).allocN rfl 50 (txc t)
 have HA := Lib.hid (fun W => bookTake_any s.pu hs.p t.fr 0 1 one_lt W)
 have HB := Lib.hid (fun W => addN_any hs.b one_lt W)
 clear hB
 go_enter Tryz.func30, Tryz.ntmps30
 go_upto_region 1 with fail
 refine wp_region_fromM _ hM ?_
 clear hM
 rintro Y1 hM
 refine tF 1 [.l 0 8 50 (pt w.heap.size 0) (txv t)] ⟨ld_tx hM.a0, trivial⟩ ?_
 refine cF (some 9) _ _ ((txsCheck_any t _).mono ?_)
 rintro e W1 ⟨rfl, hb⟩
 replace hM := hM.below hb
 clear hb
 refine tF 3 [.v 2 4 (.int .i64 (errT t))] trivial ?_
 refine eF ?_
 go_upto_region 2 with fail
 refine wp_region_fromM _ hM ?_
 clear hM
 rintro Y2 hM
 refine tF 3 [.v 0 10 (.int .i64 (errT t)), .v 1 11 (.bool (errT t == 0)), .v 2 12 (.int .i64 (errT t))] trivial ?_
 refine cF (some 13) 59 #[.bool (errT t == 0), .int .i64 (errT t)] ((demand_any _ _ _).mono ?_)
 rintro e W1 (⟨h, rfl, rfl⟩ | ⟨h, rfl, rfl⟩)
 case inr => exact And.intro rfl (EndE.pan hM.g (ne_of_beq_false h) (by unfold chgE; rw [if_pos (ne_of_beq_false h)]) rfl (BlkN.of hM.a1))
 have h0 := Lib.hid (eq_of_beq h)
 clear h
 obtain ⟨_, hfr, hno, _⟩ := errT_all h0.out
 have hfr := Lib.hid hfr
 have hno := Lib.hid hno
 refine eF ?_
 go_upto_region 3 with fail
 refine wp_region_M (fun W => Mem w (some B) [(w.heap.size, 50, txc t), (B, 34, stc s v)] W) (fun W => Mem w (some B) [(w.heap.size, 50, txc t), (B, 34, stc s v)] W) hmx hM.drew ?_
 clear hM
 rintro Y3 hM
 have hS := hM.sub (.cons_cons _ (.cons_cons _ .slnil))
 refine tD 1 [.v 0 14 (pt w.heap.size 1), .l 1 15 3 (pt w.heap.size 1) (.int .i64 t.no), .v 2 16 (pt B 0), .v 3 17 (pt w.heap.size 0), .l 4 18 3 (pt w.heap.size 0) (.int .i64 t.fr), .v 5 19 (pt B 0), .v 6 20 (pt B 130), .x 7 21 31 (pt B 130) (.int .i64 t.fr) (pt B (130 + t.fr.toNat)), .l 8 22 3 (pt B (130 + t.fr.toNat)) (.int .i64 (s.no (t.fr.toNat))), .v 9 23 (.bool (t.no == s.no t.fr.toNat))] ⟨fun W h => ld_int h.a0 1 rfl, fun W h => ld_int h.a0 0 rfl, fun W h => idx_noI hfr.out, fun W h => ld_no (s := s) h.a1 (by omega), trivial⟩ hS ?_
 refine oD 10 0 (cD (some 24) 59 #[.bool (t.no == s.no t.fr.toNat), .int .i64 20] ((demand_any _ _ _).mono ?_))
 rintro e W1 (⟨h, rfl, rfl⟩ | ⟨h, rfl, rfl⟩)
 case inr => exact And.intro rfl (EndE.pan hM.g (by decide) (by unfold chgE; rw [if_neg (not_not_intro h0.out), if_pos (ne_of_beq_false h)]) rfl (BlkN.of hM.a1))
 refine And.intro hS ?_
 have h1 := Lib.hid (eq_of_beq h)
 clear h
 refine eD ?_
 clear hS
 go_upto_region 4 with fail
 go_cut [5, 4] (fun p f wc => ∃ N, p = .pointer (some ⟨N, 0, none⟩) ∧ f = .int .i64 (takeB s.pu t.fr 0 1).2 ∧ Mem w (some B) [(N, 30, bkc ((takeB s.pu t.fr 0 1).1)), (w.heap.size, 50, txc t), (B, 34, stc s v)] wc)
 case first =>
  refine wp_region_M (fun W => Mem w (some B) [(w.heap.size, 50, txc t), (B, 34, stc s v)] W) (fun W => Mem w (some B) [(w.heap.size, 50, txc t), (B, 34, stc s v)] W) hmx hM.drew ?_
  clear hM
  rintro Y4 hM
  have hS := hM.sub (.cons_cons _ (.cons_cons _ .slnil))
  refine tD 8 [.v 0 26 (pt B 0), .v 1 27 (pt B 0), .v 2 28 (pt B 2), .l 3 29 30 (pt B 2) (bkv s.pu), .v 4 30 (pt w.heap.size 0), .l 5 31 3 (pt w.heap.size 0) (.int .i64 t.fr)] ⟨fun W h => ld_pu (s := s) h.a1, fun W h => ld_int h.a0 0 rfl, trivial⟩ hS ?_
  refine oT 6 11 7 ?_ ?_
  ·
   refine cD (some 32) _ _ ((of_one _).mono ?_)
   rintro e Y5 ⟨rfl, hb⟩
   refine And.intro (hS.below hb) ?_
   replace hS := hS.below hb
   replace hM := hM.below hb
   clear hb
   refine oT 7 11 6 ?_ ?_
   ·
    refine cD (some 33) _ _ ((HA.out _).mono ?_)
    rintro e Y6 ⟨rfl, hb⟩
    refine And.intro (hS.below hb) ?_
    replace hS := hS.below hb
    replace hM := hM.below hb
    clear hb
    refine tD 3 [.v 8 25 (.tuple #[bkv ((takeB s.pu t.fr 0 1).1), .int .i64 (takeB s.pu t.fr 0 1).2]), .v 9 34 (bkv ((takeB s.pu t.fr 0 1).1)), .v 10 35 (.int .i64 (takeB s.pu t.fr 0 1).2)] trivial hS ?_
    refine oD 11 2 (rD (some 5) (pt Y6.heap.size 0) (Y6.alloc (.cells (bkc noK).toArray 30)) (hS.other _) ?_)
    replace hS := hS.other (.cells (bkc noK).toArray 30)
    replace hM := hM.alloc 30 (bkc noK)
    generalize World.alloc _ _ = Y7 at *
    generalize Y6.heap.size = N at *
    have hM1 := hM.set 0 (cs' := bkc ((takeB s.pu t.fr 0 1).1)) rfl rfl
    refine oD 12 1 (sD _ _ (bkv ((takeB s.pu t.fr 0 1).1)) (sto_bk hM.a0 _) (hM1.sub (.cons _ (.cons_cons _ (.cons_cons _ .slnil)))) ?_)
    replace hS := hM1.sub (.cons _ (.cons_cons _ (.cons_cons _ .slnil)))
    replace hM := hM1
    clear hM1
    generalize World.setRow _ _ _ = Y8 at *
    refine tD 0 [.v 13 4 (.int .i64 (takeB s.pu t.fr 0 1).2)] trivial hS ?_
    refine eD ?_
    clear hS
    go_wp2_with fail
    go_meet
    exact ⟨_, rfl, rfl, hM⟩
   ·
    refine rD (some 5) (pt Y5.heap.size 0) (Y5.alloc (.cells (bkc noK).toArray 30)) (hS.other _) ?_
    replace hS := hS.other (.cells (bkc noK).toArray 30)
    replace hM := hM.alloc 30 (bkc noK)
    generalize World.alloc _ _ = Y9 at *
    generalize Y5.heap.size = N at *
    refine oD 7 5 (cD (some 33) _ _ ((HA.out _).mono ?_))
    rintro e Y10 ⟨rfl, hb⟩
    refine And.intro (hS.below hb) ?_
    replace hS := hS.below hb
    replace hM := hM.below hb
    clear hb
    refine tD 2 [.v 8 25 (.tuple #[bkv ((takeB s.pu t.fr 0 1).1), .int .i64 (takeB s.pu t.fr 0 1).2]), .v 9 34 (bkv ((takeB s.pu t.fr 0 1).1)), .v 10 35 (.int .i64 (takeB s.pu t.fr 0 1).2)] trivial hS ?_
    have hM1 := hM.set 0 (cs' := bkc ((takeB s.pu t.fr 0 1).1)) rfl rfl
    refine oD 12 1 (sD _ _ (bkv ((takeB s.pu t.fr 0 1).1)) (sto_bk hM.a0 _) (hM1.sub (.cons _ (.cons_cons _ (.cons_cons _ .slnil)))) ?_)
    replace hS := hM1.sub (.cons _ (.cons_cons _ (.cons_cons _ .slnil)))
    replace hM := hM1
    clear hM1
    generalize World.setRow _ _ _ = Y11 at *
    refine tD 0 [.v 13 4 (.int .i64 (takeB s.pu t.fr 0 1).2)] trivial hS ?_
    refine eD ?_
    clear hS
    go_wp2_with fail
    go_meet
    exact ⟨_, rfl, rfl, hM⟩
  ·
   refine rD (some 5) (pt Y4.heap.size 0) (Y4.alloc (.cells (bkc noK).toArray 30)) (hS.other _) ?_
   replace hS := hS.other (.cells (bkc noK).toArray 30)
   replace hM := hM.alloc 30 (bkc noK)
   generalize World.alloc _ _ = Y12 at *
   generalize Y4.heap.size = N at *
   refine oD 6 6 (cD (some 32) _ _ ((of_one _).mono ?_))
   rintro e Y13 ⟨rfl, hb⟩
   refine And.intro (hS.below hb) ?_
   replace hS := hS.below hb
   replace hM := hM.below hb
   clear hb
   refine oD 7 5 (cD (some 33) _ _ ((HA.out _).mono ?_))
   rintro e Y14 ⟨rfl, hb⟩
   refine And.intro (hS.below hb) ?_
   replace hS := hS.below hb
   replace hM := hM.below hb
   clear hb
   refine tD 2 [.v 8 25 (.tuple #[bkv ((takeB s.pu t.fr 0 1).1), .int .i64 (takeB s.pu t.fr 0 1).2]), .v 9 34 (bkv ((takeB s.pu t.fr 0 1).1)), .v 10 35 (.int .i64 (takeB s.pu t.fr 0 1).2)] trivial hS ?_
   have hM1 := hM.set 0 (cs' := bkc ((takeB s.pu t.fr 0 1).1)) rfl rfl
   refine oD 12 1 (sD _ _ (bkv ((takeB s.pu t.fr 0 1).1)) (sto_bk hM.a0 _) (hM1.sub (.cons _ (.cons_cons _ (.cons_cons _ .slnil)))) ?_)
   replace hS := hM1.sub (.cons _ (.cons_cons _ (.cons_cons _ .slnil)))
   replace hM := hM1
   clear hM1
   generalize World.setRow _ _ _ = Y15 at *
   refine tD 0 [.v 13 4 (.int .i64 (takeB s.pu t.fr 0 1).2)] trivial hS ?_
   refine eD ?_
   clear hS
   go_wp2_with fail
   go_meet
   exact ⟨_, rfl, rfl, hM⟩
 case rest =>
  obtain ⟨N, rfl, rfl, hM⟩ := hcut
  go_upto_region 5 with fail
  refine wp_region_fromM _ hM ?_
  clear hM
  rintro Y16 hM
  refine tF 2 [.v 0 36 (.int .i64 (takeB s.pu t.fr 0 1).2), .v 1 37 (.bool ((takeB s.pu t.fr 0 1).2 == 0))] trivial ?_
  refine cF (some 38) 59 #[.bool ((takeB s.pu t.fr 0 1).2 == 0), .int .i64 21] ((demand_any _ _ _).mono ?_)
  rintro e W1 (⟨h, rfl, rfl⟩ | ⟨h, rfl, rfl⟩)
  case inr => exact And.intro rfl (EndE.pan hM.g (by decide) (by unfold chgE; rw [if_neg (not_not_intro h0.out), if_neg (not_not_intro h1.out), if_pos (ne_of_beq_false h)]) rfl (BlkN.of hM.a2))
  have h2 := Lib.hid (eq_of_beq h)
  clear h
  refine eF ?_
  generalize hN1 : N = N1 at *
  clear hN1
  go_upto_region 6 with fail
  go_cut [6, 7] (fun p f wc => ∃ N, p = .pointer (some ⟨N, 0, none⟩) ∧ f = .bool (fitB s.bu 1) ∧ Mem w (some B) [(N, 27, ws (nw (addN s.bu 1))), (N1, 30, bkc ((takeB s.pu t.fr 0 1).1)), (w.heap.size, 50, txc t), (B, 34, stc s v)] wc)
  case first =>
   refine wp_region_M (fun W => Mem w (some B) [(N1, 30, bkc ((takeB s.pu t.fr 0 1).1)), (w.heap.size, 50, txc t), (B, 34, stc s v)] W) (fun W => Mem w (some B) [(N1, 30, bkc ((takeB s.pu t.fr 0 1).1)), (w.heap.size, 50, txc t), (B, 34, stc s v)] W) hmx hM.drew ?_
   clear hM
   rintro Y17 hM
   have hS := hM.sub (.cons_cons _ (.cons_cons _ (.cons_cons _ .slnil)))
   refine tD 8 [.v 0 40 (pt B 0), .v 1 41 (pt B 0), .v 2 42 (pt B 146), .l 3 43 27 (pt B 146) (wn s.bu)] ⟨fun W h => ld_bu (s := s) h.a2, trivial⟩ hS ?_
   refine oT 4 9 7 ?_ ?_
   ·
    refine cD (some 44) _ _ ((of_one _).mono ?_)
    rintro e Y18 ⟨rfl, hb⟩
    refine And.intro (hS.below hb) ?_
    replace hS := hS.below hb
    replace hM := hM.below hb
    clear hb
    refine oT 5 9 6 ?_ ?_
    ·
     refine cD (some 45) _ _ ((HB.out _).mono ?_)
     rintro e Y19 ⟨rfl, hb⟩
     refine And.intro (hS.below hb) ?_
     replace hS := hS.below hb
     replace hM := hM.below hb
     clear hb
     refine tD 3 [.v 6 39 (.tuple #[wn (addN s.bu 1), .bool (fitB s.bu 1)]), .v 7 46 (wn (addN s.bu 1)), .v 8 47 (.bool (fitB s.bu 1))] trivial hS ?_
     refine oD 9 2 (rD (some 6) (pt Y19.heap.size 0) (Y19.alloc (.cells (ws (nw 0)).toArray 27)) (hS.other _) ?_)
     replace hS := hS.other (.cells (ws (nw 0)).toArray 27)
     replace hM := hM.alloc 27 (ws (nw 0))
     generalize World.alloc _ _ = Y20 at *
     generalize Y19.heap.size = N at *
     have hM1 := hM.set 0 (cs' := ws (nw (addN s.bu 1))) rfl rfl
     refine oD 10 1 (sD _ _ (wn (addN s.bu 1)) (sto_wn hM.a0 _) (hM1.sub (.cons _ (.cons_cons _ (.cons_cons _ (.cons_cons _ .slnil))))) ?_)
     replace hS := hM1.sub (.cons _ (.cons_cons _ (.cons_cons _ (.cons_cons _ .slnil))))
     replace hM := hM1
     clear hM1
     generalize World.setRow _ _ _ = Y21 at *
     refine tD 0 [.v 11 7 (.bool (fitB s.bu 1))] trivial hS ?_
     refine eD ?_
     clear hS
     go_wp2_with fail
     go_meet
     exact ⟨_, rfl, rfl, hM⟩
    ·
     refine rD (some 6) (pt Y18.heap.size 0) (Y18.alloc (.cells (ws (nw 0)).toArray 27)) (hS.other _) ?_
     replace hS := hS.other (.cells (ws (nw 0)).toArray 27)
     replace hM := hM.alloc 27 (ws (nw 0))
     generalize World.alloc _ _ = Y22 at *
     generalize Y18.heap.size = N at *
     refine oD 5 5 (cD (some 45) _ _ ((HB.out _).mono ?_))
     rintro e Y23 ⟨rfl, hb⟩
     refine And.intro (hS.below hb) ?_
     replace hS := hS.below hb
     replace hM := hM.below hb
     clear hb
     refine tD 2 [.v 6 39 (.tuple #[wn (addN s.bu 1), .bool (fitB s.bu 1)]), .v 7 46 (wn (addN s.bu 1)), .v 8 47 (.bool (fitB s.bu 1))] trivial hS ?_
     have hM1 := hM.set 0 (cs' := ws (nw (addN s.bu 1))) rfl rfl
     refine oD 10 1 (sD _ _ (wn (addN s.bu 1)) (sto_wn hM.a0 _) (hM1.sub (.cons _ (.cons_cons _ (.cons_cons _ (.cons_cons _ .slnil))))) ?_)
     replace hS := hM1.sub (.cons _ (.cons_cons _ (.cons_cons _ (.cons_cons _ .slnil))))
     replace hM := hM1
     clear hM1
     generalize World.setRow _ _ _ = Y24 at *
     refine tD 0 [.v 11 7 (.bool (fitB s.bu 1))] trivial hS ?_
     refine eD ?_
     clear hS
     go_wp2_with fail
     go_meet
     exact ⟨_, rfl, rfl, hM⟩
   ·
    refine rD (some 6) (pt Y17.heap.size 0) (Y17.alloc (.cells (ws (nw 0)).toArray 27)) (hS.other _) ?_
    replace hS := hS.other (.cells (ws (nw 0)).toArray 27)
    replace hM := hM.alloc 27 (ws (nw 0))
    generalize World.alloc _ _ = Y25 at *
    generalize Y17.heap.size = N at *
    refine oD 4 6 (cD (some 44) _ _ ((of_one _).mono ?_))
    rintro e Y26 ⟨rfl, hb⟩
    refine And.intro (hS.below hb) ?_
    replace hS := hS.below hb
    replace hM := hM.below hb
    clear hb
    refine oD 5 5 (cD (some 45) _ _ ((HB.out _).mono ?_))
    rintro e Y27 ⟨rfl, hb⟩
    refine And.intro (hS.below hb) ?_
    replace hS := hS.below hb
    replace hM := hM.below hb
    clear hb
    refine tD 2 [.v 6 39 (.tuple #[wn (addN s.bu 1), .bool (fitB s.bu 1)]), .v 7 46 (wn (addN s.bu 1)), .v 8 47 (.bool (fitB s.bu 1))] trivial hS ?_
    have hM1 := hM.set 0 (cs' := ws (nw (addN s.bu 1))) rfl rfl
    refine oD 10 1 (sD _ _ (wn (addN s.bu 1)) (sto_wn hM.a0 _) (hM1.sub (.cons _ (.cons_cons _ (.cons_cons _ (.cons_cons _ .slnil))))) ?_)
    replace hS := hM1.sub (.cons _ (.cons_cons _ (.cons_cons _ (.cons_cons _ .slnil))))
    replace hM := hM1
    clear hM1
    generalize World.setRow _ _ _ = Y28 at *
    refine tD 0 [.v 11 7 (.bool (fitB s.bu 1))] trivial hS ?_
    refine eD ?_
    clear hS
    go_wp2_with fail
    go_meet
    exact ⟨_, rfl, rfl, hM⟩
  case rest =>
   obtain ⟨N, rfl, rfl, hM⟩ := hcut
   go_upto_region 7 with fail
   refine wp_region_fromM _ hM ?_
   clear hM
   rintro Y29 hM
   refine tF 1 [.v 0 48 (.bool (fitB s.bu 1))] trivial ?_
   refine cF (some 49) 59 #[.bool (fitB s.bu 1), .int .i64 21] ((demand_any _ _ _).mono ?_)
   rintro e W1 (⟨h, rfl, rfl⟩ | ⟨h, rfl, rfl⟩)
   case inr => exact And.intro rfl (EndE.pan hM.g (by decide) (by unfold chgE; rw [if_neg (not_not_intro h0.out), if_neg (not_not_intro h1.out), if_neg (not_not_intro h2.out), if_pos (of_decide_eq_false h)]) rfl (BlkN.of hM.a3))
   have h := of_decide_eq_true h
   rw [show addN s.bu 1 = s.bu + 1 from if_pos h] at hM
   have h3 := Lib.hid (not_not_intro h)
   clear h
   refine eF ?_
   go_upto_region 8 with fail
   refine wp_region_M (fun W => Mem w (some B) [(N, 27, ws (nw (s.bu + 1))), (N1, 30, bkc ((takeB s.pu t.fr 0 1).1)), (w.heap.size, 50, txc t)] W) (fun W => Mem w (some B) [(N, 27, ws (nw (s.bu + 1))), (N1, 30, bkc ((takeB s.pu t.fr 0 1).1)), (w.heap.size, 50, txc t), (B, 34, stc s v)] W) hmx hM.drew ?_
   clear hM
   rintro Y30 hM
   have hS := hM.sub (.cons_cons _ (.cons_cons _ (.cons_cons _ (.cons _ .slnil))))
   refine tD 4 [.v 0 50 (pt B 0), .v 1 51 (pt B 0), .l 2 52 30 (pt N1 0) (bkv ((takeB s.pu t.fr 0 1).1)), .l 3 53 27 (pt N 0) (wn (s.bu + 1)), .v 4 54 (pt B 0), .v 5 55 (pt B 2)] ⟨fun W h => load_book h.a1, fun W h => load_wn h.a0, trivial⟩ hS ?_
   have hM1 := hM.set 3 (cs' := stc { s with pu := (takeB s.pu t.fr 0 1).1 } v) rfl rfl
   refine oD 6 3 (sD _ _ (bkv ((takeB s.pu t.fr 0 1).1)) (sto_pu hM.a3 _) (hM1.sub (.cons_cons _ (.cons_cons _ (.cons_cons _ (.cons _ .slnil))))) ?_)
   replace hS := hM1.sub (.cons_cons _ (.cons_cons _ (.cons_cons _ (.cons _ .slnil))))
   replace hM := hM1
   clear hM1
   generalize World.setRow _ _ _ = Y31 at *
   refine tD 1 [.v 7 56 (pt B 0), .v 8 57 (pt B 146)] trivial hS ?_
   have hM1 := hM.set 3 (cs' := stc { s with pu := (takeB s.pu t.fr 0 1).1, bu := s.bu + 1 } v) rfl rfl
   refine oD 9 0 (sD _ _ (wn (s.bu + 1)) (sto_bu hM.a3 _) (hM1.sub (.cons_cons _ (.cons_cons _ (.cons_cons _ (.cons _ .slnil))))) ?_)
   replace hS := hM1.sub (.cons_cons _ (.cons_cons _ (.cons_cons _ (.cons _ .slnil))))
   replace hM := hM1
   clear hM1
   generalize World.setRow _ _ _ = Y32 at *
   refine eD ?_
   clear hS
   go_upto_region 9 with fail
   refine wp_region_M (fun W => Mem w (some B) [(N, 27, ws (nw (s.bu + 1))), (N1, 30, bkc ((takeB s.pu t.fr 0 1).1)), (w.heap.size, 50, txc t)] W) (fun W => Mem w (some B) [(N, 27, ws (nw (s.bu + 1))), (N1, 30, bkc ((takeB s.pu t.fr 0 1).1)), (w.heap.size, 50, txc t), (B, 34, stc { s with pu := (takeB s.pu t.fr 0 1).1, bu := s.bu + 1 } v)] W) hmx hM.drew ?_
   clear hM
   rintro Y33 hM
   have hS := hM.sub (.cons_cons _ (.cons_cons _ (.cons_cons _ (.cons _ .slnil))))
   refine tD 4 [.v 0 58 (pt B 0), .v 1 59 (pt w.heap.size 0), .l 2 60 3 (pt w.heap.size 0) (.int .i64 t.fr), .v 3 61 (pt B 0), .v 4 62 (pt B 130), .x 5 63 31 (pt B 130) (.int .i64 t.fr) (pt B (130 + t.fr.toNat)), .v 8 66 (pt B 0), .v 9 67 (pt B 130)] ⟨fun W h => ld_int h.a2 0 rfl, fun W h => idx_noI hfr.out, trivial⟩ hS ?_
   refine oD 6 3 (lD (some 64) 3 (pt B (130 + t.fr.toNat)) (.int .i64 (s.no (t.fr.toNat))) (ld_no (s := { s with pu := (takeB s.pu t.fr 0 1).1, bu := s.bu + 1 }) hM.a3 (by have := hfr.out; omega)) (hS) ?_)
   refine tD 1 [.a 7 65 (.int .i64 (IntKind.i64.wrap (s.no t.fr.toNat + 1))) (.int .i64 (s.no t.fr.toNat + 1)), .x 10 68 31 (pt B 130) (.int .i64 t.fr) (pt B (130 + t.fr.toNat))] ⟨cI (IntWalk.i64_in _ (by have := hno.out; have := h1.out; omega)), fun W h => idx_noI hfr.out, trivial⟩ hS ?_
   have hM1 := hM.set 3 (cs' := stc { s with pu := (takeB s.pu t.fr 0 1).1, bu := s.bu + 1, no := updNo s.no t.fr.toNat (s.no t.fr.toNat + 1) } v) rfl rfl
   refine oD 11 0 (sD _ _ (.int .i64 (s.no t.fr.toNat + 1)) (sto_no (s := { s with pu := (takeB s.pu t.fr 0 1).1, bu := s.bu + 1 }) hM.a3 (by have := hfr.out; omega) _) (hM1.sub (.cons_cons _ (.cons_cons _ (.cons_cons _ (.cons _ .slnil))))) ?_)
   replace hS := hM1.sub (.cons_cons _ (.cons_cons _ (.cons_cons _ (.cons _ .slnil))))
   replace hM := hM1
   clear hM1
   generalize World.setRow _ _ _ = Y34 at *
   refine eD ?_
   clear hS
   go_wp2_with fail
   go_end0
   exact EndE.ok hM.g (by unfold chgE; rw [if_neg (not_not_intro h0.out), if_neg (not_not_intro h1.out), if_neg (not_not_intro h2.out), if_neg h3.out]) hM.a3
theorem receives_any (s : Es) (v : Value) {B : Nat} (w : World) (hB : Blk w B 34 (stc s v)) :
  Calls Tryz.prog 100 #[.pointer (some ⟨B, 0, none⟩)] w fun e W' => e = .returned (.bool (decide (s.sd > 0))) ∧ W' = w := by
 have hM := Mem.startB hB
 go_enter Tryz.func100, Tryz.ntmps100
 go_upto_region 1 with fail
 refine wp_region_from ?_
 refine tF 6 [.v 0 3 (pt B 0), .v 1 4 (pt B 0), .v 2 5 (pt B 0), .l 3 6 3 (pt B 0) (.int .i64 s.sd), .v 4 7 (.bool (decide (s.sd > 0))), .v 5 2 (.bool (decide (s.sd > 0)))] ⟨ld_int hM.a0 0 rfl, trivial⟩ ?_
 refine eF ?_
 go_wp2_with fail
 go_ret
 exact ⟨rfl, rfl⟩
theorem pay_le (act : Int) (key : ByteArray) (a0 a1 a2 a3 : Nat) : (payL act key a0 a1 a2 a3).length ≤ 140737488353000 := by
 by_cases h : (1 ≤ act ∧ act ≤ 2) ∧ key.size = 32
 ·
  rw [pay_len h.1 h.2]; decide
 ·
  rw [payL_no h]; decide
def signB (t : Tr) (a : Int) : Bool := verB t.iv.rt (payL a (keyB t.iv) t.f0 t.f1 t.f2 t.f3) t.sg
set_option maxRecDepth 100000 in
set_option maxHeartbeats 4000000 in
theorem signed_any (t : Tr) (ht : OkT t) (a : Int) (w : World) :
  Calls Tryz.prog 103 #[txv t, .int .i64 a] w fun e W' => e = .returned (.bool (signB t a)) ∧ Below w.heap.size w W' := by
 have hmx : Tryz.prog.follows .mixedOrders = true := by kernel_rfl
 have hM := (Mem.start w).allocN rfl 50 (txc t)
 go_enter Tryz.func103, Tryz.ntmps103
 go_upto_region 1 with fail
 refine wp_region_M (fun W => Mem w none [(w.heap.size, 50, txc t)] W) (fun W => Mem w none [(w.heap.size, 50, txc t)] W) hmx hM.drew ?_
 clear hM
 rintro Y1 hM
 have hS := hM.sub (.cons_cons _ .slnil)
 refine tD 8 [.v 0 8 (pt w.heap.size 8), .v 1 9 (pt w.heap.size 9), .l 2 10 9 (pt w.heap.size 9) (.string t.iv.rt), .v 3 11 (.int .i64 a), .v 4 12 (pt w.heap.size 8), .l 5 13 46 (pt w.heap.size 8) (ivv t.iv), .v 7 15 (pt w.heap.size 20), .l 8 16 27 (pt w.heap.size 20) (wv t.f0 t.f1 t.f2 t.f3), .v 10 18 (pt w.heap.size 24), .l 11 19 9 (pt w.heap.size 24) (.string t.sg)] ⟨fun W h => ld_str h.a0 9 rfl, fun W h => ld_iv h.a0, fun W h => load_part h.a0 20 [.int .u64 (t.f0 : Nat), .int .u64 (t.f1 : Nat), .int .u64 (t.f2 : Nat), .int .u64 (t.f3 : Nat)] rfl _ _ Tryz.underlying27 rfl (by kernel_rfl), fun W h => ld_str h.a0 24 rfl, trivial⟩ hS ?_
 refine oD 6 7 (cD (some 14) 21 #[ivv t.iv] ((key_any _ _).mono ?_))
 rintro e W1 ⟨rfl, hb⟩
 refine And.intro (hS.below hb) ?_
 replace hS := hS.below hb
 replace hM := hM.below hb
 clear hb
 refine oD 9 6 (cD (some 17) 129 #[.int .i64 a, .string (keyB t.iv), wv t.f0 t.f1 t.f2 t.f3] ((payload_any _ _ ht.f _).mono ?_))
 rintro e W2 ⟨pv, rfl, hsl, hb⟩
 refine And.intro (hS.below hb) ?_
 replace hS := hS.below hb
 replace hM := hM.below hb
 clear hb
 refine oD 12 5 (cD (some 20) 128 #[.string t.iv.rt, pv, .string t.sg] ((verifyB_any _ _ _ _ (pay_le _ _ _ _ _ _) _ hsl).mono ?_))
 rintro e W3 ⟨n, rfl, hb⟩
 refine And.intro (hS.below hb) ?_
 replace hS := hS.below hb
 replace hM := hM.below hb
 clear hb
 refine tD 0 [.v 13 7 (.tuple #[.int .i64 n, .bool (verB t.iv.rt (payL a (keyB t.iv) t.f0 t.f1 t.f2 t.f3) t.sg)]), .v 14 21 (.int .i64 n), .v 15 22 (.bool (verB t.iv.rt (payL a (keyB t.iv) t.f0 t.f1 t.f2 t.f3) t.sg)), .v 16 5 (.int .i64 n), .v 17 6 (.bool (verB t.iv.rt (payL a (keyB t.iv) t.f0 t.f1 t.f2 t.f3) t.sg))] trivial hS ?_
 refine eD ?_
 clear hS
 go_wp2_with fail
 go_ret
 exact ⟨rfl, hM.b⟩
end Go.Proofs.YthhmdgmmeedhdaaGreat
