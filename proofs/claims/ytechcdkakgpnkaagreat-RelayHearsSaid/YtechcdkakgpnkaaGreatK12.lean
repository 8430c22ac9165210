/-
  mss: the root; the path; The reference's Begin; What is signed opens to the public one: the plain side; The reference's Public, Parts, Open; slices.Grow of the nil slice of strings; slices.Concat of two rows of strings; A leaf's signature; the reference's Sig; What is signed is verified: the plain side; Locks of the call's own: kept, one more, one that is ended; how a part ends that turns them; es
-/
import Derived.Outline
import Derived.OneCell
import Derived.Lib.AppendZeros
import Derived.IntWalk
import Derived.LoopTactic
import Derived.Defers
import Derived.Recover
import Derived.Deep.Cut
import Derived.Deep.CutBlock
import Derived.Deep.DeepCutAuto
import Derived.Laws.StructEq
import Derived.Laws.OwnMore
import Derived.Test.YtechcdkakgpnkaaGreatK11
namespace Go.Proofs.YtechcdkakgpnkaaGreat
open Go.RowKit Go.Shelf
theorem overF_node (s : ByteArray) (h : Nat) : overF (nodeB s h) = nodeB s (h + 1) := rfl
def rootB (s : ByteArray) : ByteArray := nodeB s 3 0
theorem rootB_size (s : ByteArray) : (rootB s).size = 8 := nodeB_size _ _ _
theorem above_own (s : ByteArray) (k : Nat) (hk : k < 3) (n₀ : Nat) (a : Option Addr) (c : Nat) (W : World) (hown : W.ownsRow n₀ 9 1 (.slice a (cnt k) c) (cnt k) ((upto (nodeB s k) (cnt k)).map tv)) :
    Calls Tryz.prog 91 #[.slice a (cnt k) c] W (RowW W.heap.size 9 (cnt (k + 1)) ((upto (nodeB s (k + 1)) (cnt (k + 1))).map tv) W) := by
  have hc := cnt_succ hk
  have hV := VSl.of_own (vs := (upto (nodeB s k) (cnt k)).map tv) (by rw [List.length_map, upto_length]; exact hown)
  have h8 := cnt_le (k + 1)
  have h0 : 0 < cnt (k + 1) := Nat.pow_pos (by omega)
  rw [← overF_node]
  refine above_any (nodeB s k) (fun i => by rw [nodeB_size]; omega) (cnt (k + 1)) h0 (by omega) a _ c W ?_
  have e : (upto (nodeB s k) (2 * cnt (k + 1))).map tv = (upto (nodeB s k) (cnt k)).map tv := by rw [hc]
  rw [e]
  exact hV.mono (Nat.zero_le _) (Nat.le_refl _)
set_option maxRecDepth 100000 in
set_option maxHeartbeats 2000000 in
theorem root_any (s : ByteArray) (hs : s.size ≤ 140737488352000) (w : World) :
    Calls Tryz.prog 45 #[.string s] w fun e W' => e = .returned (.string (rootB s)) ∧ Below w.heap.size w W' := by
  have hp : Hid (rootB s = nodeB s 3 0) := Lib.hid rfl
  go_enter Tryz.func45, Tryz.ntmps45
  go_wp2_with fail
  refine (lowest_any s hs _).mono ?_
  rintro e w1 ⟨v1, rfl, hown1, hb1⟩
  go_wp2
  go_loopw [3, 6] (fun v i wr => ∃ k : Nat, k ≤ 3 ∧ i = .int .i64 (k : Nat) ∧ wr.ownsRow w.heap.size 9 1 v (cnt k) ((upto (nodeB s k) (cnt k)).map tv) ∧ Below w.heap.size w wr) (fun _ i _ => 3 - (intOf i).toNat)
  case atStart => exact ⟨0, by omega, rfl, hown1, hb1⟩
  clear hown1 hb1
  case round =>
    obtain ⟨k, hk, rfl, hown, hB⟩ := hrel
    obtain ⟨va, vc, rfl⟩ := ownsRow_slice hown
    by_cases hlt : k < 3
    · have hlt' : (k : Int) < 3 := by omega
      have HA := Lib.hid (above_own s k hlt _ va vc wr hown)
      have HLT := Lib.hid hlt
      clear hlt hk
      generalize cnt k = c0 at *
      go_wp2_with fail
      refine (HA.out).mono ?_
      rintro e w2 ⟨v2, rfl, hown2, hb2⟩
      have hown3 := own_base hown2 hB.size
      have hB2 := hB.trans (hb2.mono hB.size)
      clear hown2 hown hB hb2
      go_wp2_with fail
      go_roundw
      case rel => exact ⟨k + 1, HLT.out, by simp, hown3, hB2⟩
      case measure => have := HLT.out; simp [intOf]; omega
    · obtain rfl : k = 3 := by omega
      have hV := VSl.of_own (vs := (upto (nodeB s 3) (cnt 3)).map tv) (by rw [List.length_map, upto_length]; exact hown)
      obtain ⟨_, b, off, rfl, hbw, hcell⟩ := upto_row hV (by decide)
      have c0 := hcell 0 (by decide)
      rw [Nat.add_zero] at c0
      rw [show cnt 3 = 1 from rfl]
      clear hcell hown hV
      generalize nodeB s 3 0 = x at *
      go_wp2
      go_ret
      exact ⟨by rw [hp.out]; rfl, hB⟩
def sibN (n k : Nat) : Nat := if n / 2 ^ k % 2 = 0 then n / 2 ^ k + 1 else n / 2 ^ k - 1
theorem sib_of : ∀ n < 8, ∀ k < 3, (n / 2 ^ k) ^^^ 1 = sibN n k ∧ sibN n k < cnt k ∧ n / 2 ^ k ≤ 7 := by decide
theorem xor8 : ∀ a < 8, bits .xor .i64 ((a : Nat) : Int) 1 = ((a ^^^ 1 : Nat) : Int) := by decide +kernel
theorem xor_of (n k : Nat) (hn : n < 8) (hk : k < 3) : bits .xor .i64 ((n : Int) / 2 ^ k) 1 = ((sibN n k : Nat) : Int) := by
  obtain ⟨h1, _, h3⟩ := sib_of n hn k hk
  have e : (n : Int) / 2 ^ k = ((n / 2 ^ k : Nat) : Int) := by simp
  rw [e, ← h1]
  exact xor8 _ (by omega)
def pathF (s : ByteArray) (n k : Nat) : ByteArray := nodeB s k (sibN n k)
def pathL (s : ByteArray) (z : Int) : List ByteArray := if 0 ≤ z ∧ z < 8 then upto (pathF s z.toNat) 3 else []
theorem pathL_none {s : ByteArray} {z : Int} (h : ¬ (0 ≤ z ∧ z < 8)) : pathL s z = [] := by unfold pathL; rw [if_neg h]
theorem pathL_some {s : ByteArray} {n : Nat} (h : n < 8) : pathL s (n : Int) = upto (pathF s n) 3 := by unfold pathL; rw [if_pos (by omega)]; rfl
theorem pathL_size {s : ByteArray} {z : Int} {x : ByteArray} (h : x ∈ pathL s z) : x.size = 8 := by
  unfold pathL at h
  split at h
  · unfold upto at h
    obtain ⟨j, _, rfl⟩ := List.mem_map.1 h
    exact nodeB_size _ _ _
  · cases h
set_option maxRecDepth 100000 in
set_option maxHeartbeats 2000000 in
theorem path_any (s : ByteArray) (hs : s.size ≤ 140737488352000) (z : Int) (w : World) :
    Calls Tryz.prog 104 #[.string s, .int .i64 z] w (RowW w.heap.size 9 (pathL s z).length ((pathL s z).map tv) w) := by
  obtain ⟨i0, hi, hz0, hz1, hz2⟩ := info_parts Tryz.infoStr
  by_cases hz : 0 ≤ z ∧ z < 8
  · obtain ⟨n, rfl⟩ : ∃ n : Nat, z = (n : Int) := ⟨z.toNat, by omega⟩
    have hn : n < 8 := by omega
    have hn1 : ¬ (n : Int) < 0 := by omega
    have hn2 : ¬ 8 ≤ (n : Int) := by omega
    rw [pathL_some hn, upto_length]
    have HN := Lib.hid hn
    clear hz
    go_enter Tryz.func104, Tryz.ntmps104
    go_wp2_with fail
    refine (lowest_any s hs _).mono ?_
    rintro e w1 ⟨v1, rfl, hown1, hb1⟩
    go_wp2
    go_loopw [5, 6, 16] (fun p v i wr => ∃ k : Nat, k ≤ 3 ∧ i = .int .i64 (k : Nat) ∧ wr.ownsRow w.heap.size 9 1 p k ((upto (pathF s n) k).map tv) ∧ wr.ownsRow w.heap.size 9 1 v (cnt k) ((upto (nodeB s k) (cnt k)).map tv) ∧ (∀ g, p.ownBlock = some g → v.ownBlock ≠ some g) ∧ Below w.heap.size w wr) (fun _ _ i _ => 3 - (intOf i).toNat)
    case atStart => exact ⟨0, by omega, rfl, World.ownsRow_nil _ _ _ _, hown1, fun g h => by simp [Value.ownBlock] at h, hb1⟩
    clear hown1 hb1
    case round =>
      obtain ⟨k, hk, rfl, hrow, hown, hne, hB⟩ := hrel
      obtain ⟨va, vc, rfl⟩ := ownsRow_slice hown
      obtain ⟨pa, pc, rfl⟩ := ownsRow_slice hrow
      by_cases hlt : k < 3
      · have hlt' : (k : Int) < 3 := by omega
        obtain ⟨_, hsl, _⟩ := sib_of n hn k hlt
        have hx := xor_of n k hn hlt
        have hV := VSl.of_own (vs := (upto (nodeB s k) (cnt k)).map tv) (by rw [List.length_map, upto_length]; exact hown)
        obtain ⟨_, b, off, rfl, hbw, hcell⟩ := upto_row hV (by omega)
        have c0 := hcell _ hsl
        have HT := Lib.hid (upto_snoc (pathF s n) k tv)
        have HP : Hid (pathF s n k = nodeB s k (sibN n k)) := Lib.hid rfl
        have HLT := Lib.hid hlt
        have HOWN := Lib.hid hown
        have HNE := Lib.hid hne
        have hNW := hB.size
        clear hcell hV hlt hk hown hne
        generalize nodeB s k (sibN n k) = x at *
        generalize (upto (pathF s n) k).map tv = ts at *
        go_wp2_with (at_builtin; refine wpList_append_own _ rfl _ _ 157 rfl w.heap.size 9 i0 (.string ⟨#[]⟩) 1 16 Tryz.underlying157 hi hz0 hz1 hz2 rfl (by decide) (.slice pa k pc) k ts rfl (hrow.alloc _) ⟨wr.heap.size, 0, none⟩ 1 1 [tv x] rfl rfl (cell_new1 _ _ _) (by simp [Value.oneCell']) (by have := HLT.out; unfold maxLen; omega) (by have := HLT.out; omega) (by simp; omega) ?_; intro v' w3 hrow' hgrow _; obtain ⟨g2, c2, rfl⟩ := ownsRow_succ hrow')
        have hB3 : Below w.heap.size w w3 := (hB.alloc hNW _).grown hgrow (Nat.le_trans hNW (by simp)) (fun j hj => (World.ownsRow.lt hrow j hj).1)
        have hown3 : w3.ownsRow w.heap.size 9 1 (.slice (some ⟨b, off, none⟩) (cnt k) vc) (cnt k) ((upto (nodeB s k) (cnt k)).map tv) := own_same (HOWN.out.alloc (.cells #[tv x] 9)) (fun g hg => hgrow.block g (by have := (World.ownsRow.lt HOWN.out g hg).2; simp; omega) (fun e => HNE.out g e.symm hg))
        have HA := Lib.hid (above_own s k HLT.out _ (some ⟨b, off, none⟩) vc w3 hown3)
        have hg2 : g2 < w3.heap.size := (World.ownsRow.lt hrow' g2 rfl).2
        clear hown3 c0 hx hsl hbw hgrow hrow hNW hB
        go_wp2_with fail
        refine (HA.out).mono ?_
        rintro e w4 ⟨v4, rfl, hown4, hb4⟩
        have hrow4 := own_below hrow' hb4
        have hne4 : ∀ g, (Value.slice (some ⟨g2, 0, none⟩) (k + 1) c2).ownBlock = some g → v4.ownBlock ≠ some g := fun g h1 h2 => by
          have h3 := (World.ownsRow.lt hown4 g h2).1
          have h4 : g2 = g := by simpa [Value.ownBlock] using h1
          omega
        have hown5 := own_base hown4 hB3.size
        have hB4 := hB3.trans (hb4.mono hB3.size)
        clear hown4 hrow' hb4 hB3
        go_wp2_with fail
        go_roundw
        case rel => exact ⟨k + 1, HLT.out, by simp, by rw [HT.out, HP.out]; exact hrow4, hown5, hne4, hB4⟩
        case measure => have := HLT.out; simp [intOf]; omega
      · obtain rfl : k = 3 := by omega
        go_wp2
        go_ret
        exact ⟨_, rfl, hrow, hB⟩
  · rw [pathL_none hz]
    by_cases h0 : z < 0
    · clear hz
      go_enter Tryz.func104, Tryz.ntmps104
      go_wp2
      go_ret
      exact ⟨_, rfl, World.ownsRow_nil _ _ _ _, Below.refl _ _⟩
    · have h8 : 8 ≤ z := by omega
      clear hz
      go_enter Tryz.func104, Tryz.ntmps104
      go_wp2
      go_ret
      exact ⟨_, rfl, World.ownsRow_nil _ _ _ _, Below.refl _ _⟩
end Go.Proofs.YtechcdkakgpnkaaGreat
namespace Go.Proofs.YtechcdkakgpnkaaGreat
open Go.RowKit Go.Shelf
theorem octs_one {k : Nat} (hk : k < 256) : octs (two (k : Int)) 1 = [UInt8.ofNat k] := by
  have h : two (k : Int) = k := by unfold two; omega
  rw [h]
  simp [octs, oct]
end Go.Proofs.YtechcdkakgpnkaaGreat
namespace Go.Proofs.YtechcdkakgpnkaaGreat
open Go.RowKit Go.Shelf
theorem linkB_eight {s : ByteArray} (h : s.size = 8) (k : Nat) : (linkB s k).size = 8 := by
  cases k with
  | zero => exact h
  | succ k => exact shortB_size _
theorem signL_wf (s : ByteArray) (f : Nat) (l : List UInt8) : wf (signL s f l) = true := by
  unfold wf signL
  rw [walked_length, begs_length]
  simp only [decide_true, Bool.true_and, List.all_eq_true, beq_iff_eq]
  intro x hx
  unfold walked at hx
  obtain ⟨i, hi, rfl⟩ := List.mem_mapIdx.1 hx
  exact linkB_eight (begs_mem (List.getElem_mem hi)) _
end Go.Proofs.YtechcdkakgpnkaaGreat
namespace Go.Proofs.YtechcdkakgpnkaaGreat
open Go.RowKit Go.Shelf
def catL (zs : List ByteArray) : ByteArray := zs.foldl (· ++ ·) ⟨#[]⟩
theorem catL_snoc (zs : List ByteArray) (x : ByteArray) : catL (zs ++ [x]) = catL zs ++ x := by unfold catL; rw [List.foldl_append]; rfl
theorem catL_list (zs : List ByteArray) : (catL zs).data.toList = (zs.map fun s => s.data.toList).flatten := by
  rw [← List.reverse_reverse zs]
  generalize zs.reverse = r
  induction r with
  | nil => rfl
  | cons x r ih =>
    rw [List.reverse_cons, catL_snoc, List.map_append, List.flatten_append, ← ih]
    simp
theorem catL_le (zs : List ByteArray) (m : Nat) (h : ∀ x ∈ zs, x.size ≤ m) : (catL zs).size ≤ zs.length * m := by
  have e : (catL zs).size = (catL zs).data.toList.length := rfl
  rw [e, catL_list]
  exact flatten_le _ m zs h
theorem textRow {lo n : Nat} {W : World} {v : Value} {zs : List ByteArray} (hn : zs.length = n + 1) (h : W.ownsRow lo 9 1 v (n + 1) (zs.map tv)) :
    ∃ g c, v = .slice (some ⟨g, 0, none⟩) (n + 1) c ∧ g < W.heap.size ∧ ∀ k x, zs[k]? = some x → W.cell? ⟨g, k, none⟩ = some (.string x) := by
  have hq := VSl.of_own (vs := zs.map tv) (by rw [List.length_map, hn]; exact h)
  obtain ⟨g, c, rfl⟩ := ownsRow_succ h
  obtain ⟨a', c', e, hc, h0 | ⟨b, off, ha, _, hb, hr⟩⟩ := hq
  · have := congrArg List.length h0
    rw [List.length_map, hn] at this
    simp at this
  · rw [List.length_map, hn] at e
    cases e
    cases ha
    exact ⟨g, c, rfl, hb, fun k x hk => by
      have := hr k (.string x) (by rw [List.getElem?_map, hk]; rfl)
      rwa [Nat.zero_add] at this⟩
end Go.Proofs.YtechcdkakgpnkaaGreat
namespace Go.Proofs.YtechcdkakgpnkaaGreat
open Go.RowKit Go.Shelf
set_option maxRecDepth 100000 in
set_option maxHeartbeats 1000000 in
theorem growT_any (n : Nat) (h1 : 0 < n) (hn : n ≤ 1000) (w : World) : Calls Tryz.prog 148 #[.slice none 0 0, .int .i64 (n : Int)] w (RowW w.heap.size 9 0 [] w) := by
  obtain ⟨i0, hi, hz0, hz1, hz2⟩ := info_parts Tryz.infoStr
  have hn' : (n : Int) ≤ 1000 := by omega
  have h2 : 0 < (n : Int) := by omega
  have hr := Lib.run_append_nil_zeros (P := Tryz.prog) w 157 3 157 9 i0 (.string ⟨#[]⟩) .i64 .i64 Tryz.underlying157 Tryz.underlying3 hi hz0 n h1 (by omega) (by omega) (by rw [hz2]; omega)
  have hg : n ≤ grownCap w n 0 9 ∧ grownCap w n 0 9 ≤ maxLen := ⟨grownCap_ge _ _ _ _, grownCap_le_maxLen _ _ _ _ (by unfold maxLen; omega)⟩
  obtain ⟨hg1, hg2⟩ := hg
  generalize grownCap w n 0 9 = c at *
  go_enter Tryz.func148, Tryz.ntmps148
  go_wp2_with (at_builtin; refine Lib.wpList_append_run w rfl _ _ 157 3 rfl _ _ rfl rfl _ _ hr ?_)
  go_ret
  have hz : ∀ n, (Builtin.zeroCells #[Value.string ⟨#[]⟩] n).size = n := fun n => by simp [Builtin.zeroCells]
  refine ⟨_, rfl, ⟨rfl, .inr ⟨w.heap.size, c, _, rfl, Nat.le_refl _, World.alloc_heap_new _ _, by omega, hg2, by rw [Array.size_append, hz, hz]; omega, by simp⟩⟩, ?_⟩
  exact ((Below.refl _ w).drew).alloc (by simp) _
set_option maxRecDepth 100000 in
set_option maxHeartbeats 4000000 in
theorem concatT_any (B : Nat) (g1 n1 c1 g2 n2 c2 : Nat) (xs ys : List Value) (hx1 : xs.length = n1) (hy1 : ys.length = n2) (h1 : 0 < n1) (h2 : 0 < n2) (hn1 : n1 ≤ 100) (hn2 : n2 ≤ 100) (w : World)
    (hb : Blk w B 157 [.slice (some ⟨g1, 0, none⟩) n1 c1, .slice (some ⟨g2, 0, none⟩) n2 c2]) (hg1 : g1 < w.heap.size) (hg2 : g2 < w.heap.size)
    (hx : ∀ k x, xs[k]? = some x → w.cell? ⟨g1, k, none⟩ = some x) (hy : ∀ k x, ys[k]? = some x → w.cell? ⟨g2, k, none⟩ = some x) (ox : ∀ x ∈ xs, x.oneCell' = true) (oy : ∀ x ∈ ys, x.oneCell' = true) :
    Calls Tryz.prog 102 #[.slice (some ⟨B, 0, none⟩) 2 2] w (RowW w.heap.size 9 (n1 + n2) (xs ++ ys) w) := by
  obtain ⟨i0, hi, hz0, hz1, hz2⟩ := info_parts Tryz.infoStr
  have hB := hb.lt
  have b0 : w.cell? ⟨B, 0, none⟩ = some (.slice (some ⟨g1, 0, none⟩) n1 c1) := hb.cell 0
  have b1 : w.cell? ⟨B, 1, none⟩ = some (.slice (some ⟨g2, 0, none⟩) n2 c2) := hb.cell 1
  have HX := Lib.hid hx
  have HY := Lib.hid hy
  have HXL := Lib.hid hx1
  have HYL := Lib.hid hy1
  have H0 := Lib.hid b0
  have H1 := Lib.hid b1
  have hadd : ∀ (g j : Nat), (⟨g, 0, none⟩ : Addr).add j = ⟨g, j, none⟩ := fun g j => by cases j <;> simp [Addr.add]
  have HA := Lib.hid hadd
  have OX := Lib.hid ox
  have OY := Lib.hid oy
  have hm1 : (n1 : Int) ≤ 100 := by omega
  have hm2 : (n2 : Int) ≤ 100 := by omega
  clear hx hy hx1 hy1 hb hadd ox oy
  go_enter Tryz.func102, Tryz.ntmps102
  go_wp2
  clear b0 b1
  go_loop [3, 11] (fun s i => (i = .int .i64 0 ∧ s = .int .i64 0) ∨ (i = .int .i64 1 ∧ s = .int .i64 (n1 : Int)) ∨ (i = .int .i64 2 ∧ s = .int .i64 ((n1 + n2 : Nat) : Int))) (fun _ i => 2 - (intOf i).toNat)
  case atStart => exact .inl ⟨rfl, rfl⟩
  case round =>
    rcases hrel with ⟨rfl, rfl⟩ | ⟨rfl, rfl⟩ | ⟨rfl, rfl⟩
    · have b0 := H0.out
      go_wp2
      exact ⟨.inr (.inl ⟨rfl, rfl⟩), by decide⟩
    · have b1 := H1.out
      go_wp2
      exact ⟨.inr (.inr ⟨rfl, by simp⟩), by decide⟩
    · have hs : (((n1 + n2 : Nat) : Int)) ≤ 1000 := by omega
      generalize hN : n1 + n2 = N at *
      have HN := Lib.hid hN
      clear hN
      go_wp2_with (go_at_call 148; refine (growT_any N (by have := HN.out; omega) (by have := HN.out; omega) _).mono ?_; rintro e w1 ⟨v, rfl, hown, hb1⟩)
      go_loopw [6, 27] (fun v i wr => Below w.heap.size w wr ∧ ((i = .int .i64 0 ∧ wr.ownsRow w.heap.size 9 1 v 0 []) ∨ (i = .int .i64 1 ∧ wr.ownsRow w.heap.size 9 1 v n1 xs) ∨ (i = .int .i64 2 ∧ wr.ownsRow w.heap.size 9 1 v N (xs ++ ys)))) (fun _ i _ => 2 - (intOf i).toNat)
      case atStart => exact ⟨hb1, .inl ⟨rfl, hown⟩⟩
      clear hown hb1
      case round =>
        obtain ⟨hB', hrel⟩ := hrel
        have hNW := hB'.size
        rcases hrel with ⟨rfl, hown⟩ | ⟨rfl, hown⟩ | ⟨rfl, hown⟩
        · have b0 := (hB'.cell (p := ⟨B, 0, none⟩) hB).trans H0.out
          obtain ⟨va, vc, rfl⟩ := ownsRow_slice hown
          go_wp2_with (at_builtin; refine wpList_append_own _ rfl _ _ 157 rfl w.heap.size 9 i0 (.string ⟨#[]⟩) 1 16 Tryz.underlying157 hi hz0 hz1 hz2 rfl (by decide) (.slice va 0 vc) 0 [] rfl hown ⟨g1, 0, none⟩ n1 c1 xs rfl (by rw [HXL.out, Nat.mul_one]) (fun j u hj => by rw [HA.out]; exact (hB'.cell (p := ⟨g1, j, none⟩) hg1).trans (HX.out j u hj)) OX.out (by unfold maxLen; omega) (by omega) hNW ?_; intro v' w3 hown' hgrow _)
          have hB3 : Below w.heap.size w w3 := hB'.grown hgrow hNW (fun j hj => (World.ownsRow.lt hown j hj).1)
          rw [Nat.zero_add, List.nil_append] at hown'
          exact ⟨⟨hB3, .inr (.inl ⟨rfl, hown'⟩)⟩, by decide⟩
        · have b1 := (hB'.cell (p := ⟨B, 1, none⟩) hB).trans H1.out
          obtain ⟨va, vc, rfl⟩ := ownsRow_slice hown
          go_wp2_with (at_builtin; refine wpList_append_own _ rfl _ _ 157 rfl w.heap.size 9 i0 (.string ⟨#[]⟩) 1 16 Tryz.underlying157 hi hz0 hz1 hz2 rfl (by decide) (.slice va n1 vc) n1 xs rfl hown ⟨g2, 0, none⟩ n2 c2 ys rfl (by rw [HYL.out, Nat.mul_one]) (fun j u hj => by rw [HA.out]; exact (hB'.cell (p := ⟨g2, j, none⟩) hg2).trans (HY.out j u hj)) OY.out (by unfold maxLen; omega) (by omega) hNW ?_; intro v' w3 hown' hgrow _)
          have hB3 : Below w.heap.size w w3 := hB'.grown hgrow hNW (fun j hj => (World.ownsRow.lt hown j hj).1)
          rw [HN.out] at hown'
          exact ⟨⟨hB3, .inr (.inr ⟨rfl, hown'⟩)⟩, by decide⟩
        · go_wp2
          go_ret
          exact ⟨_, rfl, hown, hB'⟩
end Go.Proofs.YtechcdkakgpnkaaGreat
namespace Go.Proofs.YtechcdkakgpnkaaGreat
open Go.RowKit Go.Shelf
theorem lfN_small {n : Nat} (h : n ≤ 65535) : lfN (n : Int) = n := by have := lfN_cases (n : Int); omega
def sigL (s : ByteArray) (n : Nat) (l : List UInt8) : List ByteArray := signL s n l ++ pathL s (n : Int)
theorem signL_length (s : ByteArray) (f : Nat) (l : List UInt8) : (signL s f l).length = 15 := by unfold signL; rw [walked_length, begs_length]
theorem signL_size {s : ByteArray} {f : Nat} {l : List UInt8} {x : ByteArray} (h : x ∈ signL s f l) : x.size = 8 := by
  have hw := signL_wf s f l
  unfold wf at hw
  simp only [Bool.and_eq_true, List.all_eq_true, beq_iff_eq] at hw
  exact hw.2 x h
theorem pathL_length {s : ByteArray} {n : Nat} (h : n < 8) : (pathL s (n : Int)).length = 3 := by rw [pathL_some h, upto_length]
theorem sigL_length {s : ByteArray} {n : Nat} (l : List UInt8) (h : n < 8) : (sigL s n l).length = 18 := by unfold sigL; rw [List.length_append, signL_length, pathL_length h]
theorem sigL_size {s : ByteArray} {n : Nat} {l : List UInt8} {x : ByteArray} (h : x ∈ sigL s n l) : x.size = 8 := by
  unfold sigL at h
  rcases List.mem_append.1 h with h | h
  · exact signL_size h
  · exact pathL_size h
def oneB (n : Nat) : ByteArray := ⟨([UInt8.ofNat n] : List UInt8).toArray⟩
theorem oneB_size (n : Nat) : (oneB n).size = 1 := rfl
def sigB (s : ByteArray) (n : Nat) (l : List UInt8) : ByteArray := oneB n ++ catL (sigL s n l)
theorem textCells {lo : Nat} {W : World} {v : Value} {zs : List ByteArray} {n : Nat} (hn : zs.length = n) (h0 : 0 < n) (h : W.ownsRow lo 9 1 v n (zs.map tv)) :
    ∃ g c, v = .slice (some ⟨g, 0, none⟩) n c ∧ g < W.heap.size ∧ ∀ k x, zs[k]? = some x → W.cell? ⟨g, k, none⟩ = some (.string x) := by
  obtain ⟨m, rfl⟩ : ∃ m, n = m + 1 := ⟨n - 1, by omega⟩
  exact textRow hn h
theorem tv_cells (zs : List ByteArray) : ∀ x ∈ zs.map tv, x.oneCell' = true := fun x hx => by
  obtain ⟨y, _, rfl⟩ := List.mem_map.1 hx
  rfl
end Go.Proofs.YtechcdkakgpnkaaGreat
namespace Go.Proofs.YtechcdkakgpnkaaGreat
open Go.RowKit Go.Shelf
theorem sigB_size {s : ByteArray} {n : Nat} {l : List UInt8} (hn : n < 8) : (sigB s n l).size = 145 := by
  have h1 : ∀ zs : List ByteArray, (∀ x ∈ zs, x.size = 8) → (catL zs).size = zs.length * 8 := fun zs h => by
    have e : (catL zs).size = (catL zs).data.toList.length := rfl
    rw [e, catL_list]
    clear e
    induction zs with
    | nil => rfl
    | cons x zs ih =>
      rw [List.map_cons, List.flatten_cons, List.length_append, ih (fun y hy => h y (List.mem_cons_of_mem _ hy)), List.length_cons]
      have : x.data.toList.length = 8 := h x List.mem_cons_self
      omega
  have h2 := h1 (sigL s n l) (fun x hx => sigL_size hx)
  rw [sigL_length l hn] at h2
  unfold sigB
  rw [ByteArray.size_append, oneB_size, h2]
end Go.Proofs.YtechcdkakgpnkaaGreat
namespace Go.Proofs.YtechcdkakgpnkaaGreat
open Go.RowKit Go.Shelf
abbrev OwnL (b0 : Nat) (W : World) (v : Value) (l : List Lk) : Prop := W.ownsRow b0 125 3 v l.length (flatR lkc l)
theorem OwnL.rsl {b0 : Nat} {W : World} {v : Value} {l : List Lk} (h : OwnL b0 W v l) : RSl lkc b0 W.heap.size W v l := RSl.of_own lkc_len h
theorem OwnL.grown {b0 B : Nat} {w W : World} {v : Value} {l : List Lk} (h : OwnL b0 w v l) (hB : B < b0) (hg : w.grownBy W (some B)) : OwnL b0 W v l := by
  refine h.kept hg ?_
  cases hv : v.ownBlock with
  | none => exact .inl rfl
  | some k =>
    refine .inr fun e => ?_
    cases e
    have := (h.lt _ hv).1
    omega
def Turn (b0 B : Nat) (w W : World) : Prop := W.os = w.os ∧ W.tape = w.tape ∧ W.output = w.output ∧ w.heap.size ≤ W.heap.size ∧ ∀ k, k < b0 → k ≠ B → W.heap[k]? = w.heap[k]?
theorem Turn.trans {b0 B : Nat} {w W W' : World} (h : Turn b0 B w W) (h' : Turn b0 B W W') : Turn b0 B w W' :=
  ⟨h'.1.trans h.1, h'.2.1.trans h.2.1, h'.2.2.1.trans h.2.2.1, Nat.le_trans h.2.2.2.1 h'.2.2.2.1, fun k hk hne => (h'.2.2.2.2 k hk hne).trans (h.2.2.2.2 k hk hne)⟩
theorem Turn.own {b0 B : Nat} {w W : World} {row : Option Nat} (h : w.grownBy W row) (hb : b0 ≤ w.heap.size) (hr : ∀ k, row = some k → b0 ≤ k) : Turn b0 B w W :=
  ⟨h.os, h.tape, h.output, h.size, fun k hk _ => h.block k (Nat.lt_of_lt_of_le hk hb) (fun e => by have := hr k e.symm; omega)⟩
theorem Turn.blk {b0 B k : Nat} {w W : World} {T : TypeId} {vs : List Value} (h : Turn b0 B w W) (hk : k < b0) (hne : k ≠ B) (hB : Blk w k T vs) : Blk W k T vs := (h.2.2.2.2 k hk hne).trans hB
end Go.Proofs.YtechcdkakgpnkaaGreat
namespace Go.Proofs.YtechcdkakgpnkaaGreat
open Go.RowKit Go.Shelf
theorem OwnL.below {b : Nat} {W W' : World} {v : Value} {l : List Lk} (h : OwnL b W v l) (hb : Below W.heap.size W W') : OwnL b W' v l :=
  h.kept (row := none) ⟨hb.os, hb.tape, hb.output, hb.size, fun k hk _ => hb.block k hk⟩ (by cases v.ownBlock <;> simp)
abbrev nilV : Value := .slice none 0 0
def zS : Es := ⟨0, 0, noK, noK, fun _ => 0, noK, 0, []⟩
theorem res_st {fn : Func} {p : Tmp} (h : fn.results = #[.cell p 65]) (tmps : Array Value) {w : World} {g : Nat} {T : TypeId} {s : Es} {v : Value} (hp : tmps.getD p undef = .pointer (some ⟨g, 0, none⟩)) (hg : Blk w g T (stc s v)) :
    (results fn tmps).run Tryz.prog w = .ok (stv s v) w :=
  results_cell_row h tmps w g T (stc s v).toArray (0, 0) _ hp hg Tryz.underlying65 rfl (by rw [List.size_toArray, stc_len]; exact info_st)
end Go.Proofs.YtechcdkakgpnkaaGreat
namespace Go.Proofs.YtechcdkakgpnkaaGreat
open Go.RowKit Go.Shelf
section
variable {P : Program} {ops : Array Oper} {Q : Exit → Act → World → Prop}
end
def AttR (s : Es) (p : Es × Int) (w : World) (e : Ending) (W' : World) : Prop := ∃ v', e = .returned (.tuple #[stv (if p.2 = 0 then p.1 else s) v', .int .i64 p.2]) ∧ OwnL w.heap.size W' v' (if p.2 = 0 then p.1 else s).lk ∧ Below w.heap.size w W'
end Go.Proofs.YtechcdkakgpnkaaGreat
namespace Go.Proofs.YtechcdkakgpnkaaGreat
open Go.RowKit Go.Shelf
theorem AttR.ok {s : Es} {p : Es × Int} {w W' : World} {e : Ending} (h : AttR s p w e W') (hp : p.2 = 0) : ∃ v', e = .returned (.tuple #[stv p.1 v', .int .i64 0]) ∧ OwnL w.heap.size W' v' p.1.lk ∧ Below w.heap.size w W' := by
  obtain ⟨v', h1, h2, h3⟩ := h
  rw [if_pos hp, hp] at h1
  rw [if_pos hp] at h2
  exact ⟨v', h1, h2, h3⟩
theorem AttR.no {s : Es} {p : Es × Int} {w W' : World} {e : Ending} (h : AttR s p w e W') (hp : p.2 ≠ 0) : ∃ v', e = .returned (.tuple #[stv s v', .int .i64 p.2]) ∧ OwnL w.heap.size W' v' s.lk ∧ Below w.heap.size w W' := by
  obtain ⟨v', h1, h2, h3⟩ := h
  rw [if_neg hp] at h1 h2
  exact ⟨v', h1, h2, h3⟩
theorem OwnL.row {b B : Nat} {W : World} {v : Value} {l : List Lk} (h : OwnL b W v l) (hne : ∀ k, v.ownBlock = some k → k ≠ B) (cs : Array Value) : OwnL b (W.setRow B cs) v l := by
  refine h.kept (grownBy_row W B cs) ?_
  cases hv : v.ownBlock with
  | none => exact .inl rfl
  | some k => exact .inr fun e => hne k hv (Option.some.inj e)
end Go.Proofs.YtechcdkakgpnkaaGreat
namespace Go.Proofs.YtechcdkakgpnkaaGreat
open Go.RowKit Go.Shelf
theorem RSl.all {α : Type} {f : α → List Value} {lo hi : Nat} {w W : World} {v : Value} {l : List α} (h : RSl f lo hi w v l) (hhi : hi ≤ w.heap.size) (hb : Below w.heap.size w W) : RSl f 0 W.heap.size W v l := (h.below hb hhi).mono (Nat.zero_le _) (Nat.le_trans hhi hb.size)
theorem Mem.own {w W W' : World} {l : List MB} {row : Option Nat} (h : Mem w none l W) (hg : W.grownBy W' row) (hr : ∀ k, row = some k → w.heap.size ≤ k ∧ ∀ x ∈ l, x.1 ≠ k) : Mem w none l W' :=
  ⟨fun x hx => ⟨(h.1 x hx).1.kept hg (fun e => (hr _ e.symm).2 x hx rfl), (h.1 x hx).2⟩, h.2.1, ⟨hg.os.trans h.2.2.os, hg.tape.trans h.2.2.tape, hg.output.trans h.2.2.output, Nat.le_trans h.2.2.size hg.size, fun k hk _ => (hg.block k (Nat.lt_of_lt_of_le hk h.2.2.size) (fun e => by have := (hr k e.symm).1; omega)).trans (h.2.2.block k hk (by simp))⟩⟩
end Go.Proofs.YtechcdkakgpnkaaGreat
namespace Go.Proofs.YtechcdkakgpnkaaGreat
open Go.RowKit Go.Shelf
attribute [local irreducible] wpFrom
section
variable {W : World} {B : Nat} {T : TypeId} {s : Es} {v : Value}
end
def SzGe (n : Nat) (W : World) : Prop := n ≤ W.heap.size
theorem SzGe.drew {n : Nat} {W : World} (h : SzGe n W) : SzGe n W.drew := h
theorem SzGe.alloc {n : Nat} {W : World} (h : SzGe n W) (c : Obj) : SzGe n (W.alloc c) := Nat.le_trans h (chainA (Below.refl _ W) c).size
theorem SzGe.grown {n : Nat} {W W' : World} {r : Option Nat} (h : SzGe n W) (hg : W.grownBy W' r) : SzGe n W' := Nat.le_trans h hg.size
end Go.Proofs.YtechcdkakgpnkaaGreat
namespace Go.Proofs.YtechcdkakgpnkaaGreat
open Go.RowKit Go.Shelf
def RLk (lo hi : Nat) (W : World) (v : Value) (l : List Lk) : Prop := RSl lkc lo hi W v l ∧ hi ≤ W.heap.size
section
variable {lo hi : Nat} {W W' : World} {v : Value} {l : List Lk}
theorem RLk.drew (h : RLk lo hi W v l) : RLk lo hi W.drew v l := h
theorem RLk.below (h : RLk lo hi W v l) (hb : Below W.heap.size W W') : RLk lo hi W' v l := ⟨h.1.below hb h.2, Nat.le_trans h.2 hb.size⟩
theorem RLk.alloc (h : RLk lo hi W v l) (c : Obj) : RLk lo hi (W.alloc c) v l := h.below ((Below.refl _ W).alloc (Nat.le_refl _) _)
theorem RLk.row (h : RLk lo hi W v l) {B : Nat} (hB : B < lo ∨ hi ≤ B) (cs : Array Value) : RLk lo hi (W.setRow B cs) v l :=
  ⟨h.1.kept h.2 (grownBy_row W B cs) (fun r hr => by obtain rfl := Option.some.inj hr; exact hB), Nat.le_trans h.2 (grownBy_row W B cs).size⟩
end
end Go.Proofs.YtechcdkakgpnkaaGreat
namespace Go.Proofs.YtechcdkakgpnkaaGreat
open Go.RowKit Go.Shelf
structure Ch where
  st : Es
  po : List Tr
  ev : List Ev
end Go.Proofs.YtechcdkakgpnkaaGreat
namespace Go.Proofs.YtechcdkakgpnkaaGreat
open Go.RowKit Go.Shelf
def lgc (b : Bool) (s : Es) (v pv : Value) (n : Int) (q : Value) : List Value := [.bool b] ++ (stc s v ++ [pv, .int .i64 n, q])
section
variable {W : World} {B : Nat} {T : TypeId} {b : Bool} {s : Es} {v pv q : Value} {n : Int}
theorem ld_made (h : Blk W B T (lgc b s v pv n q)) : (Instr.loadAt 4 (.pointer (some ⟨B, 0, none⟩))).run Tryz.prog W = .ok (.bool b) W := ld_any _ _ Tryz.underlying4 rfl h 0 rfl
end
def EvL (W : World) : Value → List Nat → List Ev → Prop
  | q, [], [] => q = .pointer none
  | q, b :: bs, x :: xs => ∃ q', q = .pointer (some ⟨b, 0, none⟩) ∧ Blk W b 117 (evc x ++ [q']) ∧ EvL W q' bs xs
  | _, [], _ :: _ => False
  | _, _ :: _, [] => False
theorem EvL.stab {W W' : World} : ∀ {q : Value} {bs : List Nat} {xs : List Ev}, (∀ k ∈ bs, W'.heap[k]? = W.heap[k]?) → EvL W q bs xs → EvL W' q bs xs
  | _, [], [], _, h => h
  | _, b :: _, _ :: _, hk, ⟨q', h1, h2, h3⟩ => ⟨q', h1, (hk b (List.mem_cons_self ..)).trans h2, EvL.stab (fun k h => hk k (List.mem_cons_of_mem _ h)) h3⟩
  | _, [], _ :: _, _, h => h.elim
  | _, _ :: _, [], _, h => h.elim
theorem EvL.below {W W' : World} : ∀ {q : Value} {bs : List Nat} {xs : List Ev}, EvL W q bs xs → Below W.heap.size W W' → EvL W' q bs xs
  | _, [], [], h, _ => h
  | _, _ :: _, _ :: _, ⟨q', h1, h2, h3⟩, hb => ⟨q', h1, h2.below hb h2.lt, h3.below hb⟩
  | _, [], _ :: _, h, _ => h.elim
  | _, _ :: _, [], h, _ => h.elim
theorem EvL.step {W : World} {q : Value} {bs : List Nat} {x : Ev} {xs : List Ev} (h : EvL W q bs (x :: xs)) : ∃ b bs' q', q = .pointer (some ⟨b, 0, none⟩) ∧ Blk W b 117 (evc x ++ [q']) ∧ EvL W q' bs' xs := by
  cases bs with
  | nil => exact h.elim
  | cons b bs => obtain ⟨q', h1, h2, h3⟩ := h; exact ⟨b, bs, q', h1, h2, h3⟩
structure ChV (W : World) (B : Nat) (c : Ch) (v pv q : Value) (bs : List Nat) : Prop where
  b : Blk W B 104 (lgc true c.st v pv (c.ev.length : Int) q)
  lk : RSl lkc 0 W.heap.size W v c.st.lk
  po : RSl (fun t => txc t) 0 W.heap.size W pv c.po
  ev : EvL W q bs c.ev.reverse
section
variable {W W' : World} {B : Nat} {c : Ch} {v pv q : Value} {bs : List Nat}
theorem ChV.below (h : ChV W B c v pv q bs) (hb : Below W.heap.size W W') : ChV W' B c v pv q bs := ⟨h.b.below hb h.b.lt, h.lk.up hb, h.po.up hb, h.ev.below hb⟩
end
section
variable {w W : World} {F : List Nat} {l : List Res}
end
def NoC (W : World) (p : Value) : Prop := p = .pointer none ∨ ∃ B, p = .pointer (some ⟨B, 0, none⟩) ∧ Blk W B 104 (lgc false zS (.slice none 0 0) (.slice none 0 0) 0 (.pointer none))
theorem NoC.below {W W' : World} {p : Value} (h : NoC W p) (hb : Below W.heap.size W W') : NoC W' p := by
  rcases h with h | ⟨B, h1, h2⟩
  · exact .inl h
  · exact .inr ⟨B, h1, h2.below hb h2.lt⟩
end Go.Proofs.YtechcdkakgpnkaaGreat
namespace Go.Proofs.YtechcdkakgpnkaaGreat
open Go.RowKit Go.Shelf
attribute [local irreducible] wpFrom wpAnyH StepH
theorem there_no {p : Value} (w : World) (h : NoC w p) : Calls Tryz.prog 46 #[p] w fun e W' => e = .returned (.bool false) ∧ W' = w := by
  rcases h with rfl | ⟨B, rfl, hB⟩
  · go_enter Tryz.func46, Tryz.ntmps46
    go_wp2
    go_ret
    exact ⟨rfl, rfl⟩
  · go_enter Tryz.func46, Tryz.ntmps46
    go_upto_region 1 with fail
    refine wp_region_from ?_
    refine tF 9 [.val 0 (some 3) (pt B 0), .val 1 (some 4) (.bool true), .val 2 (some 5) (.bool true), .val 3 (some 6) (pt B 0), .val 4 (some 7) (pt B 0), .val 5 (some 8) (pt B 0), .load 6 (some 9) 4 (pt B 0) (.bool false), .val 7 (some 10) (.bool false), .val 8 (some 2) (.bool false)] ⟨ld_made hB, trivial⟩ ?_
    refine dF ?_
    try simp only [puts, Tk.put, Act.put, List.setIfInBounds_toArray, List.set_cons_zero, List.set_cons_succ]
    go_wp2_with fail
    go_ret
    exact ⟨rfl, rfl⟩
end Go.Proofs.YtechcdkakgpnkaaGreat
namespace Go.Proofs.YtechcdkakgpnkaaGreat
open Go.RowKit Go.Shelf
attribute [local irreducible] wpFrom wpAnyH StepH
set_option maxRecDepth 100000 in
set_option maxHeartbeats 4000000 in
theorem chnState_no {p : Value} (w : World) (h : NoC w p) : Calls Tryz.prog 18 #[p] w fun e W' => e = .returned (stv zS nilV) ∧ Below w.heap.size w W' := by
  have HN := Lib.hid h
  clear h
  have hM := Sep.start w
  go_enter Tryz.func18, Tryz.ntmps18
  go_upto_region 0 with fail
  refine wp_region_fromM (fun W => Sep w [] [] W) hM ?_
  clear hM
  rintro Y1 hM
  refine rF (some 2) (pt Y1.heap.size 0) (Y1.alloc (.cells (stc zS nilV).toArray 65)) ?_
  replace hM := hM.alloc 65 (stc zS nilV)
  generalize World.alloc _ _ = Y2 at *
  generalize hNe : Y1.heap.size = R at *
  clear hNe
  refine dF ?_
  try simp only [Act.put, List.setIfInBounds_toArray, List.set_cons_zero, List.set_cons_succ]
  go_upto_region 1 with fail
  refine wp_region_fromM (fun W => Sep w [] [.blk R 65 (stc zS nilV)] W) hM ?_
  clear hM
  rintro Y3 hM
  refine tF 1 [.val 0 (some 4) (p)] trivial ?_
  refine cF (some 5) 46 #[p] ((there_no _ (HN.out.below hM.b)).mono ?_)
  rintro e W1 ⟨rfl, rfl⟩
  refine tF 3 [.val 2 (some 6) (.bool true)] trivial ?_
  refine dF ?_
  try simp only [puts, Tk.put, Act.put, List.setIfInBounds_toArray, List.set_cons_zero, List.set_cons_succ]
  go_upto_region 2 with fail
  refine wp_region_fromM (fun W => Sep w [] [.blk R 65 (stc zS nilV)] W) hM ?_
  clear hM
  rintro Y4 hM
  refine tF 1 [.val 0 (some 7) (stv zS nilV)] trivial ?_
  refine sF 65 (pt R 0) (stv zS nilV) (sto_st (hM.at 0 rfl) (stc_len _ _) zS rfl) ?_
  replace hM := hM.set 0 (cs' := stc zS nilV) rfl rfl
  generalize World.setRow _ _ _ = Y5 at *
  refine dF ?_
  try simp only [puts, Tk.put, Act.put, List.setIfInBounds_toArray, List.set_cons_zero, List.set_cons_succ]
  go_wp2_with fail
  exact bodyPost_ret (v := stv zS nilV) (res_st rfl _ rfl (hM.at 0 rfl)) rfl ⟨rfl, hM.b⟩
end Go.Proofs.YtechcdkakgpnkaaGreat
namespace Go.Proofs.YtechcdkakgpnkaaGreat
open Go.RowKit Go.Shelf
attribute [local irreducible] wpFrom wpAnyH StepH
set_option maxRecDepth 100000 in
set_option maxHeartbeats 4000000 in
theorem chnNext_no {p : Value} (a : Int) (w : World) (h : NoC w p) : Calls Tryz.prog 81 #[p, .int .i64 a] w fun e W' => e = .returned (.int .i64 0) ∧ Below w.heap.size w W' := by
  have HN := Lib.hid h
  clear h
  have hM := Sep.start w
  go_enter Tryz.func81, Tryz.ntmps81
  go_upto_region 0 with fail
  refine wp_region_fromM (fun W => Sep w [] [] W) hM ?_
  clear hM
  rintro Y1 hM
  refine rF (some 3) (pt Y1.heap.size 0) (Y1.alloc (.cells ([.int .i64 a]).toArray 3)) ?_
  replace hM := hM.alloc 3 ([.int .i64 a])
  generalize World.alloc _ _ = Y2 at *
  generalize hNe : Y1.heap.size = A at *
  clear hNe
  refine tF 2 [.val 1 (some 4) (.int .i64 0)] trivial ?_
  refine dF ?_
  try simp only [puts, Tk.put, Act.put, List.setIfInBounds_toArray, List.set_cons_zero, List.set_cons_succ]
  go_upto_region 1 with fail
  refine wp_region_fromM (fun W => Sep w [] [.blk A 3 ([.int .i64 a])] W) hM ?_
  clear hM
  rintro Y3 hM
  refine tF 1 [.val 0 (some 6) (p)] trivial ?_
  refine cF (some 7) 46 #[p] ((there_no _ (HN.out.below hM.b)).mono ?_)
  rintro e W1 ⟨rfl, rfl⟩
  refine tF 11 [.val 2 (some 8) (.bool true), .val 3 (some 9) (.bool true), .skip 4 (some 10), .skip 5 (some 11), .val 6 (some 12) (.bool true), .val 7 (some 13) (.bool true), .skip 8 (some 14), .skip 9 (some 15), .val 10 (some 16) (.bool true)] trivial ?_
  refine dF ?_
  try simp only [puts, Tk.put, Act.put, List.setIfInBounds_toArray, List.set_cons_zero, List.set_cons_succ]
  go_wp2_with fail
  go_ret
  exact ⟨rfl, hM.b⟩
end Go.Proofs.YtechcdkakgpnkaaGreat
namespace Go.Proofs.YtechcdkakgpnkaaGreat
open Go.RowKit Go.Shelf
attribute [local irreducible] wpFrom wpAnyH StepH
set_option maxRecDepth 100000 in
set_option maxHeartbeats 4000000 in
theorem rlNew_any (w : World) : Calls Tryz.prog 7 #[] w (NewRl w) := by
  have hmx : Tryz.prog.follows .mixedOrders = true := by kernel_rfl
  have hM := Sep.start w
  go_enter Tryz.func7, Tryz.ntmps7
  go_upto_region 0 with fail
  refine wp_region_fromM (fun W => Sep w [] [] W) hM ?_
  clear hM
  rintro Y1 hM
  refine tF 1 [.val 0 (some 0) (.pointer none)] trivial ?_
  refine dF ?_
  try simp only [puts, Tk.put, Act.put, List.setIfInBounds_toArray, List.set_cons_zero]
  go_upto_region 1 with fail
  refine wp_region_fromM (fun W => Sep w [] [] W) hM ?_
  clear hM
  rintro Y2 hM
  refine tF 1 [.val 0 (some 1) (.agg (rlc true (.slice none 0 0)).toArray)] trivial ?_
  refine rF (some 2) (pt Y2.heap.size 0) (Y2.alloc (.cells (rlc true (.slice none 0 0)).toArray 74)) ?_
  replace hM := hM.alloc 74 (rlc true (.slice none 0 0))
  generalize World.alloc _ _ = Y3 at *
  generalize hNe : Y2.heap.size = N3 at *
  clear hNe
  refine tF 3 [.val 2 (some 0) (pt N3 0)] trivial ?_
  refine dF ?_
  try simp only [puts, Tk.put, Act.put, List.setIfInBounds_toArray, List.set_cons_zero, List.set_cons_succ]
  replace hM := hM.nil msc 34 43
  go_wp2_with fail
  go_ret
  exact ⟨_, _, rfl, hM.pick [1, 0] (by decide) rfl⟩
set_option maxRecDepth 100000 in
set_option maxHeartbeats 4000000 in
theorem hear1_any {K : Nat} (m x : Ms) (w : World) (hk : Blk w K 34 (msc m)) : Calls Tryz.prog 33 #[msv x, .pointer (some ⟨K, 0, none⟩)] w fun e W' => e = .returned (.bool (isM m x)) ∧ Below w.heap.size w W' := by
  have hmx : Tryz.prog.follows .mixedOrders = true := by kernel_rfl
  have HK := Lib.hid hk
  clear hk
  have hM := Sep.start w
  go_enter Tryz.func33, Tryz.ntmps33
  go_upto_region 0 with fail
  refine wp_region_fromM (fun W => Sep w [] [] W) hM ?_
  clear hM
  rintro Y1 hM
  refine rF (some 2) (pt Y1.heap.size 0) (Y1.alloc (.cells (msc x).toArray 34)) ?_
  replace hM := hM.alloc 34 (msc x)
  generalize World.alloc _ _ = Y2 at *
  generalize hNe : Y1.heap.size = N2 at *
  clear hNe
  refine tF 2 [.val 1 (some 3) (.bool false)] trivial ?_
  refine dF ?_
  try simp only [puts, Tk.put, Act.put, List.setIfInBounds_toArray, List.set_cons_zero, List.set_cons_succ]
  go_upto_region 1 with fail
  refine wp_region_fromM (fun W => Sep w [] [.blk N2 34 (msc x)] W) hM ?_
  clear hM
  rintro Y3 hM
  refine tF 2 [.load 0 (some 4) 34 (pt N2 0) (msv x), .load 1 (some 5) 34 (pt K 0) (msv m)] ⟨load_part (hM.at 0 rfl) 0 (msc x) rfl _ _ Tryz.underlying34 rfl (by kernel_rfl), load_part (HK.out.below hM.b HK.out.lt) 0 (msc m) rfl _ _ Tryz.underlying34 rfl (by kernel_rfl), trivial⟩ ?_
  refine eqA (.tmp 4) (.tmp 5) 34 (some 6) (msc x).toArray (msc m).toArray (eqM x m) (run_eqM x m _) ?_
  refine tF 4 [.val 3 (some 3) (.bool (eqM x m))] trivial ?_
  refine dF ?_
  try simp only [puts, Tk.put, Act.put, List.setIfInBounds_toArray, List.set_cons_zero, List.set_cons_succ]
  go_wp2_with fail
  go_ret
  exact ⟨rfl, hM.b⟩
def RowM (l : List Ms) (w : World) (e : Ending) (W' : World) : Prop := ∃ v, e = .returned v ∧ Sep w [] [.own msc 34 43 v l] W'
theorem fil_lenM (l : List Ms) (j : Nat) (p : Ms → Bool) : ((l.take j).filter p).length ≤ j := Nat.le_trans (List.length_filter_le _ _) (List.length_take_le _ _)
set_option maxRecDepth 100000 in
set_option maxHeartbeats 4000000 in
theorem rlAll1_any {B K : Nat} (m : Ms) (l : List Ms) (v : Value) (w : World) {lo hi : Nat} (hl : RSl msc lo hi w v l) (hhi : hi ≤ w.heap.size) (hr : l.length ≤ 1000) (hb0 : Blk w B 74 (rlc true v)) (hk : Blk w K 34 (msc m)) : Calls Tryz.prog 32 #[.pointer (some ⟨B, 0, none⟩), .func (.func 33) #[] #[.pointer (some ⟨K, 0, none⟩)]] w (RowM (l.filter (isM m)) w) := by
  have hmx : Tryz.prog.follows .mixedOrders = true := by kernel_rfl
  have HEl := Lib.hid (fun k x (hx : l[k]? = some x) => hl.elem msc_len hx Tryz.underlying72 (fun W => by kernel_rfl))
  obtain ⟨pl, cl, rfl⟩ := hl.slice
  have HLl := Lib.hid hl
  have HHl := Lib.hid hhi
  have HLENl := Lib.hid (show l.length ≤ 9223372036854775807 from by have h := hl.len; unfold maxLen at h; omega)
  clear hl hhi
  have HB := Lib.hid hb0
  have HR := Lib.hid hr
  clear hb0 hr
  have HK := Lib.hid hk
  clear hk
  have hM := Sep.start w
  go_enter Tryz.func32, Tryz.ntmps32
  go_upto_region 0 with fail
  refine wp_region_fromM (fun W => Sep w [] [] W) hM ?_
  clear hM
  rintro Y1 hM
  refine tF 1 [.val 0 (some 4) (.slice none 0 0)] trivial ?_
  refine dF ?_
  try simp only [puts, Tk.put, Act.put, List.setIfInBounds_toArray, List.set_cons_zero, List.set_cons_succ]
  go_upto_region 1 with fail
  refine wp_region_fromM (fun W => Sep w [] [] W) hM ?_
  clear hM
  rintro Y2 hM
  refine tF 2 [.val 0 (some 8) (pt B 0), .val 1 (some 9) (.bool false)] trivial ?_
  refine dF ?_
  try simp only [puts, Tk.put, Act.put, List.setIfInBounds_toArray, List.set_cons_zero, List.set_cons_succ]
  go_upto_region 3 with fail
  refine wp_region_fromM (fun W => Sep w [] [] W) hM ?_
  clear hM
  rintro Y3 hM
  refine tF 1 [.val 0 (some 5) (.slice none 0 0)] trivial ?_
  refine dF ?_
  try simp only [puts, Tk.put, Act.put, List.setIfInBounds_toArray, List.set_cons_zero, List.set_cons_succ]
  go_upto_region 4 with fail
  refine wp_region_fromM (fun W => Sep w [] [] W) hM ?_
  clear hM
  rintro Y4 hM
  refine tF 6 [.val 0 (some 10) (pt B 0), .val 1 (some 11) (pt B 0), .val 2 (some 12) (pt B 1), .load 3 (some 13) 72 (pt B 1) (.slice pl l.length cl), .val 4 (some 14) (.int .i64 (l.length : Int)), .val 5 (some 15) (.int .i64 0)] ⟨ld_any _ _ Tryz.underlying72 rfl (HB.out.below hM.b HB.out.lt) 1 rfl, trivial⟩ ?_
  refine dF ?_
  try simp only [puts, Tk.put, Act.put, List.setIfInBounds_toArray, List.set_cons_zero, List.set_cons_succ]
  replace hM := hM.nil msc 34 43
  go_wp2_with fail
  go_loopw [5, 15] (fun u5 i wr => ∃ j : Nat, j ≤ l.length ∧ i = .int .i64 (j : Int) ∧ Sep w [] [.own msc 34 43 (u5) ((l.take j).filter (isM m))] wr) (fun u5 i _ => l.length - (intOf i).toNat)
  case atStart => exact ⟨0, Nat.zero_le _, rfl, hM⟩
  clear hM
  case round =>
    obtain ⟨j, hj, rfl, hM⟩ := hrel
    by_cases hlt : j < l.length
    case pos =>
      obtain ⟨x, hx⟩ : ∃ x, l[j]? = some x := ⟨_, List.getElem?_eq_getElem hlt⟩
      obtain ⟨bl, ol, _, _, hit, hct⟩ := HEl.out j x hx
      have HXl := Lib.hid hx
      have HIl := Lib.hid hit
      have HCl := Lib.hid hct
      clear hx hit hct
      have HJ := Lib.hid hlt
      have hlt' : (j : Int) < (l.length : Int) := by omega
      clear hlt
      have HTF := Lib.hid (take_filG (p := (isM m)) HXl.out)
      go_upto_region 5 with fail
      refine wp_region_fromM (fun W => Sep w [] [.own msc 34 43 (u5) ((l.take j).filter (isM m))] W) hM ?_
      clear hM
      rintro Y5 hM
      refine tF 1 [.alt 0 (some 16) (.bool (decide ((j : Int) < (l.length : Int)))) (.bool true)] ⟨congrArg Value.bool (decide_eq_true hlt'), trivial⟩ ?_
      refine dF ?_
      try simp only [puts, Tk.put, Act.put, List.setIfInBounds_toArray, List.set_cons_zero, List.set_cons_succ]
      go_upto_region 6 with fail
      refine wp_region_fromM (fun W => Sep w [] [.own msc 34 43 (u5) ((l.take j).filter (isM m))] W) hM ?_
      clear hM
      rintro Y6 hM
      refine tF 2 [.idx 0 (some 17) 72 (.slice pl l.length cl) (.int .i64 (j : Int)) (pt bl ol), .load 1 (some 18) 34 (pt bl ol) (msv x)] ⟨HIl.out _, ld_cells (msc x) _ _ Tryz.underlying34 rfl (by kernel_rfl) (HCl.out _ (HLl.out.below hM.b HHl.out)), trivial⟩ ?_
      refine rF (some 7) (pt Y6.heap.size 0) (Y6.alloc (.cells (msc noM).toArray 34)) ?_
      replace hM := hM.alloc 34 (msc noM)
      generalize World.alloc _ _ = Y7 at *
      generalize hNe : Y6.heap.size = N7 at *
      clear hNe
      have hst := sto_part (msc x) (hM.at 0 rfl) 0 34 (msv x) (msc x) rfl (by kernel_rfl) (Nat.le_of_ble_eq_true rfl) rfl rfl
      refine sF 34 (pt N7 0) (msv x) (hst) ?_
      clear hst
      replace hM := hM.set 0 (cs' := msc x) rfl rfl
      generalize World.setRow _ _ _ = Y8 at *
      refine dF ?_
      try simp only [puts, Tk.put, Act.put, List.setIfInBounds_toArray, List.set_cons_zero, List.set_cons_succ]
      go_upto_region 7 with fail
      refine wp_region_fromM (fun W => Sep w [] [.blk N7 34 (msc x), .own msc 34 43 (u5) ((l.take j).filter (isM m))] W) hM ?_
      clear hM
      rintro Y9 hM
      refine tF 2 [.val 0 (some 19) (.func (.func 33) #[] #[.pointer (some ⟨K, 0, none⟩)]), .load 1 (some 20) 34 (pt N7 0) (msv x)] ⟨load_part (hM.at 0 rfl) 0 (msc x) rfl _ _ Tryz.underlying34 rfl (by kernel_rfl), trivial⟩ ?_
      refine cF (some 21) 33 #[msv x, .pointer (some ⟨K, 0, none⟩)] ((hear1_any m x _ (HK.out.below hM.b HK.out.lt)).mono ?_)
      rintro e Y10 ⟨rfl, hb⟩
      replace hM := hM.below hb
      clear hb
      refine dF ?_
      try simp only [puts, Tk.put, Act.put, List.setIfInBounds_toArray, List.set_cons_zero, List.set_cons_succ]
      cases hb1 : isM m x with
      | false =>
        have Hhb1 := Lib.hid hb1
        clear hb1
        go_upto_region 9 with fail
        refine wp_region_fromM (fun W => Sep w [] [.blk N7 34 (msc x), .own msc 34 43 (u5) ((l.take j).filter (isM m))] W) hM ?_
        clear hM
        rintro Y11 hM
        refine tF 2 [.alt 0 (some 26) (.int .i64 (IntKind.i64.wrap ((j : Int) + 1))) (.int .i64 ((j + 1 : Nat) : Int)), .val 1 (some 15) (.int .i64 ((j + 1 : Nat) : Int))] ⟨congrArg (Value.int .i64) ((IntWalk.i64_in _ (by have := HLENl.out; have := HJ.out; omega)).trans (by omega)), trivial⟩ ?_
        refine dF ?_
        try simp only [puts, Tk.put, Act.put, List.setIfInBounds_toArray, List.set_cons_zero, List.set_cons_succ]
        have hM1 := hM.sub (l' := [.own msc 34 43 (u5) ((l.take j).filter (isM m))]) (.cons _ (.cons_cons _ .slnil))
        have HM1 := Lib.hid hM1
        clear hM hM1
        go_wp2_with fail
        go_roundw
        case rel => exact ⟨j + 1, HJ.out, rfl, by rw [HTF.out, if_neg (by rw [Hhb1.out]; decide), List.append_nil]; exact HM1.out⟩
        case measure => have := HJ.out; simp [intOf]; omega
      | true =>
        have Hhb1 := Lib.hid hb1
        clear hb1
        go_upto_region 8 with fail
        refine wp_region_fromM (fun W => Sep w [] [.blk N7 34 (msc x), .own msc 34 43 (u5) ((l.take j).filter (isM m))] W) hM ?_
        clear hM
        rintro Y12 hM
        refine tF 2 [.val 0 (some 22) (u5), .load 1 (some 23) 34 (pt N7 0) (msv x)] ⟨load_part (hM.at 0 rfl) 0 (msc x) rfl _ _ Tryz.underlying34 rfl (by kernel_rfl), trivial⟩ ?_
        refine rF (some 24) (.slice (some ⟨Y12.heap.size, 0, none⟩) 1 1) (Y12.alloc (.cells (msc x).toArray 34)) ?_
        replace hM := hM.alloc 34 (msc x)
        generalize World.alloc _ _ = Y13 at *
        generalize hNe : Y12.heap.size = N13 at *
        clear hNe
        obtain ⟨v14, Y14, hrun, ht⟩ := own_app1 infoMs rfl (by decide) Tryz.underlying72 msc_len msc_one (hM.oka 2 rfl) x (hM.at 0 rfl) (by decide) ((by have h1 := HR.out; have h2 := fil_lenM l j (isM m); have h3 := HJ.out; omega)) 72
        replace hM := hM.turn 2 rfl ht rfl
        clear ht
        refine wpFrom_append (d := some 25) (t := 72) (t' := 72) (ty := 72) (v := u5) (x := .slice (some ⟨N13, 0, none⟩) 1 1) (by kernel_rfl) hrun ?_
        clear hrun
        refine tF 5 [.val 4 (some 5) (v14)] trivial ?_
        refine dF ?_
        try simp only [puts, Tk.put, Act.put, List.setIfInBounds_toArray, List.set_cons_zero, List.set_cons_succ]
        go_upto_region 9 with fail
        refine wp_region_fromM (fun W => Sep w [] [.blk N13 34 (msc x), .blk N7 34 (msc x), .own msc 34 43 (v14) (((l.take j).filter (isM m)) ++ [x])] W) hM ?_
        clear hM
        rintro Y15 hM
        refine tF 2 [.alt 0 (some 26) (.int .i64 (IntKind.i64.wrap ((j : Int) + 1))) (.int .i64 ((j + 1 : Nat) : Int)), .val 1 (some 15) (.int .i64 ((j + 1 : Nat) : Int))] ⟨congrArg (Value.int .i64) ((IntWalk.i64_in _ (by have := HLENl.out; have := HJ.out; omega)).trans (by omega)), trivial⟩ ?_
        refine dF ?_
        try simp only [puts, Tk.put, Act.put, List.setIfInBounds_toArray, List.set_cons_zero, List.set_cons_succ]
        have hM1 := hM.sub (l' := [.own msc 34 43 (v14) (((l.take j).filter (isM m)) ++ [x])]) (.cons _ (.cons _ (.cons_cons _ .slnil)))
        have HM1 := Lib.hid hM1
        clear hM hM1
        go_wp2_with fail
        go_roundw
        case rel => exact ⟨j + 1, HJ.out, rfl, by rw [HTF.out, if_pos Hhb1.out]; exact HM1.out⟩
        case measure => have := HJ.out; simp [intOf]; omega
    case neg =>
      obtain rfl : j = l.length := by omega
      go_upto_region 5 with fail
      refine wp_region_fromM (fun W => Sep w [] [.own msc 34 43 (u5) ((l.take l.length).filter (isM m))] W) hM ?_
      clear hM
      rintro Y16 hM
      refine tF 1 [.alt 0 (some 16) (.bool (decide ((l.length : Int) < (l.length : Int)))) (.bool false)] ⟨congrArg Value.bool (decide_eq_false (by omega)), trivial⟩ ?_
      refine dF ?_
      try simp only [puts, Tk.put, Act.put, List.setIfInBounds_toArray, List.set_cons_zero, List.set_cons_succ]
      go_upto_region 10 with fail
      refine wp_region_fromM (fun W => Sep w [] [.own msc 34 43 (u5) ((l.take l.length).filter (isM m))] W) hM ?_
      clear hM
      rintro Y17 hM
      refine tF 2 [.val 0 (some 27) (u5), .val 1 (some 4) (u5)] trivial ?_
      refine dF ?_
      try simp only [puts, Tk.put, Act.put, List.setIfInBounds_toArray, List.set_cons_zero, List.set_cons_succ]
      go_wp2_with fail
      go_ret
      rw [List.take_length] at hM
      exact ⟨_, rfl, hM⟩
theorem clipMs_any {lo hi : Nat} {a : Option Addr} {cap : Nat} {l : List Ms} (w : World) (hl : RSl msc lo hi w (.slice a l.length cap) l) : Calls Tryz.prog 34 #[.slice a l.length cap] w fun e W' => e = .returned (.slice a l.length l.length) ∧ W' = w := by
  have hcap : l.length ≤ cap := by obtain ⟨_, _, e, h, _⟩ := hl; cases e; exact h
  have hmax := hl.len
  unfold maxLen at hmax
  clear hl
  generalize l.length = n at *
  go_enter Tryz.func34, Tryz.ntmps34
  go_wp2
  go_ret
  exact ⟨rfl, rfl⟩
set_option maxRecDepth 100000 in
set_option maxHeartbeats 4000000 in
theorem rlHear_any {B : Nat} {l : List Ms} {v : Value} {m : Ms} {c : Int} (b : List UInt8) (sv : Value) (w : World) (h : ROk (.join (RLR B l v)) w) (hsv : BF (Res.join (RLR B l v)).foot w sv b) (hq : readG (openS b) = (m, c)) : Calls Tryz.prog 9 #[.pointer (some ⟨B, 0, none⟩), sv] w (RlR B (.join (RLR B l v)) (hearM l m c).1 (.bool (hearM l m c).2) w) := by
  have hmx : Tryz.prog.follows .mixedOrders = true := by kernel_rfl
  have hM := Sep.begin h
  obtain ⟨pp, cp, rfl⟩ := (hM.oka 1 rfl).slice msc_len
  have HSV := Lib.hid hsv
  have HQ := Lib.hid hq
  clear hsv hq
  clear h
  replace hM : Sep w (Res.join (RLR B l (.slice pp l.length cp))).foot [.blk B 74 (rlc true (.slice pp l.length cp)), .own msc 34 43 (.slice pp l.length cp) (l)] w := hM
  go_enter Tryz.func9, Tryz.ntmps9
  go_upto_region 0 with fail
  refine wp_region_fromM (fun W => Sep w (Res.join (RLR B l (.slice pp l.length cp))).foot [.blk B 74 (rlc true (.slice pp l.length cp)), .own msc 34 43 (.slice pp l.length cp) (l)] W) hM ?_
  clear hM
  rintro Y1 hM
  refine tF 1 [.val 0 (some 4) (.bool false)] trivial ?_
  refine dF ?_
  try simp only [puts, Tk.put, Act.put, List.setIfInBounds_toArray, List.set_cons_zero, List.set_cons_succ]
  go_upto_region 1 with fail
  refine wp_region_fromM (fun W => Sep w (Res.join (RLR B l (.slice pp l.length cp))).foot [.blk B 74 (rlc true (.slice pp l.length cp)), .own msc 34 43 (.slice pp l.length cp) (l)] W) hM ?_
  clear hM
  rintro Y2 hM
  refine tF 17 [.val 0 (some 7) (pt B 0), .val 1 (some 8) (.bool false), .val 2 (some 9) (.bool false), .val 3 (some 10) (pt B 0), .val 4 (some 11) (pt B 0), .val 5 (some 12) (pt B 0), .load 6 (some 13) 4 (pt B 0) (.bool true), .val 7 (some 14) (.bool false), .val 8 (some 15) (.bool false), .val 9 (some 16) (.bool false), .val 10 (some 17) (pt B 0), .val 11 (some 18) (pt B 0), .val 12 (some 19) (pt B 1), .load 13 (some 20) 72 (pt B 1) (.slice pp l.length cp), .val 14 (some 21) (.int .i64 (l.length : Int)), .val 15 (some 22) (.bool (decide (16 ≤ (l.length : Int)))), .val 16 (some 23) (.bool (decide (16 ≤ (l.length : Int))))] ⟨ld_any _ _ Tryz.underlying4 rfl (hM.at 0 rfl) 0 rfl, ld_any _ _ Tryz.underlying72 rfl (hM.at 0 rfl) 1 rfl, trivial⟩ ?_
  refine dF ?_
  try simp only [puts, Tk.put, Act.put, List.setIfInBounds_toArray, List.set_cons_zero, List.set_cons_succ]
  cases hb1 : decide (16 ≤ (l.length : Int)) with
  | false =>
    have Hhb1 := Lib.hid hb1
    clear hb1
    have HLL : Hid (l.length ≤ 16) := Lib.hid (by have h := of_decide_eq_false Hhb1.out; omega)
    go_upto_region 3 with fail
    refine wp_region_fromM (fun W => Sep w (Res.join (RLR B l (.slice pp l.length cp))).foot [.blk B 74 (rlc true (.slice pp l.length cp)), .own msc 34 43 (.slice pp l.length cp) (l)] W) hM ?_
    clear hM
    rintro Y3 hM
    refine tF 1 [.val 0 (some 25) (sv)] trivial ?_
    have hq := mailRead_any b sv _ (HSV.out.out hM.out).bsl
    rw [HQ.out] at hq
    refine cF (some 26) 11 #[sv] ((hq).mono ?_)
    rintro e Y4 ⟨rfl, hb⟩
    clear hq
    replace hM := hM.below hb
    clear hb
    refine tF 5 [.val 2 (some 24) (.tuple #[msv m, .int .i64 c]), .val 3 (some 27) (msv m), .val 4 (some 28) (.int .i64 c)] trivial ?_
    refine rF (some 5) (pt Y4.heap.size 0) (Y4.alloc (.cells (msc noM).toArray 34)) ?_
    replace hM := hM.alloc 34 (msc noM)
    generalize World.alloc _ _ = Y5 at *
    generalize hNe : Y4.heap.size = N5 at *
    clear hNe
    have hst := sto_part (msc m) (hM.at 0 rfl) 0 34 (msv m) (msc m) rfl (by kernel_rfl) (Nat.le_of_ble_eq_true rfl) rfl rfl
    refine sF 34 (pt N5 0) (msv m) (hst) ?_
    clear hst
    replace hM := hM.set 0 (cs' := msc m) rfl rfl
    generalize World.setRow _ _ _ = Y6 at *
    refine tF 8 [.val 7 (some 6) (.int .i64 c)] trivial ?_
    refine dF ?_
    try simp only [puts, Tk.put, Act.put, List.setIfInBounds_toArray, List.set_cons_zero, List.set_cons_succ]
    go_upto_region 4 with fail
    refine wp_region_fromM (fun W => Sep w (Res.join (RLR B l (.slice pp l.length cp))).foot [.blk N5 34 (msc m), .blk B 74 (rlc true (.slice pp l.length cp)), .own msc 34 43 (.slice pp l.length cp) (l)] W) hM ?_
    clear hM
    rintro Y7 hM
    refine tF 3 [.val 0 (some 29) (.int .i64 c), .val 1 (some 30) (.bool (c != 0)), .val 2 (some 31) (.bool (c != 0))] trivial ?_
    cases hb2 : c != 0 with
    | false =>
      have Hhb2 := Lib.hid hb2
      clear hb2
      refine tF 8 [.val 3 (some 32) (pt N5 0), .load 4 (some 33) 3 (pt N5 0) (.int .i64 m.kd), .val 5 (some 34) (.bool (m.kd != 3)), .val 6 (some 35) (.bool (m.kd != 3)), .val 7 (some 36) (.bool (m.kd != 3))] ⟨ld_any _ _ Tryz.underlying3 rfl (hM.at 0 rfl) 0 rfl, trivial⟩ ?_
      cases hb3 : m.kd != 3 with
      | false =>
        have Hhb3 := Lib.hid hb3
        clear hb3
        refine tF 11 [.val 8 (some 37) (pt N5 38), .load 9 (some 38) 24 (pt N5 38) (wv m.f0 m.f1 m.f2 m.f3), .val 10 (some 39) (wn 0)] ⟨load_part (hM.at 0 rfl) 38 (fec m) rfl _ _ Tryz.underlying24 rfl (by kernel_rfl), trivial⟩ ?_
        refine eqA (.tmp 38) (.tmp 39) 24 (some 40) (fec m).toArray (wnc 0).toArray (feZ m) (run_feZ m _) ?_
        refine tF 13 [.val 12 (some 41) (.bool (feZ m))] trivial ?_
        refine dF ?_
        try simp only [puts, Tk.put, Act.put, List.setIfInBounds_toArray, List.set_cons_zero, List.set_cons_succ]
        cases hb4 : feZ m with
        | false =>
          have Hhb4 := Lib.hid hb4
          clear hb4
          go_upto_region 6 with fail
          refine wp_region_fromM (fun W => Sep w (Res.join (RLR B l (.slice pp l.length cp))).foot [.blk N5 34 (msc m), .blk B 74 (rlc true (.slice pp l.length cp)), .own msc 34 43 (.slice pp l.length cp) (l)] W) hM ?_
          clear hM
          rintro Y8 hM
          refine tF 2 [.val 0 (some 42) (pt B 0), .val 1 (some 43) (.func (.func 33) #[] #[pt N5 0])] trivial ?_
          refine cF (some 44) 32 #[pt B 0, .func (.func 33) #[] #[pt N5 0]] ((rlAll1_any m l _ _ ((hM.oka 2 rfl).rsl msc_len) (Nat.le_refl _) (by have h := HLL.out; omega) (hM.at 1 rfl) (hM.at 0 rfl)).mono ?_)
          rintro e Y9 ⟨v9, rfl, hR⟩
          replace hM := hM.gain hR
          clear hR
          obtain ⟨pv9, cv9, rfl⟩ := (hM.oka 0 rfl).slice msc_len
          refine tF 5 [.val 3 (some 45) (.int .i64 ((l.filter (isM m)).length : Int)), .val 4 (some 46) (.bool (decide (0 < ((l.filter (isM m)).length : Int))))] trivial ?_
          refine dF ?_
          try simp only [puts, Tk.put, Act.put, List.setIfInBounds_toArray, List.set_cons_zero, List.set_cons_succ]
          cases hb5 : decide (0 < ((l.filter (isM m)).length : Int)) with
          | false =>
            have Hhb5 := Lib.hid hb5
            clear hb5
            go_upto_region 8 with fail
            refine wp_region_M (fun W => Sep w (Res.join (RLR B l (.slice pp l.length cp))).foot [.own msc 34 43 (.slice pv9 (l.filter (isM m)).length cv9) ((l.filter (isM m))), .blk N5 34 (msc m)] W) (fun W => Sep w (Res.join (RLR B l (.slice pp l.length cp))).foot [.own msc 34 43 (.slice pv9 (l.filter (isM m)).length cv9) ((l.filter (isM m))), .blk N5 34 (msc m), .blk B 74 (rlc true (.slice pp l.length cp)), .own msc 34 43 (.slice pp l.length cp) (l)] W) hmx hM.drew ?_
            clear hM
            rintro Y10 hM
            have hS := hM.sub (.cons_cons _ (.cons_cons _ (.cons _ (.cons _ .slnil))))
            refine tD 7 [.val 0 (some 47) (pt B 0), .val 1 (some 48) (pt B 0), .val 2 (some 49) (pt B 0), .val 3 (some 50) (pt B 1), .load 6 (some 53) 34 (pt N5 0) (msv m)] ⟨fun W h => load_part (h.at 1 rfl) 0 (msc m) rfl _ _ Tryz.underlying34 rfl (by kernel_rfl), trivial⟩ hS ?_
            refine oT 4 7 6 ?_ ?_
            · refine lD (some 51) 72 (pt B 1) (.slice pp l.length cp) (ld_any _ _ Tryz.underlying72 rfl (hM.at 2 rfl) 1 rfl) (hS) ?_
              refine oT 5 7 5 ?_ ?_
              · refine cD (some 52) 34 #[.slice pp l.length cp] ((clipMs_any _ ((hM.oka 3 rfl).rsl msc_len)).mono ?_)
                rintro e Y11 ⟨rfl, rfl⟩
                refine And.intro (hS) ?_
                refine oD 7 4 (rD (some 54) (.slice (some ⟨Y11.heap.size, 0, none⟩) 1 1) (Y11.alloc (.cells (msc m).toArray 34)) (hS.other _) ?_)
                replace hS := hS.other (.cells (msc m).toArray 34)
                replace hM := hM.alloc 34 (msc m)
                generalize World.alloc _ _ = Y12 at *
                generalize hNe : Y11.heap.size = N12 at *
                clear hNe
                obtain ⟨v13, Y13, hrun, ht⟩ := own_clip1 infoMs rfl (by decide) Tryz.underlying72 msc_len msc_one (hM.oka 4 rfl) m (hM.at 0 rfl) (by decide) (by have h := HLL.out; omega) 72
                obtain ⟨pv13, cv13, rfl⟩ := ht.ok.slice msc_len
                have hM1 := hM.turn 4 rfl ht rfl
                clear ht
                refine oD 8 3 (stepH_append (d := some 55) (t := 72) (t' := 72) (ty := 72) (v := .slice pp l.length l.length) (x := .slice (some ⟨N12, 0, none⟩) 1 1) (by kernel_rfl) hrun (hM1.sub (.cons _ (.cons_cons _ (.cons_cons _ (.cons _ (.cons _ .slnil)))))) ?_)
                replace hS := hM1.sub (.cons _ (.cons_cons _ (.cons_cons _ (.cons _ (.cons _ .slnil)))))
                replace hM := hM1
                clear hM1 hrun
                refine tD 1 [.val 9 (some 56) (pt B 0), .val 10 (some 57) (pt B 1)] trivial hS ?_
                have hst := sto_part (rlc true (.slice pv13 (l ++ [m]).length cv13)) (hM.at 3 rfl) 1 72 (.slice pv13 (l ++ [m]).length cv13) ([.slice pv13 (l ++ [m]).length cv13]) rfl (by kernel_rfl) (Nat.le_of_ble_eq_true rfl) rfl rfl
                have hM1 := hM.set 3 (cs' := rlc true (.slice pv13 (l ++ [m]).length cv13)) rfl rfl
                refine oD 11 0 (sD 72 (pt B 1) (.slice pv13 (l ++ [m]).length cv13) (hst) (hM1.sub (.cons _ (.cons_cons _ (.cons_cons _ (.cons _ (.cons _ .slnil)))))) ?_)
                clear hst
                replace hS := hM1.sub (.cons _ (.cons_cons _ (.cons_cons _ (.cons _ (.cons _ .slnil)))))
                replace hM := hM1
                clear hM1
                generalize World.setRow _ _ _ = Y14 at *
                refine dD ?_
                try simp only [puts, Tk.put, Act.put, List.setIfInBounds_toArray, List.set_cons_zero, List.set_cons_succ]
                clear hS
                go_upto_region 9 with fail
                refine wp_region_fromM (fun W => Sep w (Res.join (RLR B l (.slice pp l.length cp))).foot [.blk N12 34 (msc m), .own msc 34 43 (.slice pv9 (l.filter (isM m)).length cv9) ((l.filter (isM m))), .blk N5 34 (msc m), .blk B 74 (rlc true (.slice pv13 (l ++ [m]).length cv13)), .own msc 34 43 (.slice pv13 (l ++ [m]).length cv13) (l ++ [m])] W) hM ?_
                clear hM
                rintro Y15 hM
                refine tF 1 [.val 0 (some 4) (.bool true)] trivial ?_
                refine dF ?_
                try simp only [puts, Tk.put, Act.put, List.setIfInBounds_toArray, List.set_cons_zero, List.set_cons_succ]
                go_wp2_with fail
                go_ret
                rw [hear_yes Hhb1.out Hhb2.out Hhb3.out Hhb4.out Hhb5.out]
                exact ⟨rfl, _, Sep.fin (hM.pick [3, 4] (by decide) rfl) (List.Sublist.refl _)⟩
              · refine rD (some 54) (.slice (some ⟨Y10.heap.size, 0, none⟩) 1 1) (Y10.alloc (.cells (msc m).toArray 34)) (hS.other _) ?_
                replace hS := hS.other (.cells (msc m).toArray 34)
                replace hM := hM.alloc 34 (msc m)
                generalize World.alloc _ _ = Y16 at *
                generalize hNe : Y10.heap.size = N16 at *
                clear hNe
                refine oD 5 4 (cD (some 52) 34 #[.slice pp l.length cp] ((clipMs_any _ ((hM.oka 4 rfl).rsl msc_len)).mono ?_))
                rintro e Y17 ⟨rfl, rfl⟩
                refine And.intro (hS) ?_
                obtain ⟨v18, Y18, hrun, ht⟩ := own_clip1 infoMs rfl (by decide) Tryz.underlying72 msc_len msc_one (hM.oka 4 rfl) m (hM.at 0 rfl) (by decide) (by have h := HLL.out; omega) 72
                obtain ⟨pv18, cv18, rfl⟩ := ht.ok.slice msc_len
                have hM1 := hM.turn 4 rfl ht rfl
                clear ht
                refine oD 8 3 (stepH_append (d := some 55) (t := 72) (t' := 72) (ty := 72) (v := .slice pp l.length l.length) (x := .slice (some ⟨N16, 0, none⟩) 1 1) (by kernel_rfl) hrun (hM1.sub (.cons _ (.cons_cons _ (.cons_cons _ (.cons _ (.cons _ .slnil)))))) ?_)
                replace hS := hM1.sub (.cons _ (.cons_cons _ (.cons_cons _ (.cons _ (.cons _ .slnil)))))
                replace hM := hM1
                clear hM1 hrun
                refine tD 1 [.val 9 (some 56) (pt B 0), .val 10 (some 57) (pt B 1)] trivial hS ?_
                have hst := sto_part (rlc true (.slice pv18 (l ++ [m]).length cv18)) (hM.at 3 rfl) 1 72 (.slice pv18 (l ++ [m]).length cv18) ([.slice pv18 (l ++ [m]).length cv18]) rfl (by kernel_rfl) (Nat.le_of_ble_eq_true rfl) rfl rfl
                have hM1 := hM.set 3 (cs' := rlc true (.slice pv18 (l ++ [m]).length cv18)) rfl rfl
                refine oD 11 0 (sD 72 (pt B 1) (.slice pv18 (l ++ [m]).length cv18) (hst) (hM1.sub (.cons _ (.cons_cons _ (.cons_cons _ (.cons _ (.cons _ .slnil)))))) ?_)
                clear hst
                replace hS := hM1.sub (.cons _ (.cons_cons _ (.cons_cons _ (.cons _ (.cons _ .slnil)))))
                replace hM := hM1
                clear hM1
                generalize World.setRow _ _ _ = Y19 at *
                refine dD ?_
                try simp only [puts, Tk.put, Act.put, List.setIfInBounds_toArray, List.set_cons_zero, List.set_cons_succ]
                clear hS
                go_upto_region 9 with fail
                refine wp_region_fromM (fun W => Sep w (Res.join (RLR B l (.slice pp l.length cp))).foot [.blk N16 34 (msc m), .own msc 34 43 (.slice pv9 (l.filter (isM m)).length cv9) ((l.filter (isM m))), .blk N5 34 (msc m), .blk B 74 (rlc true (.slice pv18 (l ++ [m]).length cv18)), .own msc 34 43 (.slice pv18 (l ++ [m]).length cv18) (l ++ [m])] W) hM ?_
                clear hM
                rintro Y20 hM
                refine tF 1 [.val 0 (some 4) (.bool true)] trivial ?_
                refine dF ?_
                try simp only [puts, Tk.put, Act.put, List.setIfInBounds_toArray, List.set_cons_zero, List.set_cons_succ]
                go_wp2_with fail
                go_ret
                rw [hear_yes Hhb1.out Hhb2.out Hhb3.out Hhb4.out Hhb5.out]
                exact ⟨rfl, _, Sep.fin (hM.pick [3, 4] (by decide) rfl) (List.Sublist.refl _)⟩
            · refine rD (some 54) (.slice (some ⟨Y10.heap.size, 0, none⟩) 1 1) (Y10.alloc (.cells (msc m).toArray 34)) (hS.other _) ?_
              replace hS := hS.other (.cells (msc m).toArray 34)
              replace hM := hM.alloc 34 (msc m)
              generalize World.alloc _ _ = Y21 at *
              generalize hNe : Y10.heap.size = N21 at *
              clear hNe
              refine oD 4 5 (lD (some 51) 72 (pt B 1) (.slice pp l.length cp) (ld_any _ _ Tryz.underlying72 rfl (hM.at 3 rfl) 1 rfl) (hS) ?_)
              refine oD 5 4 (cD (some 52) 34 #[.slice pp l.length cp] ((clipMs_any _ ((hM.oka 4 rfl).rsl msc_len)).mono ?_))
              rintro e Y22 ⟨rfl, rfl⟩
              refine And.intro (hS) ?_
              obtain ⟨v23, Y23, hrun, ht⟩ := own_clip1 infoMs rfl (by decide) Tryz.underlying72 msc_len msc_one (hM.oka 4 rfl) m (hM.at 0 rfl) (by decide) (by have h := HLL.out; omega) 72
              obtain ⟨pv23, cv23, rfl⟩ := ht.ok.slice msc_len
              have hM1 := hM.turn 4 rfl ht rfl
              clear ht
              refine oD 8 3 (stepH_append (d := some 55) (t := 72) (t' := 72) (ty := 72) (v := .slice pp l.length l.length) (x := .slice (some ⟨N21, 0, none⟩) 1 1) (by kernel_rfl) hrun (hM1.sub (.cons _ (.cons_cons _ (.cons_cons _ (.cons _ (.cons _ .slnil)))))) ?_)
              replace hS := hM1.sub (.cons _ (.cons_cons _ (.cons_cons _ (.cons _ (.cons _ .slnil)))))
              replace hM := hM1
              clear hM1 hrun
              refine tD 1 [.val 9 (some 56) (pt B 0), .val 10 (some 57) (pt B 1)] trivial hS ?_
              have hst := sto_part (rlc true (.slice pv23 (l ++ [m]).length cv23)) (hM.at 3 rfl) 1 72 (.slice pv23 (l ++ [m]).length cv23) ([.slice pv23 (l ++ [m]).length cv23]) rfl (by kernel_rfl) (Nat.le_of_ble_eq_true rfl) rfl rfl
              have hM1 := hM.set 3 (cs' := rlc true (.slice pv23 (l ++ [m]).length cv23)) rfl rfl
              refine oD 11 0 (sD 72 (pt B 1) (.slice pv23 (l ++ [m]).length cv23) (hst) (hM1.sub (.cons _ (.cons_cons _ (.cons_cons _ (.cons _ (.cons _ .slnil)))))) ?_)
              clear hst
              replace hS := hM1.sub (.cons _ (.cons_cons _ (.cons_cons _ (.cons _ (.cons _ .slnil)))))
              replace hM := hM1
              clear hM1
              generalize World.setRow _ _ _ = Y24 at *
              refine dD ?_
              try simp only [puts, Tk.put, Act.put, List.setIfInBounds_toArray, List.set_cons_zero, List.set_cons_succ]
              clear hS
              go_upto_region 9 with fail
              refine wp_region_fromM (fun W => Sep w (Res.join (RLR B l (.slice pp l.length cp))).foot [.blk N21 34 (msc m), .own msc 34 43 (.slice pv9 (l.filter (isM m)).length cv9) ((l.filter (isM m))), .blk N5 34 (msc m), .blk B 74 (rlc true (.slice pv23 (l ++ [m]).length cv23)), .own msc 34 43 (.slice pv23 (l ++ [m]).length cv23) (l ++ [m])] W) hM ?_
              clear hM
              rintro Y25 hM
              refine tF 1 [.val 0 (some 4) (.bool true)] trivial ?_
              refine dF ?_
              try simp only [puts, Tk.put, Act.put, List.setIfInBounds_toArray, List.set_cons_zero, List.set_cons_succ]
              go_wp2_with fail
              go_ret
              rw [hear_yes Hhb1.out Hhb2.out Hhb3.out Hhb4.out Hhb5.out]
              exact ⟨rfl, _, Sep.fin (hM.pick [3, 4] (by decide) rfl) (List.Sublist.refl _)⟩
          | true =>
            have Hhb5 := Lib.hid hb5
            clear hb5
            go_upto_region 7 with fail
            refine wp_region_fromM (fun W => Sep w (Res.join (RLR B l (.slice pp l.length cp))).foot [.own msc 34 43 (.slice pv9 (l.filter (isM m)).length cv9) ((l.filter (isM m))), .blk N5 34 (msc m), .blk B 74 (rlc true (.slice pp l.length cp)), .own msc 34 43 (.slice pp l.length cp) (l)] W) hM ?_
            clear hM
            rintro Y26 hM
            refine tF 1 [.val 0 (some 4) (.bool false)] trivial ?_
            refine dF ?_
            try simp only [puts, Tk.put, Act.put, List.setIfInBounds_toArray, List.set_cons_zero, List.set_cons_succ]
            go_wp2_with fail
            go_ret
            rw [hear_has Hhb1.out Hhb2.out Hhb3.out Hhb4.out Hhb5.out]
            exact ⟨rfl, _, Sep.fin (hM.pick [2, 3] (by decide) rfl) (List.Sublist.refl _)⟩
        | true =>
          have Hhb4 := Lib.hid hb4
          clear hb4
          go_upto_region 5 with fail
          refine wp_region_fromM (fun W => Sep w (Res.join (RLR B l (.slice pp l.length cp))).foot [.blk N5 34 (msc m), .blk B 74 (rlc true (.slice pp l.length cp)), .own msc 34 43 (.slice pp l.length cp) (l)] W) hM ?_
          clear hM
          rintro Y27 hM
          refine tF 1 [.val 0 (some 4) (.bool false)] trivial ?_
          refine dF ?_
          try simp only [puts, Tk.put, Act.put, List.setIfInBounds_toArray, List.set_cons_zero, List.set_cons_succ]
          go_wp2_with fail
          go_ret
          rw [hear_fee Hhb1.out Hhb2.out Hhb3.out Hhb4.out]
          exact ⟨rfl, _, Sep.fin (hM.pick [1, 2] (by decide) rfl) (List.Sublist.refl _)⟩
      | true =>
        have Hhb3 := Lib.hid hb3
        clear hb3
        refine tF 13 [.skip 8 (some 37), .skip 9 (some 38), .skip 10 (some 39), .skip 11 (some 40), .val 12 (some 41) (.bool true)] trivial ?_
        refine dF ?_
        try simp only [puts, Tk.put, Act.put, List.setIfInBounds_toArray, List.set_cons_zero, List.set_cons_succ]
        go_upto_region 5 with fail
        refine wp_region_fromM (fun W => Sep w (Res.join (RLR B l (.slice pp l.length cp))).foot [.blk N5 34 (msc m), .blk B 74 (rlc true (.slice pp l.length cp)), .own msc 34 43 (.slice pp l.length cp) (l)] W) hM ?_
        clear hM
        rintro Y28 hM
        refine tF 1 [.val 0 (some 4) (.bool false)] trivial ?_
        refine dF ?_
        try simp only [puts, Tk.put, Act.put, List.setIfInBounds_toArray, List.set_cons_zero, List.set_cons_succ]
        go_wp2_with fail
        go_ret
        rw [hear_kd Hhb1.out Hhb2.out Hhb3.out]
        exact ⟨rfl, _, Sep.fin (hM.pick [1, 2] (by decide) rfl) (List.Sublist.refl _)⟩
    | true =>
      have Hhb2 := Lib.hid hb2
      clear hb2
      refine tF 13 [.skip 3 (some 32), .skip 4 (some 33), .skip 5 (some 34), .val 6 (some 35) (.bool true), .val 7 (some 36) (.bool true), .skip 8 (some 37), .skip 9 (some 38), .skip 10 (some 39), .skip 11 (some 40), .val 12 (some 41) (.bool true)] trivial ?_
      refine dF ?_
      try simp only [puts, Tk.put, Act.put, List.setIfInBounds_toArray, List.set_cons_zero, List.set_cons_succ]
      go_upto_region 5 with fail
      refine wp_region_fromM (fun W => Sep w (Res.join (RLR B l (.slice pp l.length cp))).foot [.blk N5 34 (msc m), .blk B 74 (rlc true (.slice pp l.length cp)), .own msc 34 43 (.slice pp l.length cp) (l)] W) hM ?_
      clear hM
      rintro Y29 hM
      refine tF 1 [.val 0 (some 4) (.bool false)] trivial ?_
      refine dF ?_
      try simp only [puts, Tk.put, Act.put, List.setIfInBounds_toArray, List.set_cons_zero, List.set_cons_succ]
      go_wp2_with fail
      go_ret
      rw [hear_err Hhb1.out Hhb2.out]
      exact ⟨rfl, _, Sep.fin (hM.pick [1, 2] (by decide) rfl) (List.Sublist.refl _)⟩
  | true =>
    have Hhb1 := Lib.hid hb1
    clear hb1
    go_upto_region 2 with fail
    refine wp_region_fromM (fun W => Sep w (Res.join (RLR B l (.slice pp l.length cp))).foot [.blk B 74 (rlc true (.slice pp l.length cp)), .own msc 34 43 (.slice pp l.length cp) (l)] W) hM ?_
    clear hM
    rintro Y30 hM
    refine tF 1 [.val 0 (some 4) (.bool false)] trivial ?_
    refine dF ?_
    try simp only [puts, Tk.put, Act.put, List.setIfInBounds_toArray, List.set_cons_zero, List.set_cons_succ]
    go_wp2_with fail
    go_ret
    rw [hear_full Hhb1.out]
    exact ⟨rfl, _, Sep.fin (hM.pick [0, 1] (by decide) rfl) (List.Sublist.refl _)⟩
set_option maxRecDepth 100000 in
set_option maxHeartbeats 4000000 in
theorem rlCount_any {B cp : Nat} {p : Option Addr} {l : List Ms} (w : World) (hb0 : Blk w B 74 (rlc true (.slice p l.length cp))) : Calls Tryz.prog 10 #[.pointer (some ⟨B, 0, none⟩)] w fun e W' => e = .returned (.int .i64 (l.length : Int)) ∧ Below w.heap.size w W' := by
  have hmx : Tryz.prog.follows .mixedOrders = true := by kernel_rfl
  have HB := Lib.hid hb0
  clear hb0
  have hM := Sep.start w
  go_enter Tryz.func10, Tryz.ntmps10
  go_upto_region 0 with fail
  refine wp_region_fromM (fun W => Sep w [] [] W) hM ?_
  clear hM
  rintro Y1 hM
  refine tF 1 [.val 0 (some 2) (.int .i64 0)] trivial ?_
  refine dF ?_
  try simp only [puts, Tk.put, Act.put, List.setIfInBounds_toArray, List.set_cons_zero, List.set_cons_succ]
  go_upto_region 1 with fail
  refine wp_region_fromM (fun W => Sep w [] [] W) hM ?_
  clear hM
  rintro Y2 hM
  refine tF 2 [.val 0 (some 3) (pt B 0), .val 1 (some 4) (.bool false)] trivial ?_
  refine dF ?_
  try simp only [puts, Tk.put, Act.put, List.setIfInBounds_toArray, List.set_cons_zero, List.set_cons_succ]
  go_upto_region 3 with fail
  refine wp_region_fromM (fun W => Sep w [] [] W) hM ?_
  clear hM
  rintro Y3 hM
  refine tF 6 [.val 0 (some 5) (pt B 0), .val 1 (some 6) (pt B 0), .val 2 (some 7) (pt B 1), .load 3 (some 8) 72 (pt B 1) (.slice p l.length cp), .val 4 (some 9) (.int .i64 (l.length : Int)), .val 5 (some 2) (.int .i64 (l.length : Int))] ⟨ld_any _ _ Tryz.underlying72 rfl (HB.out.below hM.b HB.out.lt) 1 rfl, trivial⟩ ?_
  refine dF ?_
  try simp only [puts, Tk.put, Act.put, List.setIfInBounds_toArray, List.set_cons_zero, List.set_cons_succ]
  go_wp2_with fail
  go_ret
  exact ⟨rfl, hM.b⟩
set_option maxRecDepth 100000 in
set_option maxHeartbeats 4000000 in
theorem rlHear_no (sv : Value) (w : World) : Calls Tryz.prog 9 #[.pointer none, sv] w fun e W' => e = .returned (.bool false) ∧ Below w.heap.size w W' := by
  have hmx : Tryz.prog.follows .mixedOrders = true := by kernel_rfl
  have hM := Sep.start w
  go_enter Tryz.func9, Tryz.ntmps9
  go_upto_region 0 with fail
  refine wp_region_fromM (fun W => Sep w [] [] W) hM ?_
  clear hM
  rintro Y1 hM
  refine tF 1 [.val 0 (some 4) (.bool false)] trivial ?_
  refine dF ?_
  try simp only [puts, Tk.put, Act.put, List.setIfInBounds_toArray, List.set_cons_zero, List.set_cons_succ]
  go_upto_region 1 with fail
  refine wp_region_fromM (fun W => Sep w [] [] W) hM ?_
  clear hM
  rintro Y2 hM
  refine tF 14 [.val 0 (some 7) (.pointer none), .val 1 (some 8) (.bool true), .val 2 (some 9) (.bool true), .skip 3 (some 10), .skip 4 (some 11), .skip 5 (some 12), .skip 6 (some 13), .skip 7 (some 14), .val 8 (some 15) (.bool true), .val 9 (some 16) (.bool true), .skip 10 (some 17), .skip 11 (some 18), .skip 12 (some 19), .skip 13 (some 20)] trivial ?_
  refine wpFrom_not (d := some 21) (by kernel_rfl) ?_
  refine tF 17 [.skip 15 (some 22), .val 16 (some 23) (.bool true)] trivial ?_
  refine dF ?_
  try simp only [puts, Tk.put, Act.put, List.setIfInBounds_toArray, List.set_cons_zero, List.set_cons_succ]
  go_upto_region 2 with fail
  refine wp_region_fromM (fun W => Sep w [] [] W) hM ?_
  clear hM
  rintro Y3 hM
  refine tF 1 [.val 0 (some 4) (.bool false)] trivial ?_
  refine dF ?_
  try simp only [puts, Tk.put, Act.put, List.setIfInBounds_toArray, List.set_cons_zero, List.set_cons_succ]
  go_wp2_with fail
  go_ret
  exact ⟨rfl, hM.b⟩
set_option maxRecDepth 100000 in
set_option maxHeartbeats 4000000 in
theorem rlCount_no (w : World) : Calls Tryz.prog 10 #[.pointer none] w fun e W' => e = .returned (.int .i64 0) ∧ Below w.heap.size w W' := by
  have hmx : Tryz.prog.follows .mixedOrders = true := by kernel_rfl
  have hM := Sep.start w
  go_enter Tryz.func10, Tryz.ntmps10
  go_upto_region 0 with fail
  refine wp_region_fromM (fun W => Sep w [] [] W) hM ?_
  clear hM
  rintro Y1 hM
  refine tF 1 [.val 0 (some 2) (.int .i64 0)] trivial ?_
  refine dF ?_
  try simp only [puts, Tk.put, Act.put, List.setIfInBounds_toArray, List.set_cons_zero, List.set_cons_succ]
  go_upto_region 1 with fail
  refine wp_region_fromM (fun W => Sep w [] [] W) hM ?_
  clear hM
  rintro Y2 hM
  refine tF 2 [.val 0 (some 3) (.pointer none), .val 1 (some 4) (.bool true)] trivial ?_
  refine dF ?_
  try simp only [puts, Tk.put, Act.put, List.setIfInBounds_toArray, List.set_cons_zero, List.set_cons_succ]
  go_upto_region 2 with fail
  refine wp_region_fromM (fun W => Sep w [] [] W) hM ?_
  clear hM
  rintro Y3 hM
  refine tF 1 [.val 0 (some 2) (.int .i64 0)] trivial ?_
  refine dF ?_
  try simp only [puts, Tk.put, Act.put, List.setIfInBounds_toArray, List.set_cons_zero, List.set_cons_succ]
  go_wp2_with fail
  go_ret
  exact ⟨rfl, hM.b⟩
set_option maxRecDepth 100000 in
set_option maxHeartbeats 4000000 in
theorem rlAll_no (f : Value) (w : World) : Calls Tryz.prog 32 #[.pointer none, f] w fun e W' => e = .returned (.slice none 0 0) ∧ Below w.heap.size w W' := by
  have hmx : Tryz.prog.follows .mixedOrders = true := by kernel_rfl
  have hM := Sep.start w
  go_enter Tryz.func32, Tryz.ntmps32
  go_upto_region 0 with fail
  refine wp_region_fromM (fun W => Sep w [] [] W) hM ?_
  clear hM
  rintro Y1 hM
  refine tF 1 [.val 0 (some 4) (.slice none 0 0)] trivial ?_
  refine dF ?_
  try simp only [puts, Tk.put, Act.put, List.setIfInBounds_toArray, List.set_cons_zero, List.set_cons_succ]
  go_upto_region 1 with fail
  refine wp_region_fromM (fun W => Sep w [] [] W) hM ?_
  clear hM
  rintro Y2 hM
  refine tF 2 [.val 0 (some 8) (.pointer none), .val 1 (some 9) (.bool true)] trivial ?_
  refine dF ?_
  try simp only [puts, Tk.put, Act.put, List.setIfInBounds_toArray, List.set_cons_zero, List.set_cons_succ]
  go_upto_region 2 with fail
  refine wp_region_fromM (fun W => Sep w [] [] W) hM ?_
  clear hM
  rintro Y3 hM
  refine tF 1 [.val 0 (some 4) (.slice none 0 0)] trivial ?_
  refine dF ?_
  try simp only [puts, Tk.put, Act.put, List.setIfInBounds_toArray, List.set_cons_zero, List.set_cons_succ]
  go_wp2_with fail
  go_ret
  exact ⟨rfl, hM.b⟩
end Go.Proofs.YtechcdkakgpnkaaGreat
