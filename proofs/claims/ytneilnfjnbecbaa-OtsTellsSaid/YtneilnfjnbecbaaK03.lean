/-
  slices.Grow of the nil slice; slices.Concat of octets.
  hash.Pad: a text, the end's mark, zeros, its length in bits.
  What octets come to, the highest first; the words of 32 octets.
  The reference's Num and Int.
  The reference's Cat and Pad.
  Words of 32 bits: rotations to the right.
-/
import Derived.Lib.AppendZeros
import Derived.Outline
import Derived.OwnWalkIn
import Derived.IntWalk
import Derived.Laws.BitsLemmas
import Derived.Laws.OwnMore
import Derived.WalkKit
import Derived.Lib.Hide
import Derived.Test.YtneilnfjnbecbaaProg
import Derived.Test.YtneilnfjnbecbaaK02
namespace Go.Proofs.Ytneilnfjnbecbaa
open Go.RowKit Go.Shelf

/-- None of a row with room. -/
def NoneW (w : World) (e : Ending) (W' : World) : Prop := ∃ v, e = .returned v ∧ W'.ownsRow w.heap.size 5 1 v 0 [] ∧ Below w.heap.size w W'

set_option maxRecDepth 100000 in
set_option maxHeartbeats 1000000 in
theorem grow_any (n : Nat) (hn : n ≤ 140737488355328) (w : World) : Calls Try.prog 74 #[.slice none 0 0, .int .i64 (n : Int)] w (NoneW w) := by
  obtain ⟨i0, hi, hz0, hz1, hz2⟩ := info_parts Try.infoByte
  have hn' : (n : Int) ≤ 140737488355328 := by omega
  by_cases h0 : n = 0
  · subst h0
    go_enter Try.func74, Try.ntmps74
    go_wp2
    go_ret
    exact ⟨_, rfl, World.ownsRow_nil _ _ _ _, Below.refl _ _⟩
  · have h1 : 0 < n := by omega
    have h2 : 0 < (n : Int) := by omega
    have hr := Lib.run_append_nil_zeros (P := Try.prog) w 22 3 22 5 i0 (.int .u8 0) .i64 .i64 Try.underlying22 Try.underlying3 hi hz0 n h1 (by omega) (by omega) (by rw [hz2]; omega)
    have hg : n ≤ grownCap w n 0 5 ∧ grownCap w n 0 5 ≤ maxLen := ⟨grownCap_ge _ _ _ _, grownCap_le_maxLen _ _ _ _ (by unfold maxLen; omega)⟩
    obtain ⟨hg1, hg2⟩ := hg
    generalize grownCap w n 0 5 = c at *
    go_enter Try.func74, Try.ntmps74
    go_wp2_with (at_builtin; refine Lib.wpList_append_run w rfl _ _ 22 3 rfl _ _ rfl rfl _ _ hr ?_)
    go_ret
    have hz : ∀ n, (Builtin.zeroCells #[Value.int .u8 0] n).size = n := fun n => by simp [Builtin.zeroCells]
    refine ⟨_, rfl, ⟨rfl, .inr ⟨w.heap.size, c, _, rfl, Nat.le_refl _, World.alloc_heap_new _ _, by omega, hg2, by rw [Array.size_append, hz, hz]; omega, by simp⟩⟩, ?_⟩
    exact ((Below.refl _ w).drew).alloc (by simp) _

set_option maxRecDepth 100000 in
set_option maxHeartbeats 4000000 in
theorem concat_any {o : Nat} (sv : Value) (w : World) (zs : List (SX o w.heap.size w)) (hreach : zs.length ≤ 140737488351232) (ho : (flat zs).length ≤ 140737488355328) (hsv : SSl w.heap.size w sv zs) :
    Calls Try.prog 62 #[sv] w (ByO (flat zs) w) := by
  obtain ⟨i0, hi, hz0, hz1, hz2⟩ := info_parts Try.infoByte
  obtain ⟨a, cap, rfl, hcs⟩ := hsv
  have hc : zs = [] ∨ ∃ b off, a = some ⟨b, off, none⟩ ∧ b < w.heap.size ∧ SRow w b off zs := hcs
  clear hcs
  have hfl : ∀ k, (flat (zs.take k)).length ≤ 140737488355328 := fun k => by
    have := flat_prefix zs k
    omega
  have HF := Lib.hid hfl
  clear hfl
  have hrow : ∀ k x, zs[k]? = some x → ∃ b off, a = some ⟨b, off, none⟩ ∧ b < w.heap.size ∧ w.cell? ⟨b, off + k, none⟩ = some x.1.1 := fun k x hx => by
    rcases hc with rfl | ⟨b, off, ha, hb, hr⟩
    · simp at hx
    · exact ⟨b, off, ha, hb, hr k x hx⟩
  have HR := Lib.hid hrow
  clear hrow hc
  go_enter Try.func62, Try.ntmps62
  go_wp2
  go_loop [3, 11] (fun s i => ∃ k : Nat, k ≤ zs.length ∧ i = .int .i64 k ∧ s = .int .i64 ((flat (zs.take k)).length : Nat)) (fun _ i => zs.length - (intOf i).toNat)
  case atStart => exact ⟨0, by omega, rfl, by simp [flat]⟩
  case round =>
    obtain ⟨k, hk, rfl, rfl⟩ := hrel
    by_cases hlt : k < zs.length
    · obtain ⟨x, hx⟩ : ∃ x, zs[k]? = some x := ⟨_, List.getElem?_eq_getElem hlt⟩
      obtain ⟨b, off, rfl, hb, c0⟩ := HR.out k x hx
      obtain ⟨⟨xa, xc, hxe, _⟩, _⟩ := x.2
      rw [hxe] at c0
      have HS := Lib.hid (flat_take zs hx)
      have h1 := HF.out k
      have h2 := HF.out (k + 1)
      rw [HS.out, List.length_append] at h2
      have hk0 : (k : Int) < (zs.length : Int) := by omega
      clear hxe hx
      have HL : Hid ((flat (zs.take (k + 1))).length = (flat (zs.take k)).length + x.1.2.length) := Lib.hid (by rw [HS.out, List.length_append])
      generalize hq : (flat (zs.take k)).length = q at *
      generalize x.1.2.length = xl at *
      generalize hLn : zs.length = len at *
      have HLn := Lib.hid hLn
      have HQ := Lib.hid hq
      clear hLn hq
      have h2' : (q : Int) + (xl : Int) ≤ 140737488355328 := by omega
      go_wp2
      exact ⟨⟨k + 1, by omega, by simp, by rw [HL.out]; simp⟩, by simp [intOf]; omega⟩
    · obtain rfl : k = zs.length := by omega
      have hall : zs.take zs.length = zs := List.take_length
      have hq := HF.out zs.length
      rw [hall] at hq ⊢
      clear hlt hk hall
      go_wp2_with (go_at_call 74; refine (grow_any _ hq _).mono ?_; rintro e w1 ⟨v, rfl, hown, hb1⟩)
      go_loopw [6, 27] (fun v i wr => ∃ k : Nat, k ≤ zs.length ∧ i = .int .i64 k ∧ wr.ownsRow w.heap.size 5 1 v (flat (zs.take k)).length ((flat (zs.take k)).map bv) ∧ Below w.heap.size w wr) (fun _ i _ => zs.length - (intOf i).toNat)
      case atStart => exact ⟨0, by omega, rfl, hown, hb1⟩
      case round =>
        obtain ⟨k, hk, rfl, hown, hB⟩ := hrel
        by_cases hlt : k < zs.length
        · obtain ⟨x, hx⟩ : ∃ x, zs[k]? = some x := ⟨_, List.getElem?_eq_getElem hlt⟩
          obtain ⟨b, off, rfl, hb, c0⟩ := HR.out k x hx
          replace c0 := (hB.cell (p := ⟨b, off + k, none⟩) hb).trans c0
          have hxs := x.2.1.below hB (Nat.le_refl _)
          have hxs' := hxs
          obtain ⟨xa, xc, hxe, _⟩ := hxs
          rw [hxe] at c0 hxs'
          have HS := Lib.hid (flat_take zs hx)
          have h2 := HF.out (k + 1)
          rw [HS.out, List.length_append] at h2
          have hk0 : (k : Int) < (zs.length : Int) := by omega
          have hNW : w.heap.size ≤ wr.heap.size := hB.size
          clear hxe hx hq
          have HL : Hid ((flat (zs.take (k + 1))).length = (flat (zs.take k)).length + x.1.2.length) := Lib.hid (by rw [HS.out, List.length_append])
          go_wp2_with (at_builtin; refine wpList_append_b _ rfl _ _ 22 rfl w.heap.size 5 i0 (.int .u8 0) Try.underlying22 hi hz0 hz1 hz2 rfl _ (flat (zs.take k)).length ((flat (zs.take k)).map bv) rfl hown _ x.1.2 rfl hxs' h2 hNW ?_; intro v' w1 hown' hgrow)
          refine ⟨⟨k + 1, by omega, by simp, ?_, hB.grown hgrow hNW (fun j hj => (World.ownsRow.lt hown j hj).1)⟩, by simp [intOf]; omega⟩
          rw [HS.out, List.map_append, List.length_append]
          exact hown'
        · obtain rfl : k = zs.length := by omega
          rw [List.take_length] at hown
          go_wp2
          go_ret
          exact ⟨_, rfl, hown, hB⟩
end Go.Proofs.Ytneilnfjnbecbaa

namespace Go.Proofs.Ytneilnfjnbecbaa
open Go.RowKit Go.Shelf

/-- What a text is made of, up to a multiple of 64. -/
def padL (l : List UInt8) : List UInt8 := l ++ [128] ++ List.replicate (63 - (l.length + 8) % 64) 0 ++ octs (two (l.length * 8 : Nat)) 8
theorem padL_length (l : List UInt8) : (padL l).length = l.length + 72 - (l.length + 8) % 64 := by
  unfold padL
  simp [octs_length]
  omega

theorem own_base4 {W : World} {base base' : Nat} {e : TypeId} {size k : Nat} {v : Value} {xs : List Value} (h : W.ownsRow base e size v k xs) (hb : base' ≤ base) : W.ownsRow base' e size v k xs := by
  obtain ⟨h1, h2⟩ := h
  refine ⟨h1, ?_⟩
  rcases h2 with h2 | ⟨g, cap, cur, rfl, hg, r⟩
  · exact .inl h2
  · exact .inr ⟨g, cap, cur, rfl, Nat.le_trans hb hg, r⟩

set_option maxRecDepth 100000 in
set_option maxHeartbeats 2000000 in
theorem pad_any (l : List UInt8) (sv : Value) (w : World) (hreach : l.length ≤ 140737488353000) (hsv : BSl 0 w.heap.size w sv l) :
    Calls Try.prog 43 #[sv] w (ByO (padL l) w) := by
  obtain ⟨i0, hi, hz0, hz1, hz2⟩ := info_parts Try.infoByte
  have hsv0 := hsv
  obtain ⟨a, cap, rfl, hcap, hcs⟩ := hsv
  clear hcs
  have hz : (63 : Int) - ((l.length : Int) + 8) % 64 = ((63 - (l.length + 8) % 64 : Nat) : Int) := by omega
  have h8 : (l.length : Int) * 8 = ((l.length * 8 : Nat) : Int) := by omega
  have hP : Hid (padL l = l ++ [128] ++ List.replicate (63 - (l.length + 8) % 64) 0 ++ octs (two (l.length * 8 : Nat)) 8) := Lib.hid rfl
  have hzn : 63 - (l.length + 8) % 64 ≤ 63 := by omega
  generalize hZ : 63 - (l.length + 8) % 64 = z at *
  generalize hE : l.length * 8 = e8 at *
  have he8 : (e8 : Int) ≤ 1125899906824000 := by omega
  have hl' : (l.length : Int) ≤ 140737488353000 := by omega
  clear hZ hE
  go_enter Try.func43, Try.ntmps43
  go_wp2_with fail
  clear hz h8
  refine (num_any e8 8 (by omega) (by omega) _).mono ?_
  rintro e w1 ⟨s4, rfl, hs4, hb1⟩
  rw [show clamp 8 = 8 from rfl] at hs4
  obtain ⟨a4, c4, rfl, hc4, _⟩ := id hs4
  generalize hO : octs (two e8) 8 = o8 at *
  have ho8 : o8.length = 8 := by rw [← hO]; exact octs_length _ _
  clear hO
  rw [ho8] at hs4
  have HO := Lib.hid ho8
  rw [ho8]
  clear ho8
  go_wp2_with (at_make; refine wpList_make_full _ rfl _ _ 22 rfl (w1.heap.size + 1) 5 i0 (.int .u8 0) 1 Try.underlying22 hi hz0 hz1 .i64 .i64 _ _ z rfl rfl rfl rfl (by rw [hz2]; omega) (by unfold maxLen; omega) (by simp) ?_; intro w2 hown hgrow)
  have hz1a : (w1.alloc (.cells #[.int .u8 128] 5)).heap.size = w1.heap.size + 1 := by simp
  have hB1 : Below (w1.heap.size + 1) (w1.alloc (.cells #[.int .u8 128] 5)) w2 := (Below.refl _ _).grown hgrow (by rw [hz1a]; exact Nat.le_refl _) (fun k e => by cases e)
  have hw2 : w1.heap.size + 1 ≤ w2.heap.size := by rw [← hz1a]; exact hB1.size
  have hw1 : w.heap.size ≤ w1.heap.size := hb1.size
  rw [hz1a] at hown
  have hown' : w2.ownsRow (w1.heap.size + 1) 5 1 (.slice (some ⟨w1.heap.size + 1, 0, none⟩) z z) (List.replicate z (0 : UInt8)).length ((List.replicate z (0 : UInt8)).map bv) := by
    have e : (madeCells (Value.int .u8 0).cells (z * 1)).toList = (List.replicate z (0 : UInt8)).map bv := by
      rw [Nat.mul_one]
      refine (toList_madeCells_one (.int .u8 0) z).trans ?_
      simp
    rw [← e, List.length_replicate]; exact hown
  clear hown
  have h8 : BSl 0 w2.heap.size w2 (.slice (some ⟨w1.heap.size, 0, none⟩) 1 1) [128] := ⟨_, 1, rfl, Nat.le_refl _, .inr ⟨_, 0, rfl, Nat.zero_le _, by omega, fun k x hx => by
    have hk : k = 0 := by have := (List.getElem?_eq_some_iff.1 hx).1; simp at this; omega
    subst hk
    have hc := (Blk.new' (t := 5) (vs := [.int .u8 128]) (rfl : w1.heap.size = w1.heap.size)).cell 0
    refine (hB1.cell (p := ⟨w1.heap.size, 0 + 0, none⟩) (by simp)).trans (hc.trans ?_)
    simp at hx
    subst hx
    rfl⟩⟩
  have hbs : Below w1.heap.size w1 w2 := (chain0 w1 (.cells #[.int .u8 128] 5)).trans (hB1.mono (by omega))
  have hbw : Below w.heap.size w w2 := chain hb1 hbs
  have hL0 := (hsv0.below hbw (Nat.le_refl _)).mono (Nat.le_refl _) hbw.size
  have hL4 := (hs4.below hbs (Nat.le_refl _)).mono (Nat.zero_le _) hbs.size
  have hLz := (BSl.of_own hown').mono (Nat.zero_le _) (Nat.le_refl _)
  generalize hW3 : World.alloc _ _ = W3
  have kB : Blk W3 w2.heap.size 22 [.slice a l.length cap, .slice (some ⟨w1.heap.size, 0, none⟩) 1 1, .slice (some ⟨w1.heap.size + 1, 0, none⟩) z z, .slice a4 8 c4] := by rw [← hW3]; exact Blk.new' rfl
  have hb3 : Below w2.heap.size w2 W3 := by rw [← hW3]; exact chain0 _ _
  clear hW3
  have hle3 := hb3.size
  have up : ∀ {sv : Value} {l : List UInt8}, BSl 0 w2.heap.size w2 sv l → BSl 0 W3.heap.size W3 sv l := fun h => (h.below hb3 (Nat.le_refl _)).mono (Nat.le_refl _) hle3
  have hHO := HO.out
  let zs : List (SX (l.length + 72) W3.heap.size W3) := [⟨(_, l), up hL0, by dsimp only; omega⟩, ⟨(_, [128]), up h8, by simp⟩, ⟨(_, List.replicate z 0), up hLz, by simp; omega⟩, ⟨(_, o8), up hL4, by dsimp only; omega⟩]
  have hfl : flat zs = l ++ [128] ++ List.replicate z 0 ++ o8 := by simp [zs, flat]
  refine (concat_any (.slice (some ⟨w2.heap.size, 0, none⟩) 4 4) W3 zs (by simp [zs]) (by rw [hfl]; simp [hHO]; omega) ⟨_, 4, rfl, .inr ⟨_, 0, rfl, kB.lt, fun k x hx => ?_⟩⟩).mono ?_
  · rw [Nat.zero_add, kB.cell k]
    have hk : k < 4 := (List.getElem?_eq_some_iff.1 hx).1
    have : k = 0 ∨ k = 1 ∨ k = 2 ∨ k = 3 := by omega
    rcases this with rfl | rfl | rfl | rfl <;> (cases hx; rfl)
  · rintro e w4 ⟨sv, rfl, hown4, hb4⟩
    rw [hfl, ← hP.out] at hown4
    go_wp2
    go_ret
    exact ⟨sv, rfl, own_base4 hown4 (by omega), (chain hbw hb3).trans (hb4.mono (by omega))⟩
end Go.Proofs.Ytneilnfjnbecbaa

namespace Go.Proofs.Ytneilnfjnbecbaa
open Go.RowKit

theorem wr_u64 (n : Int) (h₀ : 0 ≤ n) (h₁ : n < 2 ^ 64) : IntKind.u64.wrap n = n := by rw [IntKind.wrap_u64]; omega
theorem wr_i64 (n : Int) (h₀ : 0 ≤ n) (h₁ : n < 2 ^ 63) : IntKind.i64.wrap n = n := by rw [IntKind.wrap_i64]; omega
/-- What octets come to. -/
def be (l : List UInt8) : Nat := l.foldl (fun n x => n * 256 + x.toNat) 0
theorem be_snoc (l : List UInt8) (x : UInt8) : be (l ++ [x]) = be l * 256 + x.toNat := by simp [be]
theorem be_lt (l : List UInt8) : be l < 256 ^ l.length := by
  rw [← List.reverse_reverse l]
  generalize l.reverse = r
  induction r with
  | nil => decide
  | cons x r ih =>
    rw [List.reverse_cons, be_snoc, List.length_append, List.length_singleton, Nat.pow_succ]
    have := x.toNat_lt
    omega
theorem be_lt' {l : List UInt8} {k : Nat} (h : l.length ≤ k) : be l < 256 ^ k := Nat.lt_of_lt_of_le (be_lt l) (Nat.pow_le_pow_right (by omega) h)
theorem octs_snoc (n s : Nat) : octs n (s + 1) = octs (n / 256) s ++ [oct n 0] := by
  induction s with
  | zero => rfl
  | succ s ih =>
    rw [octs, ih]
    show _ = oct (n / 256) s :: octs (n / 256) s ++ [oct n 0]
    have : oct n (s + 1) = oct (n / 256) s := by
      unfold oct
      rw [show (s + 1) * 8 = 8 + s * 8 by omega, Nat.pow_add, ← Nat.div_div_eq_div_mul]
    rw [this]
    rfl
theorem be_octs (n s : Nat) : be (octs n s) = n % 256 ^ s := by
  induction s generalizing n with
  | zero => simp [octs, be, Nat.mod_one]
  | succ s ih =>
    rw [octs_snoc, be_snoc, ih, Nat.pow_succ]
    unfold oct
    rw [UInt8.toNat_ofNat', show n / 2 ^ (0 * 8) = n by simp, Nat.mul_comm (256 ^ s) 256, Nat.mod_mul]
    omega

theorem or_byte {a x : Nat} (ha : a ≤ 72057594037927935) (hx : x < 256) : bits .or .u64 ((a : Int) * 256) (x : Int) = ((a * 256 + x : Nat) : Int) := by
  have e := (Go.bits_nat .u64 64 (by decide) (fun n h0 h1 => wr_u64 n h0 h1) (a * 256) x (by simp; omega) (by simp; omega)).2
  have h : a * 256 ||| x = a * 256 + x := by
    have := Nat.shiftLeft_add_eq_or_of_lt (show x < 2 ^ 8 by simpa using hx) a
    rw [Nat.shiftLeft_eq] at this
    exact this.symm
  rw [h] at e
  rw [← e]
  simp
theorem or_byte64 {a x : Nat} (ha : a ≤ 36028797018963967) (hx : x < 256) : bits .or .i64 ((a : Int) * 256) (x : Int) = ((a * 256 + x : Nat) : Int) := by
  have e := (Go.bits_nat .i64 63 (by decide) (fun n h0 h1 => wr_i64 n h0 h1) (a * 256) x (by simp; omega) (by simp; omega)).2
  have h : a * 256 ||| x = a * 256 + x := by
    have := Nat.shiftLeft_add_eq_or_of_lt (show x < 2 ^ 8 by simpa using hx) a
    rw [Nat.shiftLeft_eq] at this
    exact this.symm
  rw [h] at e
  rw [← e]
  simp

/-- Of the first k octets: what those of word q come to. -/
def uwd (l : List UInt8) (k q : Nat) : Nat := be (((l.take k).drop (8 * (3 - q))).take 8)
theorem uwd_zero (l : List UInt8) : ws (uwd l 0) = ws fun _ => 0 := by simp [ws, uwd, be]
theorem uwd_step {l : List UInt8} {k : Nat} {x : UInt8} (hx : l[k]? = some x) (hk : k < 32) : ws (uwd l (k + 1)) = ws (upd (uwd l k) (3 - k / 8) (uwd l k (3 - k / 8) * 256 + x.toNat)) := by
  have hkl : k < l.length := (List.getElem?_eq_some_iff.1 hx).1
  have key : ∀ q, q < 4 → uwd l (k + 1) q = upd (uwd l k) (3 - k / 8) (uwd l k (3 - k / 8) * 256 + x.toNat) q := fun q hq => by
    have e1 : l.take (k + 1) = l.take k ++ [x] := by rw [List.take_add_one, hx]; rfl
    have hl : (l.take k).length = k := by simp; omega
    unfold upd
    by_cases h : q = 3 - k / 8
    · subst h
      rw [if_pos rfl]
      unfold uwd
      rw [e1, ← be_snoc]
      have e2 : (3 - (3 - k / 8)) = k / 8 := by omega
      rw [e2, List.drop_append_of_le_length (by rw [hl]; omega), List.take_of_length_le (l := (l.take k).drop (8 * (k / 8)) ++ [x]) (by simp; omega), List.take_of_length_le (l := (l.take k).drop (8 * (k / 8))) (by simp; omega)]
    · rw [if_neg h]
      unfold uwd
      rw [e1]
      by_cases h' : k < 8 * (3 - q)
      · rw [List.drop_of_length_le (by simp; omega), List.drop_of_length_le (by rw [hl]; omega)]
      · rw [List.drop_append_of_le_length (by rw [hl]; omega), List.take_append_of_le_length (by rw [List.length_drop, hl]; omega)]
  unfold ws
  rw [key 0 (by omega), key 1 (by omega), key 2 (by omega), key 3 (by omega)]
theorem uwd_lt {l : List UInt8} {k : Nat} (hk : k < 32) : uwd l k (3 - k / 8) ≤ 72057594037927935 := by
  have : (((l.take k).drop (8 * (3 - (3 - k / 8)))).take 8).length ≤ 7 := by
    simp
    omega
  have := be_lt' this
  unfold uwd
  omega
/-- An octet with its place: below 32. -/
abbrev PX := { p : UInt8 × Nat // p.2 < 32 }
abbrev pxEnc (p : PX) : Array Value := #[.int .i64 (p.1.2 : Int), bv p.1.1]
/-- One round: the word takes the octet. -/
def unS (s : Nat → Nat) (p : PX) : Nat → Nat := upd s (3 - p.1.2 / 8) (s (3 - p.1.2 / 8) * 256 % M ||| p.1.1.toNat)
def unF (pre : List PX) : Nat → Nat := pre.foldl unS fun _ => 0
theorem unF_snoc (pre : List PX) (p : PX) : unF (pre ++ [p]) = unS (unF pre) p := by simp [unF]
theorem unS_lt {s : Nat → Nat} (h : ∀ q, s q < M) (p : PX) (q : Nat) : unS s p q < M := by
  unfold unS upd
  split
  · have h1 : s (3 - p.1.2 / 8) * 256 % M < 2 ^ 64 := by unfold M; omega
    have h2 : p.1.1.toNat < 2 ^ 64 := by have := p.1.1.toNat_lt; omega
    have := Nat.or_lt_two_pow h1 h2
    rw [show (2 : Nat) ^ 64 = M from by unfold M; decide] at this
    exact this
  · exact h q
theorem unF_lt (pre : List PX) (q : Nat) : unF pre q < M := by
  rw [← List.reverse_reverse pre]
  generalize pre.reverse = r
  induction r generalizing q with
  | nil => exact M_pos
  | cons x r ih => rw [List.reverse_cons, unF_snoc]; exact unS_lt ih x q
theorem or_wrap {a x : Nat} (hx : x < 256) : bits .or .u64 (IntKind.u64.wrap ((a : Int) * 256)) (x : Int) = ((a * 256 % M ||| x : Nat) : Int) := by
  have e := (Go.bits_nat .u64 64 (by decide) (fun n h0 h1 => wr_u64 n h0 h1) (a * 256 % M) x (by unfold M; omega) (by omega)).2
  rw [← e, IntKind.wrap_u64]
  unfold M
  simp
theorem mod_or {a x : Nat} (ha : a ≤ 72057594037927935) (hx : x < 256) : a * 256 % M ||| x = a * 256 + x := by
  rw [Nat.mod_eq_of_lt (by unfold M; omega)]
  have := Nat.shiftLeft_add_eq_or_of_lt (show x < 2 ^ 8 by simpa using hx) a
  rw [Nat.shiftLeft_eq] at this
  exact this.symm
/-- The octets with their places. -/
def pxs (l : List UInt8) (_ : l.length = 32) : List PX := (List.range 32).attach.map fun k => ⟨(l.getD k.1 0, k.1), by have := List.mem_range.1 k.2; exact this⟩
theorem pxs_length (l : List UInt8) (h : l.length = 32) : (pxs l h).length = 32 := by simp [pxs]
theorem pxs_at {l : List UInt8} (h : l.length = 32) {k : Nat} {p : PX} (hp : (pxs l h)[k]? = some p) : p.1.2 = k ∧ l[k]? = some p.1.1 := by
  have hk : k < 32 := by have := (List.getElem?_eq_some_iff.1 hp).1; rwa [pxs_length] at this
  simp only [pxs, List.getElem?_map] at hp
  have e : (List.range 32).attach[k]? = some ⟨k, List.mem_range.2 hk⟩ := by
    rw [List.getElem?_eq_getElem (by simpa using hk)]
    simp
  rw [e] at hp
  simp only [Option.map_some, Option.some.injEq] at hp
  subst hp
  exact ⟨rfl, by simp [List.getD, List.getElem?_eq_getElem (show k < l.length by omega)]⟩
theorem unF_take {l : List UInt8} (h : l.length = 32) (k : Nat) (hk : k ≤ 32) : ws (unF ((pxs l h).take k)) = ws (uwd l k) := by
  induction k with
  | zero => rw [uwd_zero]; rfl
  | succ k ih =>
    have ih' := ih (by omega)
    obtain ⟨p, hp⟩ : ∃ p, (pxs l h)[k]? = some p := ⟨_, List.getElem?_eq_getElem (by rw [pxs_length]; omega)⟩
    obtain ⟨h2, hx⟩ := pxs_at h hp
    rw [List.take_add_one, hp, uwd_step hx (by omega)]
    show ws (unF (_ ++ [p])) = _
    rw [unF_snoc]
    unfold unS
    rw [h2]
    have hq : 3 - k / 8 < 4 := by omega
    rw [← ws_set _ hq, ← ws_set _ hq, ih']
    have e : unF ((pxs l h).take k) (3 - k / 8) = uwd l k (3 - k / 8) := by
      have h1 := ws_at (unF ((pxs l h).take k)) hq
      rw [ih', ws_at _ hq] at h1
      have := Option.some.inj h1
      injection this with _ h3
      omega
    rw [e, mod_or (uwd_lt (by omega)) p.1.1.toNat_lt]
theorem unF_all {l : List UInt8} (h : l.length = 32) : ws (unF (pxs l h)) = ws (uwd l 32) := by
  rw [← unF_take h 32 (by omega), List.take_of_length_le (by rw [pxs_length]; omega)]
end Go.Proofs.Ytneilnfjnbecbaa

namespace Go.Proofs.Ytneilnfjnbecbaa
open Go.RowKit

/-- The row with the lowest s - j octets laid. -/
def numR (x s j : Nat) : List Value := List.replicate j (bv 0) ++ (octs x (s - j)).map bv
theorem numR_at (x s : Nat) {j p : Nat} (h : p < j) : (numR x s j)[p]? = some (bv 0) := by
  unfold numR; rw [List.getElem?_append_left (by simpa using h)]; simp [h]
theorem numR_step (x s : Nat) {p : Nat} (h : p < s) : (numR x s (p + 1)).set p (bv (oct (x / 256 ^ (s - (p + 1))) 0)) = numR x s p := by
  unfold numR
  have e : s - p = (s - (p + 1)) + 1 := by omega
  rw [e, octs]
  have e2 : oct (x / 256 ^ (s - (p + 1))) 0 = oct x (s - (p + 1)) := by
    unfold oct
    rw [show 2 ^ ((s - (p + 1)) * 8) = 256 ^ (s - (p + 1)) by rw [Nat.mul_comm, Nat.pow_mul]]
    simp
  rw [e2, List.replicate_succ', List.append_assoc, List.set_append_right _ _ (by simp)]
  simp

set_option maxRecDepth 100000 in
set_option maxHeartbeats 4000000 in
theorem refNum_any (n size : Int) (hs : -9223372036854775808 ≤ size) (hs' : size ≤ 9223372036854775807) (w : World) :
    Calls Try.prog 33 #[.int .i64 n, .int .i64 size] w (ByW (octs (two n) (clamp size)) w) := by
  obtain ⟨i0, hi, hz0, hz1, hz2⟩ := info_parts Try.infoByte
  have hU : IntKind.u64.wrap n = (two n : Nat) := wrap_two n
  have hx : two n < M := by unfold two M; omega
  generalize two n = x at *
  have H8 := clamp_le size
  have hCC := clamp_cases size
  generalize clamp size = s at *
  go_enter Try.func33, Try.ntmps33
  rcases hCC with ⟨hc0, hC⟩ | ⟨hc0, hc8, hC⟩ | ⟨hc8, hC⟩
  all_goals
    have HC := Lib.hid hC
    clear hC
    go_wp2_with (at_make; refine wpList_make_full _ rfl _ _ 22 rfl w.heap.size 5 i0 (.int .u8 0) 1 Try.underlying22 hi hz0 hz1 .i64 .i64 _ _ s rfl rfl HC.out.symm HC.out.symm (by rw [hz2]; omega) (by unfold maxLen; omega) (Nat.le_refl _) ?_; intro w1 hown hgrow)
    have hown0 : w1.ownsRow w.heap.size 5 1 (.slice (some ⟨w.heap.size, 0, none⟩) s s) s (numR x s s) := by
      have e : (madeCells (Value.int .u8 0).cells (s * 1)).toList = numR x s s := by
        rw [Nat.mul_one]
        refine (toList_madeCells_one (.int .u8 0) s).trans ?_
        unfold numR
        simp [octs]
      rw [← e]; exact hown
    have hB0 : Below w.heap.size w w1 := (Below.refl _ w).grown hgrow (Nat.le_refl _) (fun k e => by cases e)
    have hs8 : (s : Int) ≤ 8 := by omega
    clear hown hgrow
    go_loopw [6, 7] (fun u i wr => ∃ j : Nat, j ≤ s ∧ i = .int .i64 ((j : Int) - 1) ∧ u = .int .u64 (x / 256 ^ (s - j) : Nat) ∧ wr.ownsRow w.heap.size 5 1 (.slice (some ⟨w.heap.size, 0, none⟩) s s) s (numR x s j) ∧ Below w.heap.size w wr) (fun _ i _ => ((intOf i) + 1).toNat)
    case atStart => exact ⟨s, Nat.le_refl _, by have := HC.out; congr 1; omega, by rw [Nat.sub_self, Nat.pow_zero, Nat.div_one], hown0, hB0⟩
    case round =>
      obtain ⟨j, hj, rfl, rfl, hown, hB⟩ := hrel
      rcases j with _ | p
      · have e0 : ((0 : Nat) : Int) - 1 = -1 := by omega
        rw [e0]
        go_wp2
        go_ret
        refine ⟨_, rfl, BSl.of_own (e := 5) (l := octs x s) ?_, hB⟩
        rw [octs_length]
        exact hown
      · have hps : p < s := by omega
        have e1 : ((p + 1 : Nat) : Int) - 1 = (p : Int) := by omega
        have hst := numR_step x s hps
        have HS := Lib.hid hst
        clear hst
        have hc := hown.cellAt p (by omega)
        rw [numR_at x s (Nat.lt_succ_self p)] at hc
        have hf := hown.frozenAt p
        have hd : x / 256 ^ (s - (p + 1)) / 256 = x / 256 ^ (s - p) := by
          rw [Nat.div_div_eq_div_mul, ← Nat.pow_succ, show (s - (p + 1)).succ = s - p by omega]
        have HD := Lib.hid hd
        clear hd
        have hy : x / 256 ^ (s - (p + 1)) ≤ 18446744073709551615 := Nat.le_trans (Nat.div_le_self _ _) (by unfold M at hx; omega)
        have hp8 : (p : Int) < (s : Int) := by omega
        generalize x / 256 ^ (s - (p + 1)) = y at *
        have hy' : (y : Int) ≤ 18446744073709551615 := by omega
        rw [e1]
        clear e1
        go_wp2
        have hv : Value.int .u8 ((y : Int) % 256) = bv (oct y 0) := by rw [oct_bv]; simp
        have hown2 := (hown.stored p (bv (oct y 0))).1
        rw [HS.out] at hown2
        rw [hv]
        exact ⟨⟨p, by omega, rfl, by rw [← HD.out]; simp, hown2, hB.setCell (p := ⟨w.heap.size, p, none⟩) (Nat.le_refl _) _⟩, by simp [intOf]⟩

set_option maxRecDepth 100000 in
set_option maxHeartbeats 4000000 in
theorem refInt_any (l : List UInt8) (sv : Value) (w : World) (hreach : l.length ≤ 140737488351232) (hsv : BSl 0 w.heap.size w sv l) :
    Calls Try.prog 77 #[sv] w fun e W' => e = .returned (.int .i64 (be (l.take 7) : Nat)) ∧ W' = w := by
  obtain ⟨a, cap, rfl, hcap, hcs⟩ := hsv
  go_enter Try.func77, Try.ntmps77
  go_wp2
  go_loop [3, 4] (fun n i => ∃ k : Nat, k ≤ l.length ∧ k ≤ 7 ∧ i = .int .i64 k ∧ n = .int .i64 (be (l.take k) : Nat)) (fun _ i => l.length - (intOf i).toNat)
  case atStart => exact ⟨0, by omega, by omega, rfl, rfl⟩
  case round =>
    obtain ⟨k, hk, hk7, rfl, rfl⟩ := hrel
    have hbl := be_lt' (l := l.take k) (k := 7) (by rw [List.length_take]; omega)
    by_cases hlt : k < l.length
    · by_cases h7 : k < 7
      · obtain ⟨x, hx⟩ : ∃ x, l[k]? = some x := ⟨_, List.getElem?_eq_getElem hlt⟩
        obtain ⟨b, off, rfl, ho⟩ : ∃ b off, a = some ⟨b, off, none⟩ ∧ Octs w b off l := by
          rcases hcs with h0 | ⟨b, off, h1, _, _, h2⟩
          · rw [h0] at hlt; simp at hlt
          · exact ⟨b, off, h1, h2⟩
        have hc := ho k x hx
        have hs : be (l.take (k + 1)) = be (l.take k) * 256 + x.toNat := by
          rw [List.take_add_one, hx]; exact be_snoc _ _
        have HS := Lib.hid hs
        have HX := Lib.hid hx
        have hb6 := be_lt' (l := l.take k) (k := 6) (by rw [List.length_take]; omega)
        have hb6' : ((be (l.take k) : Nat) : Int) ≤ 281474976710655 := by omega
        clear hs hx ho hcs hbl hb6
        have hxl : (x.toNat : Int) ≤ 255 := by have := x.toNat_lt; omega
        have hlt' : (k : Int) < (l.length : Int) := by omega
        have h7' : (k : Int) < 7 := by omega
        have hd1 : decide ((k : Int) < (l.length : Int)) = true := by simpa using hlt
        generalize hL : l.length = len at *
        have HL := Lib.hid hL
        clear hL
        generalize be (l.take k) = y at *
        go_wp2
        go_round
        case rel => exact ⟨k + 1, by omega, by omega, by simp, by rw [HS.out]; simp⟩
        case measure => simp [intOf]; omega
      · obtain rfl : k = 7 := by omega
        have hlt' : (7 : Int) < (l.length : Int) := by omega
        go_wp2
        go_ret
        exact ⟨rfl, rfl⟩
    · obtain rfl : k = l.length := by omega
      have e7 : be (l.take l.length) = be (l.take 7) := by rw [List.take_of_length_le hk7, List.take_length]
      rw [e7]
      have HE := Lib.hid e7
      clear e7
      have hL : ((l.length : Nat) : Int) ≤ 7 := by omega
      clear hbl
      generalize hY : be (l.take 7) = y at *
      have HY := Lib.hid hY
      clear hY
      go_wp2
      go_ret
      exact ⟨congrArg (fun z : Nat => Ending.returned (.int .i64 (z : Int))) HY.out.symm, rfl⟩

end Go.Proofs.Ytneilnfjnbecbaa

namespace Go.Proofs.Ytneilnfjnbecbaa
open Go.RowKit Go.Shelf

set_option maxRecDepth 100000 in
set_option maxHeartbeats 2000000 in
theorem refCat_any (l1 l2 : List UInt8) (s1 s2 : Value) (w : World) {lo1 lo2 : Nat} (hreach : l1.length + l2.length ≤ 140737488355328) (h1 : BSl lo1 w.heap.size w s1 l1) (h2 : BSl lo2 w.heap.size w s2 l2) :
    Calls Try.prog 68 #[s1, s2] w (ByO (l1 ++ l2) w) := by
  obtain ⟨i0, hi, hz0, hz1, hz2⟩ := info_parts Try.infoByte
  have h1' := h1
  have h2' := h2
  obtain ⟨a1, c1, rfl, _⟩ := h1'
  obtain ⟨a2, c2, rfl, _⟩ := h2'
  generalize hn1 : l1.length = n1 at *
  generalize hn2 : l2.length = n2 at *
  have HN1 := Lib.hid hn1
  have HN2 := Lib.hid hn2
  clear hn1 hn2
  go_enter Try.func68, Try.ntmps68
  go_wp2_with (first
    | (at_builtin; refine wpList_append_b _ rfl _ _ 22 rfl w.heap.size 5 i0 (.int .u8 0) Try.underlying22 hi hz0 hz1 hz2 rfl _ 0 [] rfl (World.ownsRow_lit w #[] 0 (Nat.le_refl _) (by unfold maxLen; omega) rfl) _ l1 rfl (h1.below ((Below.refl w.heap.size w).alloc (Nat.le_refl _) _) (Nat.le_refl _)) (by rw [HN1.out]; omega) (by simp) ?_; intro v' w1 hown' hgrow; (have hb1 : Below w.heap.size w w1 := (chain0 w _).grown hgrow (by simp) (fun k e => by have : w.heap.size = k := Option.some.inj e; omega)); have h21 := h2.below hb1 (Nat.le_refl _); rw [Nat.zero_add, List.nil_append] at hown')
    | (at_builtin; refine wpList_append_b _ rfl _ _ 22 rfl w.heap.size 5 i0 (.int .u8 0) Try.underlying22 hi hz0 hz1 hz2 rfl _ l1.length (l1.map bv) rfl hown' _ l2 rfl h21 (by rw [HN1.out, HN2.out]; omega) hb1.size ?_; intro v2 w2 hown2 hgrow2))
  go_ret
  refine ⟨_, rfl, ?_, hb1.grown hgrow2 hb1.size (fun j hj => (World.ownsRow.lt hown' j hj).1)⟩
  rw [List.length_append, List.map_append]
  exact hown2

def slLen : Value → Nat
  | .slice _ n _ => n
  | _ => 0
/-- Behind the text and its mark: j zeros. -/
def midL (l : List UInt8) (j : Nat) : List UInt8 := l ++ [128] ++ List.replicate j 0
theorem midL_length (l : List UInt8) (j : Nat) : (midL l j).length = l.length + 1 + j := by simp [midL]; omega
theorem midL_succ (l : List UInt8) (j : Nat) : midL l (j + 1) = midL l j ++ [0] := by
  unfold midL; rw [List.replicate_succ', ← List.append_assoc]

theorem own_below4 {W W' : World} {base : Nat} {e : TypeId} {size k : Nat} {v : Value} {xs : List Value} (h : W.ownsRow base e size v k xs) (hb : Below W.heap.size W W') : W'.ownsRow base e size v k xs := by
  obtain ⟨h1, h2⟩ := h
  refine ⟨h1, ?_⟩
  rcases h2 with h2 | ⟨g, cap, cur, rfl, hg, hh, r⟩
  · exact .inl h2
  · exact .inr ⟨g, cap, cur, rfl, hg, (hb.block g (Array.getElem?_eq_some_iff.1 hh).1).trans hh, r⟩
set_option maxRecDepth 100000 in
set_option maxHeartbeats 2000000 in
theorem refPad_any (l : List UInt8) (sv : Value) (w : World) (hreach : l.length ≤ 140737488353000) (hsv : BSl 0 w.heap.size w sv l) :
    Calls Try.prog 66 #[sv] w (ByO (padL l) w) := by
  obtain ⟨i0, hi, hz0, hz1, hz2⟩ := info_parts Try.infoByte
  have hsv0 := hsv
  obtain ⟨a, cap, rfl, hcap, hcs⟩ := hsv
  clear hcs
  go_enter Try.func66, Try.ntmps66
  go_wp2_with fail
  have hb0 : Below w.heap.size w (w.alloc (.cells #[.int .u8 128] 5)) := chain0 _ _
  have hm : BSl 0 (w.alloc (.cells #[.int .u8 128] 5)).heap.size (w.alloc (.cells #[.int .u8 128] 5)) (.slice (some ⟨w.heap.size, 0, none⟩) 1 1) [128] := ⟨_, 1, rfl, Nat.le_refl _, .inr ⟨_, 0, rfl, Nat.zero_le _, by simp, fun k x hx => by
    have hk : k = 0 := by have := (List.getElem?_eq_some_iff.1 hx).1; simp at this; omega
    subst hk
    have hc := (Blk.new' (t := 5) (vs := [.int .u8 128]) (rfl : w.heap.size = w.heap.size)).cell 0
    refine hc.trans ?_
    simp at hx
    subst hx
    rfl⟩⟩
  refine (refCat_any l [128] _ _ _ (by simp; omega) ((hsv0.below hb0 (Nat.le_refl _)).mono (Nat.le_refl _) hb0.size) hm).mono ?_
  rintro e w1 ⟨v, rfl, hown, hb1⟩
  replace hb1 := chain hb0 hb1
  replace hown := own_base4 (base' := w.heap.size) hown (by simp)
  clear hm hb0
  go_wp2_with fail
  go_loopw [3] (fun v wr => ∃ j : Nat, j ≤ 63 - (l.length + 8) % 64 ∧ wr.ownsRow w.heap.size 5 1 v (l.length + 1 + j) ((midL l j).map bv) ∧ Below w.heap.size w wr) (fun v _ => l.length + 65 - slLen v)
  case atStart => exact ⟨0, by omega, by simpa [midL] using hown, hb1⟩
  clear hown hb1
  case round =>
    obtain ⟨j, hj, hown, hB⟩ := hrel
    obtain ⟨va, vc, rfl⟩ := ownsRow_slice hown
    have hNW : w.heap.size ≤ wr.heap.size := hB.size
    have HM := Lib.hid (midL_succ l j)
    generalize hn : l.length + 1 + j = n at *
    have hn63 : (n : Int) ≤ 9223372036854775807 := by omega
    by_cases hlt : j < 63 - (l.length + 8) % 64
    · have h56 : ¬ ((n : Int) % 64 = 56) := by omega
      have h56' : ((n : Int) % 64 == 56) = false := by simpa using h56
      have HN := Lib.hid hn
      clear hn
      go_wp2_with (at_builtin; refine wpList_append_own _ rfl _ _ 22 rfl w.heap.size 5 i0 (.int .u8 0) 1 1 Try.underlying22 hi hz0 hz1 hz2 rfl (by decide) _ n ((midL l j).map bv) rfl (hown.alloc _) ⟨wr.heap.size, 0, none⟩ 1 1 [bv 0] rfl rfl (cell_one_new _ _ _) (by simp [Value.oneCell']) (by unfold maxLen; have := HN.out; omega) (by have := HN.out; omega) (by simp; omega) ?_; intro v' w1 hown' hgrow _)
      have hbw : Below w.heap.size wr w1 := ((Below.refl w.heap.size wr).alloc hNW _).grown hgrow (by simp; omega) (fun k e => (World.ownsRow.lt hown k e).1)
      refine ⟨⟨j + 1, by omega, ?_, hB.trans hbw⟩, by have := HN.out; show l.length + 65 - slLen v' < l.length + 65 - n; obtain ⟨_, _, rfl⟩ := ownsRow_slice hown'; show l.length + 65 - (n + 1) < _; omega⟩
      rw [HM.out, List.map_append, show l.length + 1 + (j + 1) = n + 1 by have := HN.out; omega]
      exact hown'
    · obtain rfl : j = 63 - (l.length + 8) % 64 := by omega
      have h56 : (n : Int) % 64 = 56 := by omega
      have H56 := Lib.hid h56
      have h56' : ((n : Int) % 64 == 56) = true := by simpa using h56
      have HN := Lib.hid hn
      clear hn h56
      go_wp2_with fail
      refine (refNum_any (8 * (l.length : Int)) 8 (by omega) (by omega) _).mono ?_
      rintro e w2 ⟨s4, rfl, hs4, hb2⟩
      rw [show clamp 8 = 8 from rfl, show (8 * (l.length : Int)) = ((l.length * 8 : Nat) : Int) by omega] at hs4
      have hown2 := own_below4 hown hb2
      have hbs : BSl 0 w2.heap.size w2 (.slice va n vc) (midL l (63 - (l.length + 8) % 64)) := by
        have hq := hown2
        rw [show n = (midL l (63 - (l.length + 8) % 64)).length by rw [midL_length]; exact HN.out.symm] at hq ⊢
        exact (BSl.of_own hq).mono (Nat.zero_le _) (Nat.le_refl _)
      have hL4 := hs4.mono (Nat.zero_le _) (Nat.le_refl _)
      obtain ⟨a4, c4, rfl, _⟩ := hs4
      have hlen : (midL l (63 - (l.length + 8) % 64)).length + (octs (two ((l.length * 8 : Nat) : Int)) 8).length ≤ 140737488355328 := by
        rw [midL_length, octs_length]; omega
      go_wp2_with fail
      refine (refCat_any _ _ _ _ _ hlen hbs hL4).mono ?_
      rintro e w3 ⟨sv, rfl, hown3, hb3⟩
      go_wp2_with fail
      go_ret
      exact ⟨sv, rfl, own_base4 hown3 (Nat.le_trans hNW hb2.size), hB.trans ((hb2.mono hNW).trans (hb3.mono (Nat.le_trans hNW hb2.size)))⟩
end Go.Proofs.Ytneilnfjnbecbaa

namespace Go.Proofs.Ytneilnfjnbecbaa
open Go.RowKit

/-- x, turned to the right by n bits. -/
def rot (x : Int) (n : Nat) : Int := bits .or .u32 (x / (2 : Int) ^ n) (x * (2 : Int) ^ (32 - n) % 4294967296)
theorem or_comm32 (a b : Int) : bits .or .u32 a b = bits .or .u32 b a := by simp only [bits, BitVec.or_comm]
theorem mask31 (n : Nat) (h : n ∈ [2, 3, 6, 7, 10, 11, 13, 17, 18, 19, 22, 25]) : bits .and .u64 (IntKind.u64.wrap (-(n : Int))) 31 = ((32 - n : Nat) : Int) := by
  simp only [List.mem_cons, List.not_mem_nil, or_false] at h
  rcases h with rfl | rfl | rfl | rfl | rfl | rfl | rfl | rfl | rfl | rfl | rfl | rfl <;> decide

set_option maxHeartbeats 1000000 in
theorem rotateLeft_any (x : Int) (k : Int) (s : Nat) (hs : bits .and .u64 (IntKind.u64.wrap k) 31 = (s : Int)) (h0 : 1 ≤ (s : Int)) (h1 : (s : Int) ≤ 31) (w : World) : Calls Try.prog 75 #[.int .u32 x, .int .i64 k] w fun e w' => e = .returned (.int .u32 (rot x (32 - s))) ∧ w = w' := by
  go_enter Try.func75, Try.ntmps75
  go_wp2
  go_ret
  refine ⟨?_, rfl⟩
  have hr : rot x (32 - s) = bits .or .u32 (x * 2 ^ s % 4294967296) (x / 2 ^ (32 - s)) := by
    unfold rot
    rw [or_comm32, show 32 - (32 - s) = s by omega]
  rw [hr]
  rfl

/-- How far words are turned. -/
def turns (n : Nat) : Prop := n ∈ [2, 3, 6, 7, 10, 11, 13, 17, 18, 19, 22, 25]
set_option maxHeartbeats 1000000 in
theorem rotr_any (x : Int) (n : Nat) (hn : turns n) (w : World) : Calls Try.prog 64 #[.int .u32 x, .int .i64 (n : Int)] w fun e w' => e = .returned (.int .u32 (rot x n)) ∧ w = w' := by
  have hs := mask31 n hn
  have hb : 1 ≤ n ∧ n ≤ 31 := by
    unfold turns at hn
    simp only [List.mem_cons, List.not_mem_nil, or_false] at hn
    omega
  obtain ⟨hb1, hb2⟩ := hb
  have HN := Lib.hid hs
  clear hs hn
  have hm : (n : Int) ≤ 31 := by omega
  go_enter Try.func64, Try.ntmps64
  go_wp2_with (go_at_call 75; refine (rotateLeft_any _ _ _ HN.out (by omega) (by omega) _).mono ?_; rintro e w' ⟨rfl, rfl⟩)
  go_ret
  have hq : 32 - (32 - n) = n := by omega
  exact ⟨congrArg (fun q => Ending.returned (.int .u32 (rot x q))) hq, rfl⟩

theorem rotr_still (x : Int) (k : Int) (n : Nat) (hn : turns n) (hk : k = (n : Int)) (w : World) : Calls Try.prog 64 #[.int .u32 x, .int .i64 k] w fun e w' => e = .returned (.int .u32 (rot x n)) ∧ w' = w := by
  subst hk; exact (rotr_any x n hn w).mono fun _ _ h => ⟨h.1, h.2.symm⟩

set_option maxHeartbeats 1000000 in
theorem turn_any (x : Int) (n : Nat) (hn : turns n) (w : World) : Calls Try.prog 78 #[.int .u32 x, .int .i64 (n : Int)] w fun e w' => e = .returned (.int .u32 (rot x n)) ∧ w = w' := by
  have hb : 1 ≤ (n : Int) ∧ (n : Int) ≤ 31 := by
    unfold turns at hn
    simp only [List.mem_cons, List.not_mem_nil, or_false] at hn
    omega
  obtain ⟨hb1, hb2⟩ := hb
  clear hn
  have hw : (32 : Int) - (n : Int) = ((32 - n : Nat) : Int) := by omega
  go_enter Try.func78, Try.ntmps78
  go_wp2
  go_ret
  exact ⟨rfl, rfl⟩
theorem turn_still (x : Int) (k : Int) (n : Nat) (hn : turns n) (hk : k = (n : Int)) (w : World) : Calls Try.prog 78 #[.int .u32 x, .int .i64 k] w fun e w' => e = .returned (.int .u32 (rot x n)) ∧ w' = w := by
  subst hk; exact (turn_any x n hn w).mono fun _ _ h => ⟨h.1, h.2.symm⟩
theorem t2 : turns 2 := by unfold turns; simp
theorem t6 : turns 6 := by unfold turns; simp
theorem t7 : turns 7 := by unfold turns; simp
theorem t11 : turns 11 := by unfold turns; simp
theorem t13 : turns 13 := by unfold turns; simp
theorem t17 : turns 17 := by unfold turns; simp
theorem t18 : turns 18 := by unfold turns; simp
theorem t19 : turns 19 := by unfold turns; simp
theorem t22 : turns 22 := by unfold turns; simp
theorem t25 : turns 25 := by unfold turns; simp
end Go.Proofs.Ytneilnfjnbecbaa
