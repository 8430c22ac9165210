/-
  The reference's Wide: two octets a digit, the highest first; The reference's writer of fields; The reference's writer: a number, a text, a wide number; A writer by the reference: its blocks; A transfer, and a side's data, put by the reference; Which transfers may be, by the reference; Which transfers and sides' data may be, by the reference; 'string(b)'; the octets of a writer by the reference; A 
-/
import Derived.Deep.RegionHeld3
import Derived.Outline
import Derived.Deep.Cut
import Derived.Test.YthhmdgmmeedhdaaGreatR11
namespace Go.Proofs.YthhmdgmmeedhdaaGreat
open Go.RowKit
def dO (f : Nat → Nat) : Nat → List UInt8
 | 0 => []
 | k + 1 => dO f k ++ [UInt8.ofNat (f (15 - k) / 256), UInt8.ofNat (f (15 - k))]
theorem dO_length (f : Nat → Nat) (k : Nat) : (dO f k).length = 2 * k := by
 induction k with
 | zero => rfl
 | succ k ih => simp [dO, ih]; omega
theorem octs8 (a : Nat) : octs a 8 = [UInt8.ofNat (sh a 3 % 65536 / 256), UInt8.ofNat (sh a 3 % 65536), UInt8.ofNat (sh a 2 % 65536 / 256), UInt8.ofNat (sh a 2 % 65536), UInt8.ofNat (sh a 1 % 65536 / 256), UInt8.ofNat (sh a 1 % 65536), UInt8.ofNat (sh a 0 % 65536 / 256), UInt8.ofNat (sh a 0 % 65536)] := by
 have e : ∀ {m n : Nat}, m % 256 = n % 256 → UInt8.ofNat m = UInt8.ofNat n := fun h => UInt8.toNat_inj.1 (by rw [UInt8.toNat_ofNat', UInt8.toNat_ofNat']; simpa using h)
 simp only [octs, oct, sh, List.cons.injEq, and_true]
 refine ⟨e ?_, e ?_, e ?_, e ?_, e ?_, e ?_, e ?_, e ?_⟩ <;> omega
theorem dO_all (a0 a1 a2 a3 : Nat) : dO (dg a0 a1 a2 a3) 16 = wide8 a0 a1 a2 a3 := by
 unfold wide8
 rw [octs8 a3, octs8 a2, octs8 a1, octs8 a0]
 rfl
theorem byte_hi {y : Nat} (h : y ≤ 65535) : IntKind.u8.wrap (IntKind.i64.wrap ((y : Int) / 256)) = (((UInt8.ofNat (y / 256)).toNat : Nat) : Int) := by
 rw [wr_i64 _ (by omega) (by omega), UInt8.toNat_ofNat']
 simp [IntKind.wrap, IntKind.bits, IntKind.signed]
theorem byte_lo {y : Nat} (h : y ≤ 65535) : IntKind.u8.wrap (Int.tmod (y : Int) 256) = (((UInt8.ofNat y).toNat : Nat) : Int) := by
 rw [UInt8.toNat_ofNat', Int.tmod_eq_emod_of_nonneg (by omega)]
 simp [IntKind.wrap, IntKind.bits, IntKind.signed]
set_option maxRecDepth 100000 in
set_option maxHeartbeats 4000000 in
theorem refWide_any {a0 a1 a2 a3 : Nat} (ha : Ok4 a0 a1 a2 a3) (w : World) :
  Calls Tryz.prog 148 #[wv a0 a1 a2 a3] w (ByW (wide8 a0 a1 a2 a3) w) := by
 have hmx : Tryz.prog.follows .mixedOrders = true := by kernel_rfl
 obtain ⟨i0, hi, hz0, hz1, hz2⟩ := info_parts Tryz.infoByte
 rw [← dO_all]
 go_enter Tryz.func148, Tryz.ntmps148
 go_wp2_with fail
 refine (digits_any ha _).mono ?_
 rintro e w1 ⟨g, cap, rfl, hg, hg1, hnums, hb1⟩
 have hd1 := chain (chain0 w _) hb1
 have hf : ∀ k, dg a0 a1 a2 a3 k ≤ 65535 := fun k => by unfold dg; omega
 clear hb1
 generalize dg a0 a1 a2 a3 = f at *
 go_wp2
 go_loopw [4, 5] (fun v i wr => ∃ k : Nat, k ≤ 16 ∧ i = .int .i64 (15 - (k : Int)) ∧ wr.ownsRow w1.heap.size 5 1 v (2 * k) ((dO f k).map bv) ∧ Below w1.heap.size w1 wr) (fun _ i _ => ((intOf i) + 1).toNat)
 case atStart => exact ⟨0, by omega, rfl, World.ownsRow_nil _ _ _ _, Below.refl _ _⟩
 case round =>
  obtain ⟨k, hk, rfl, hown, hB⟩ := hrel
  by_cases hlt : k < 16
  ·
   have hp : (15 : Int) - k = ((15 - k : Nat) : Int) := by omega
   have hpl : 15 - k ≤ 15 := by omega
   have hc := hnums.below hB hg1 (15 - k) (by omega)
   have hfk := hf (15 - k)
   have hst : dO f (k + 1) = dO f k ++ [UInt8.ofNat (f (15 - k) / 256), UInt8.ofNat (f (15 - k))] := rfl
   have HS := Lib.hid hst
   have HP := Lib.hid hp
   rw [hp]
   clear hp hst
   generalize f (15 - k) = y at *
   generalize 15 - k = p at *
   have hy : (y : Int) ≤ 65535 := by omega
   have hp16 : (p : Int) < 16 := by omega
   go_wp2_with fail
   refine wp_region_held_drew (S := fun w' => w'.cell? ⟨g, p, none⟩ = some (.int .i64 (y : Int)) ∧ w'.heap.size > g) hmx ⟨hc, Nat.lt_of_lt_of_le hg1 hB.size⟩ ?_
   intro hS
   generalize hw2 : wr.drew = w2 at *
   refine wpAnyH_take (i := 0) (v := ?_) rfl (by kernel_rfl) (by kernel_rfl) (by kernel_rfl) (fun _ _ _ h => h) (Or.inl ⟨rfl, ?_⟩) hS ?_
   rotate_left
   ·
    intro w' hS'; go_simp; with_reducible rfl
   refine wpAnyH_take (i := 1) (v := ?_) rfl (by kernel_rfl) (by kernel_rfl) (by kernel_rfl) (fun _ _ _ h => h) (Or.inl ⟨rfl, ?_⟩) hS ?_
   rotate_left
   ·
    intro w' hS'; go_simp; with_reducible rfl
   refine wpAnyH_take (i := 2) (v := ?_) rfl (by kernel_rfl) (by kernel_rfl) (by kernel_rfl) (fun _ _ _ h => h) (Or.inl ⟨rfl, ?_⟩) hS ?_
   rotate_left
   ·
    intro w' hS'; go_simp; with_reducible rfl
   refine wpAnyH_take (i := 3) (v := ?_) rfl (by kernel_rfl) (by kernel_rfl) (by kernel_rfl) (fun _ _ _ h => h) (Or.inl ⟨rfl, ?_⟩) hS ?_
   rotate_left
   ·
    intro w' hS'; go_simp; with_reducible rfl
   refine wpAnyH_take (i := 4) (v := ?_) rfl (by kernel_rfl) (by kernel_rfl) (by kernel_rfl) (fun _ _ _ h => h) (Or.inl ⟨rfl, ?_⟩) hS ?_
   rotate_left
   ·
    intro w' hS'; go_simp; with_reducible rfl
   refine wpAnyH_take (i := 5) (v := ?_) rfl (by kernel_rfl) (by kernel_rfl) (by kernel_rfl) (fun _ _ _ h => h) (Or.inl ⟨rfl, ?_⟩) hS ?_
   rotate_left
   ·
    intro w' hS'; go_simp; with_reducible rfl
   refine wpAnyH_take (i := 6) (v := ?_) rfl (by kernel_rfl) (by kernel_rfl) (by kernel_rfl) (fun _ _ _ h => h) (Or.inl ⟨rfl, ?_⟩) hS ?_
   rotate_left
   ·
    intro w' hS'; go_simp; with_reducible rfl
   refine wpAnyH_take (i := 7) (v := ?_) rfl (by kernel_rfl) (by kernel_rfl) (by kernel_rfl) (fun _ _ _ h => h) (Or.inl ⟨rfl, ?_⟩) hS ?_
   rotate_left
   ·
    intro w' hS'; go_simp; with_reducible rfl
   refine wpAnyH_take (i := 8) (v := ?_) rfl (by kernel_rfl) (by kernel_rfl) (by kernel_rfl) (fun _ _ _ h => h) (Or.inl ⟨rfl, ?_⟩) hS ?_
   rotate_left
   ·
    intro w' hS'; go_simp; with_reducible rfl
   refine wpAnyH_take (i := 9) (v := ?_) rfl (by kernel_rfl) (by kernel_rfl) (by kernel_rfl) (fun _ _ _ h => h) (Or.inl ⟨rfl, ?_⟩) hS ?_
   rotate_left
   ·
    intro w' hS'; go_simp; with_reducible rfl
   refine wpAnyH_take (i := 10) (v := ?_) rfl (by kernel_rfl) (by kernel_rfl) (by kernel_rfl) (fun _ _ _ h => h) (Or.inl ⟨rfl, ?_⟩) hS ?_
   rotate_left
   ·
    intro w' hS'; go_simp; with_reducible rfl
   refine wpAnyH_take (i := 11) (v := ?_) rfl (by kernel_rfl) (by kernel_rfl) (by kernel_rfl) (fun _ _ _ h => h) (Or.inl ⟨rfl, ?_⟩) hS ?_
   rotate_left
   ·
    intro w' hS'; go_simp; with_reducible rfl
   refine wpAnyH_take (i := 12) (v := ?_) rfl (by kernel_rfl) (by kernel_rfl) (by kernel_rfl) (fun _ _ _ h => h) (Or.inl ⟨rfl, ?_⟩) hS ?_
   rotate_left
   ·
    intro w' hS'; go_simp; with_reducible rfl
   have hB2 : Below w1.heap.size w1 w2 := by rw [← hw2]; exact hB.drew
   have hown2 : w2.ownsRow w1.heap.size 5 1 u4 (2 * k) ((dO f k).map bv) := by rw [← hw2]; exact hown
   have hz2' : w1.heap.size ≤ w2.heap.size := hB2.size
   rw [byte_hi hfk, byte_lo hfk]
   clear hw2 hc hB hown
   generalize UInt8.ofNat (y / 256) = x1 at *
   generalize UInt8.ofNat y = x0 at *
   refine wpAnyH_ready (rs := [13]) (by kernel_rfl) (by simp) ?_
   refine AllReadyH.cons rfl (fun K hK => ?_) AllReadyH.nil
   go_simp
   refine hK.out _ _ ⟨(World.cell?_alloc_lt _ _ _ hS.2).trans hS.1, by simp; have := hS.2; omega⟩ (fun hS3 => ?_)
   clear hK K
   refine wpAnyH_ready (rs := [14]) (by kernel_rfl) (by simp) ?_
   refine AllReadyH.cons rfl (fun K hK => ?_) AllReadyH.nil
   rw [if_pos (by kernel_rfl)]
   refine wp_append_own _ _ _ 95 rfl w1.heap.size 5 i0 (.int .u8 0) 1 1 Tryz.underlying95 hi hz0 hz1 hz2 rfl (by decide) u4 (2 * k) ((dO f k).map bv) rfl (hown2.alloc _) ⟨w2.heap.size, 0, none⟩ 2 2 [bv x1, bv x0] rfl rfl (World.news_of_block (cs := #[bv x1, bv x0]) (World.alloc_heap_new w2 _)) (by simp [Value.oneCell']) (by unfold maxLen; omega) (by omega) (by simp; omega) ?_
   intro v' w3 hown' hgrow _
   have hB3 : Below w1.heap.size w2 w3 := ((Below.refl _ w2).alloc hz2' (.cells #[bv x1, bv x0] 5)).grown hgrow (by simp; omega) (fun j hj => (World.ownsRow.lt hown2 j hj).1)
   refine hK.out _ _ ⟨(hB3.cell (p := ⟨g, p, none⟩) hg1).trans hS.1, by have := hB3.size; have := hS.2; omega⟩ (fun hS4 => ?_)
   clear hK K
   refine wpAnyH_take (i := 15) (v := ?_) rfl (by kernel_rfl) (by kernel_rfl) (by kernel_rfl) (fun _ _ _ h => h) (Or.inl ⟨rfl, ?_⟩) hS4 ?_
   rotate_left
   ·
    intro w' hS'; go_simp; with_reducible rfl
   refine wpAnyH_done (by kernel_rfl) ?_ _
   go_wp2
   have hq : (p : Int) - 1 = 15 - ((k + 1 : Nat) : Int) := by have := HP.out; omega
   exact ⟨⟨k + 1, by omega, by rw [hq], by rw [HS.out, List.map_append, Nat.mul_add]; exact hown', hB2.trans hB3⟩, by simp [intOf]⟩
  ·
   obtain rfl : k = 16 := by omega
   have hq : (15 : Int) - ((16 : Nat) : Int) = -1 := by omega
   rw [hq]
   go_wp2
   go_ret
   refine ⟨_, rfl, (BSl.of_own (e := 5) (l := dO f 16) (lo := w1.heap.size) ?_).mono hd1.size (Nat.le_refl _), hd1.trans (hB.mono hd1.size)⟩
   rw [dO_length]
   exact hown
end Go.Proofs.YthhmdgmmeedhdaaGreat
namespace Go.Proofs.YthhmdgmmeedhdaaGreat
open Go.RowKit Go.Shelf
def RefS (s : St) (w : World) (e : Ending) (W' : World) : Prop := ∃ sv, e = .returned (.agg #[sv, .int .i64 s.2]) ∧ BSl 0 W'.heap.size W' sv s.1 ∧ Below w.heap.size w W'
theorem clamp6' : clamp 6 = 6 := rfl
theorem clamp2' : clamp 2 = 2 := rfl
theorem two_nat' {n : Nat} (h : n < 18446744073709551616) : two (n : Int) = n := by unfold two; omega
theorem Blk.c2 {W : World} {B : Nat} {t : TypeId} {v0 v1 : Value} (h : Blk W B t [v0, v1]) : W.cell? ⟨B, 0, none⟩ = some v0 ∧ W.cell? ⟨B, 1, none⟩ = some v1 := ⟨h.cell 0, h.cell 1⟩
theorem noOct2 {W : World} {B : Nat} {T : TypeId} {a : Option Addr} {n c : Nat} {x : Int} (h : Blk W B T [.slice a n c, .int .i64 x]) : NoOct W B := noOct_blk h (by
 intro v hv y
 simp only [List.mem_cons, List.not_mem_nil, or_false] at hv
 rcases hv with rfl | rfl <;> simp [bv])
set_option maxRecDepth 100000 in
theorem refPutE_any {s : St} (sv s2 : Value) (x : Int) (hx : x ≠ 0) (w : World) (hsl : BSl 0 w.heap.size w sv s.1) :
  Calls Tryz.prog 123 #[.agg #[sv, .int .i64 s.2], s2, .int .i64 x] w (RefS (errS s x) w) := by
 obtain ⟨a, m, c, rfl⟩ := hsl.shape3
 have hx1 : (x != 0) = true := by simpa using hx
 by_cases hf : s.2 = 0
 ·
  have e1 : errS s x = ([], x) := if_pos hf
  rw [e1]
  clear e1
  have hf1 : (s.2 != 0) = false := by simpa using hf
  have hf2 : (s.2 == 0) = true := by simpa using hf
  clear hf
  go_enter Tryz.func123, Tryz.ntmps123
  go_wp2
  exact bodyPost_ret (v := .agg #[.slice none 0 0, .int .i64 x]) (by simp [results, Tryz.results123, go_sem]) rfl ⟨_, rfl, BSl.nil _ _ _, chainA (chain0 w _) _⟩
 ·
  rw [errS_bad hf]
  have hf1 : (s.2 != 0) = true := by simpa using hf
  have hf2 : (s.2 == 0) = false := by simpa using hf
  clear hf
  go_enter Tryz.func123, Tryz.ntmps123
  go_wp2
  have hB : Below w.heap.size w ((w.alloc (.cells #[.slice a m c, .int .i64 s.2] 101)).alloc (.cells #[.slice a m c, .int .i64 s.2] 101)) := chainA (chain0 _ _) _
  exact bodyPost_ret (v := .agg #[.slice a m c, .int .i64 s.2]) (by simp [results, Tryz.results123, go_sem]) rfl ⟨_, rfl, (hsl.below hB (Nat.le_refl _)).mono (Nat.le_refl _) hB.size, hB⟩
set_option maxRecDepth 100000 in
set_option maxHeartbeats 1000000 in
theorem refPut_any {s : St} (hok : OkS s) (sv s2 : Value) (l : List UInt8) (hl : l.length ≤ 140737488345000) (w : World) (hsl : BSl 0 w.heap.size w sv s.1) (hs2 : BSl 0 w.heap.size w s2 l) :
  Calls Tryz.prog 123 #[.agg #[sv, .int .i64 s.2], s2, .int .i64 0] w (RefS (addS s l) w) := by
 have h82 := hok.2
 obtain ⟨a, c, rfl, -⟩ := hsl.shape
 obtain ⟨a2, c2, rfl, -⟩ := hs2.shape
 by_cases hf : s.2 = 0
 ·
  have e1 : addS s l = if s.1.length + l.length ≤ 8192 then (s.1 ++ l, 0) else ([], 5) := if_pos hf
  rw [e1]
  clear e1
  have hf1 : (s.2 != 0) = false := by simpa using hf
  have hf2 : (s.2 == 0) = true := by simpa using hf
  have HF := Lib.hid hf
  clear hf
  generalize hn : s.1.length = n at *
  generalize hk : l.length = k at *
  have HN := Lib.hid hn
  have HK := Lib.hid hk
  clear hn hk
  by_cases hfit : n + k ≤ 8192
  ·
   rw [if_pos hfit]
   have hgt : ¬ ((8192 : Int) < (n : Int) + (k : Int)) := by omega
   go_enter Tryz.func123, Tryz.ntmps123
   go_wp2_with (go_at_call 121; refine (refCat_any s.1 l (.slice a n c) (.slice a2 k c2) _ (by have := HN.out; have := HK.out; omega) ((hsl.below (chainA (chain0 w _) _) (Nat.le_refl _)).mono (Nat.le_refl _) (by simp; omega)) ((hs2.below (chainA (chain0 w _) _) (Nat.le_refl _)).mono (Nat.le_refl _) (by simp; omega))).mono ?_; rintro e w1 ⟨v, rfl, hv, hb1⟩; obtain ⟨va, vm, vc, rfl⟩ := (BSl.of_own hv).shape3; have kR : Blk w1 (w.heap.size + 1) 101 [.slice none 0 0, .int .i64 0] := (Blk.new' (by simp)).below hb1 (by simp); have r0 := kR.c2.1; have r1 := kR.c2.2; have g0 := kR.frozen 0; have g1 := kR.frozen 1)
   have hB1 := chain (chainA (chain0 w _) _) hb1
   have hB := (hB1.setCell (p := ⟨w.heap.size + 1, 0, none⟩) (by simp) (.slice va vm vc)).setCell (p := ⟨w.heap.size + 1, 1, none⟩) (by simp) (.int .i64 0)
   have kR2 := (kR.set 0 (.slice va vm vc)).set 1 (.int .i64 0)
   obtain ⟨q0, q1⟩ := Blk.c2 kR2
   exact bodyPost_ret (v := .agg #[.slice va vm vc, .int .i64 0]) (by simp [results, Tryz.results123, go_sem, q0, q1]) rfl ⟨_, rfl, ((((BSl.of_own hv).to (Nat.le_refl _) (grownBy_setCell4 w1 (w.heap.size + 1) 0 (.slice va vm vc)) (fun r e => by cases e; exact noOct2 kR)).to (by simp) (grownBy_setCell4 _ (w.heap.size + 1) 1 (.int .i64 0)) (fun r e => by cases e; exact noOct2 (kR.set 0 _)))).mono (Nat.zero_le _) (by simp), hB⟩
  ·
   rw [if_neg hfit]
   have hgt : (8192 : Int) < (n : Int) + (k : Int) := by omega
   go_enter Tryz.func123, Tryz.ntmps123
   go_wp2
   exact bodyPost_ret (v := .agg #[.slice none 0 0, .int .i64 5]) (by simp [results, Tryz.results123, go_sem]) rfl ⟨_, rfl, BSl.nil _ _ _, chainA (chain0 w _) _⟩
 ·
  rw [addS_bad hf]
  have hf1 : (s.2 != 0) = true := by simpa using hf
  have hf2 : (s.2 == 0) = false := by simpa using hf
  clear hf
  generalize hn : s.1.length = n at *
  generalize hk : l.length = k at *
  clear hn hk
  go_enter Tryz.func123, Tryz.ntmps123
  go_wp2
  have hB : Below w.heap.size w ((w.alloc (.cells #[.slice a n c, .int .i64 s.2] 101)).alloc (.cells #[.slice a n c, .int .i64 s.2] 101)) := chainA (chain0 _ _) _
  exact bodyPost_ret (v := .agg #[.slice a n c, .int .i64 s.2]) (by simp [results, Tryz.results123, go_sem]) rfl ⟨_, rfl, (hsl.below hB (Nat.le_refl _)).mono (Nat.le_refl _) hB.size, hB⟩
end Go.Proofs.YthhmdgmmeedhdaaGreat
namespace Go.Proofs.YthhmdgmmeedhdaaGreat
open Go.RowKit Go.Shelf
theorem stored_at {l : List UInt8} {y : Int} {w Y : World} {sv : Value} {T : TypeId} {NB : Nat} {z : Value} {x : Int} (hsl : BSl 0 Y.heap.size Y sv l) (hB : Below w.heap.size w Y) (hNB : w.heap.size ≤ NB) (hz : ∃ a m c, z = .slice a m c)
  (kR : Blk Y NB T [z, .int .i64 x]) :
  Blk ((Y.setCell ⟨NB, 0, none⟩ sv).setCell ⟨NB, 1, none⟩ (.int .i64 y)) NB T [sv, .int .i64 y] ∧
  BSl 0 ((Y.setCell ⟨NB, 0, none⟩ sv).setCell ⟨NB, 1, none⟩ (.int .i64 y)).heap.size ((Y.setCell ⟨NB, 0, none⟩ sv).setCell ⟨NB, 1, none⟩ (.int .i64 y)) sv l ∧ Below w.heap.size w ((Y.setCell ⟨NB, 0, none⟩ sv).setCell ⟨NB, 1, none⟩ (.int .i64 y)) := by
 obtain ⟨a, m, c, rfl⟩ := hz
 obtain ⟨a2, m2, c2, rfl⟩ := hsl.shape3
 have k1 := kR.set 0 (.slice a2 m2 c2)
 refine ⟨k1.set 1 _, ?_, (hB.setCell (p := ⟨NB, 0, none⟩) hNB _).setCell (p := ⟨NB, 1, none⟩) hNB _⟩
 exact ((hsl.to (Nat.le_refl _) (grownBy_setCell4 Y NB 0 (.slice a2 m2 c2)) (fun r e => by cases e; exact noOct2 kR)).to (by simp) (grownBy_setCell4 _ NB 1 (.int .i64 y)) (fun r e => by cases e; exact noOct2 k1)).mono (Nat.le_refl _) (by simp)
theorem refS_stored {s : St} {w Y : World} {sv : Value} {NB : Nat} {z : Value} {x : Int} (hsl : BSl 0 Y.heap.size Y sv s.1) (hB : Below w.heap.size w Y) (hNB : w.heap.size ≤ NB) (hz : ∃ a m c, z = .slice a m c)
  (kR : Blk Y NB 101 [z, .int .i64 x]) :
  Blk ((Y.setCell ⟨NB, 0, none⟩ sv).setCell ⟨NB, 1, none⟩ (.int .i64 s.2)) NB 101 [sv, .int .i64 s.2] ∧ RefS s w (.returned (.agg #[sv, .int .i64 s.2])) ((Y.setCell ⟨NB, 0, none⟩ sv).setCell ⟨NB, 1, none⟩ (.int .i64 s.2)) := by
 obtain ⟨h1, h2, h3⟩ := stored_at (y := s.2) hsl hB hNB hz kR
 exact ⟨h1, _, rfl, h2, h3⟩
set_option maxRecDepth 100000 in
set_option maxHeartbeats 2000000 in
theorem refNum6_any {s : St} (hok : OkS s) (sv : Value) (n : Int) (w : World) (hsl : BSl 0 w.heap.size w sv s.1) :
  Calls Tryz.prog 89 #[.agg #[sv, .int .i64 s.2], .int .i64 n] w (RefS (numS s n) w) := by
 have hmx : Tryz.prog.follows .mixedOrders = true := by kernel_rfl
 obtain ⟨a, m, c, rfl⟩ := hsl.shape3
 by_cases hn : 0 ≤ n ∧ n ≤ 1099511627776
 ·
  have e1 : numS s n = addS s (octs (two n) 6) := if_pos hn
  rw [e1]
  clear e1
  obtain ⟨h0, h1⟩ := hn
  have g0 : ¬ n < 0 := by omega
  have g1 : ¬ 1099511627776 < n := by omega
  go_enter Tryz.func89, Tryz.ntmps89
  go_wp2_with fail
  generalize hW0 : World.alloc _ _ = W0
  have kA : Blk W0 w.heap.size 101 [.slice a m c, .int .i64 s.2] := by rw [← hW0]; exact (Blk.new w _ [_, _]).alloc _
  have kR : Blk W0 (w.heap.size + 1) 101 [.slice none 0 0, .int .i64 0] := by rw [← hW0]; exact Blk.new' (vs := [_, _]) (by simp)
  have hB0 : Below w.heap.size w W0 := by rw [← hW0]; exact chainA (chain0 _ _) _
  have hz0 : W0.heap.size = w.heap.size + 2 := by rw [← hW0]; simp
  clear hW0
  have HZ := Lib.hid hz0
  clear hz0
  clear g0 g1
  refine wp_region_held_drew (S := fun W => Blk W w.heap.size 101 [.slice a m c, .int .i64 s.2]) hmx kA ?_
  intro hS
  replace kR : Blk W0.drew (w.heap.size + 1) 101 [.slice none 0 0, .int .i64 0] := kR
  have hB := hB0.drew
  replace hsl : BSl 0 W0.drew.heap.size W0.drew (.slice a m c) s.1 := (hsl.below hB (Nat.le_refl _)).mono (Nat.le_refl _) hB.size
  have HZ2 : Hid (W0.drew.heap.size = w.heap.size + 2) := HZ.out
  clear HZ kA hB0
  generalize W0.drew = Y at *
  refine' wpAnyH_take (i := 0) (oi := _) (v := _) ?hi1 (by kernel_rfl) (by kernel_rfl) (by kernel_rfl) ?hQ1 (Or.inl ⟨?hw1, ?hy1⟩) hS ?rest1
  case hi1 => simp only [List.getElem?_toArray, List.getElem?_cons_zero]; rfl
  case hQ1 => exact fun _ _ _ h => h
  case hw1 => rfl
  case hy1 => intro W' hS'; obtain ⟨c0, c1⟩ := Blk.c2 hS'; go_simp; with_reducible rfl
  try simp only [Act.put, List.setIfInBounds_toArray, List.set_cons_zero, List.set_cons_succ]
  refine' wpAnyH_take (i := 1) (oi := _) (v := _) ?hi2 (by kernel_rfl) (by kernel_rfl) (by kernel_rfl) ?hQ2 (Or.inl ⟨?hw2, ?hy2⟩) hS ?rest2
  case hi2 => simp only [List.getElem?_toArray, List.getElem?_cons_succ, List.getElem?_cons_zero]; rfl
  case hQ2 => exact fun _ _ _ h => h
  case hw2 => rfl
  case hy2 => intro W' hS'; go_simp; with_reducible rfl
  try simp only [Act.put, List.setIfInBounds_toArray, List.set_cons_zero, List.set_cons_succ]
  refine wpAnyH_ready (rs := [2]) (by kernel_rfl) (by simp) ?_
  refine' AllReadyH.cons (o := _) ?ho3 (fun K hK => ?st3) AllReadyH.nil
  case ho3 => simp only [List.getElem?_toArray, List.getElem?_cons_succ, List.getElem?_cons_zero]; rfl
  case st3 =>
   go_simp
   refine (refNum_any n 6 (by omega) (by omega) _).mono ?_
   rintro e Y1 ⟨v, rfl, hv, hb1⟩
   refine hK.out _ _ (hS.below hb1 hS.lt) (fun hS => ?_)
   clear hK K
   try simp only [Act.put, List.setIfInBounds_toArray, List.set_cons_zero, List.set_cons_succ]
   replace kR := kR.below hb1 kR.lt
   replace hB := chain hB hb1
   replace hsl := (hsl.below hb1 (Nat.le_refl _)).mono (Nat.le_refl _) hb1.size
   rw [clamp6'] at hv
   obtain ⟨va, vm, vc, rfl⟩ := hv.shape3
   replace hv := hv.mono (Nat.zero_le _) (Nat.le_refl _)
   clear hb1
   refine wpAnyH_ready (rs := [3]) (by kernel_rfl) (by simp) ?_
   refine' AllReadyH.cons (o := _) ?ho4 (fun K hK => ?st4) AllReadyH.nil
   case ho4 => simp only [List.getElem?_toArray, List.getElem?_cons_succ, List.getElem?_cons_zero]; rfl
   case st4 =>
    go_simp
    refine (refPut_any hok (.slice a m c) (.slice va vm vc) (octs (two n) 6) (by rw [octs_length]; omega) _ hsl hv).mono ?_
    rintro e Y2 ⟨v2, rfl, hv2, hb2⟩
    refine hK.out _ _ (hS.below hb2 hS.lt) (fun hS => ?_)
    clear hK K
    try simp only [Act.put, List.setIfInBounds_toArray, List.set_cons_zero, List.set_cons_succ]
    replace kR := kR.below hb2 kR.lt
    replace hB := chain hB hb2
    clear hv hb2 hsl
    obtain ⟨va, vm, vc, rfl⟩ := hv2.shape3
    have hv := hv2
    clear hv2
    refine wpAnyH_ready (rs := [4]) (by kernel_rfl) (by simp) ?_
    refine' AllReadyH.cons (o := _) ?ho5 (fun K hK => ?st5) AllReadyH.nil
    case ho5 => simp only [List.getElem?_toArray, List.getElem?_cons_succ, List.getElem?_cons_zero]; rfl
    case st5 =>
     obtain ⟨r0, r1⟩ := Blk.c2 kR
     have g0 := kR.frozen 0
     have g1 := kR.frozen 1
     go_simp
     have hfin := refS_stored hv hB (Nat.le_add_right _ 1) ⟨_, _, _, rfl⟩ kR
     refine hK.out _ _ ((hS.other 0 _ (by omega)).other 1 _ (by omega)) (fun hS => ?_)
     clear hK K
     try simp only [Act.put, List.setIfInBounds_toArray, List.set_cons_zero, List.set_cons_succ]
     refine wpAnyH_done (by kernel_rfl) ?_ _
     go_wp2_with fail
     obtain ⟨q0, q1⟩ := Blk.c2 hfin.1
     exact bodyPost_ret (v := .agg #[.slice va vm vc, .int .i64 (addS s (octs (two n) 6)).2]) (by simp [results, Tryz.results89, go_sem, q0, q1]) rfl hfin.2
 ·
  have e1 : numS s n = errS s 4 := if_neg hn
  rw [e1]
  clear e1
  by_cases h0 : n < 0
  all_goals
   have HN := Lib.hid hn
   clear hn
   try (have g1 : 1099511627776 < n := by have := HN.out; omega)
   go_enter Tryz.func89, Tryz.ntmps89
   go_wp2_with fail
   generalize hW0 : World.alloc _ _ = W0
   have kA : Blk W0 w.heap.size 101 [.slice a m c, .int .i64 s.2] := by rw [← hW0]; exact (Blk.new w _ [_, _]).alloc _
   have kR : Blk W0 (w.heap.size + 1) 101 [.slice none 0 0, .int .i64 0] := by rw [← hW0]; exact Blk.new' (vs := [_, _]) (by simp)
   have hB0 : Below w.heap.size w W0 := by rw [← hW0]; exact chainA (chain0 _ _) _
   have hz0 : W0.heap.size = w.heap.size + 2 := by rw [← hW0]; simp
   clear hW0
   have HZ := Lib.hid hz0
   clear hz0
   obtain ⟨c0, c1⟩ := Blk.c2 kA
   go_wp2_with (go_at_call 123; refine (refPutE_any (s := s) (.slice a m c) (.slice none 0 0) 4 (by decide) _ ((hsl.below hB0 (Nat.le_refl _)).mono (Nat.le_refl _) hB0.size)).mono ?_; rintro e Y2 ⟨v2, rfl, hv2, hb2⟩; obtain ⟨va, vm, vc, rfl⟩ := hv2.shape3; have kR2 := kR.below hb2 kR.lt; obtain ⟨r0, r1⟩ := Blk.c2 kR2; have g0 := kR2.frozen 0; have g1 := kR2.frozen 1)
   have hfin := refS_stored hv2 (chain hB0 hb2) (Nat.le_add_right _ 1) ⟨_, _, _, rfl⟩ kR2
   obtain ⟨q0, q1⟩ := Blk.c2 hfin.1
   exact bodyPost_ret (v := .agg #[.slice va vm vc, .int .i64 (errS s 4).2]) (by simp [results, Tryz.results89, go_sem, q0, q1]) rfl hfin.2
set_option maxRecDepth 100000 in
set_option maxHeartbeats 2000000 in
theorem refWide6_any {s : St} (hok : OkS s) (sv : Value) {a0 a1 a2 a3 : Nat} (ha : Ok4 a0 a1 a2 a3) (w : World) (hsl : BSl 0 w.heap.size w sv s.1) :
  Calls Tryz.prog 130 #[.agg #[sv, .int .i64 s.2], wv a0 a1 a2 a3] w (RefS (wideS s a0 a1 a2 a3) w) := by
 have hmx : Tryz.prog.follows .mixedOrders = true := by kernel_rfl
 obtain ⟨a, m, c, rfl⟩ := hsl.shape3
 have hl : (wide8 a0 a1 a2 a3).length = 32 := by unfold wide8; simp only [List.length_append, octs_length]
 have HL := Lib.hid hl
 clear hl
 unfold wideS
 go_enter Tryz.func130, Tryz.ntmps130
 go_wp2_with fail
 generalize hW0 : World.alloc _ _ = W0
 have kA : Blk W0 w.heap.size 101 [.slice a m c, .int .i64 s.2] := by rw [← hW0]; exact ((Blk.new w _ [_, _]).alloc _).alloc _
 have kV : BlkW W0 (w.heap.size + 1) a0 a1 a2 a3 := by rw [← hW0]; exact (Blk.new' (vs := [_, _, _, _]) (by simp)).alloc _
 have kR : Blk W0 (w.heap.size + 2) 101 [.slice none 0 0, .int .i64 0] := by rw [← hW0]; exact Blk.new' (vs := [_, _]) (by simp)
 have hB0 : Below w.heap.size w W0 := by rw [← hW0]; exact chainA (chainA (chain0 _ _) _) _
 have hz0 : W0.heap.size = w.heap.size + 3 := by rw [← hW0]; simp
 clear hW0
 have HZ := Lib.hid hz0
 clear hz0
 refine wp_region_held_drew (S := fun W => Blk W w.heap.size 101 [.slice a m c, .int .i64 s.2] ∧ BlkW W (w.heap.size + 1) a0 a1 a2 a3) hmx ⟨kA, kV⟩ ?_
 intro hS
 replace kR : Blk W0.drew (w.heap.size + 2) 101 [.slice none 0 0, .int .i64 0] := kR
 have hB := hB0.drew
 replace hsl : BSl 0 W0.drew.heap.size W0.drew (.slice a m c) s.1 := (hsl.below hB (Nat.le_refl _)).mono (Nat.le_refl _) hB.size
 have HZ2 : Hid (W0.drew.heap.size = w.heap.size + 3) := HZ.out
 clear HZ kA kV hB0
 generalize W0.drew = Y at *
 refine' wpAnyH_take (i := 0) (oi := _) (v := _) ?hi6 (by kernel_rfl) (by kernel_rfl) (by kernel_rfl) ?hQ6 (Or.inl ⟨?hw6, ?hy6⟩) hS ?rest6
 case hi6 => simp only [List.getElem?_toArray, List.getElem?_cons_zero]; rfl
 case hQ6 => exact fun _ _ _ h => h
 case hw6 => rfl
 case hy6 => intro W' hS'; obtain ⟨c0, c1⟩ := Blk.c2 hS'.1; go_simp; with_reducible rfl
 try simp only [Act.put, List.setIfInBounds_toArray, List.set_cons_zero, List.set_cons_succ]
 refine' wpAnyH_take (i := 1) (oi := _) (v := _) ?hi7 (by kernel_rfl) (by kernel_rfl) (by kernel_rfl) ?hQ7 (Or.inl ⟨?hw7, ?hy7⟩) hS ?rest7
 case hi7 => simp only [List.getElem?_toArray, List.getElem?_cons_succ, List.getElem?_cons_zero]; rfl
 case hQ7 => exact fun _ _ _ h => h
 case hw7 => rfl
 case hy7 => intro W' hS'; obtain ⟨c0, c1, c2, c3⟩ := Blk.c4 hS'.2; go_simp; with_reducible rfl
 try simp only [Act.put, List.setIfInBounds_toArray, List.set_cons_zero, List.set_cons_succ]
 refine wpAnyH_ready (rs := [2]) (by kernel_rfl) (by simp) ?_
 refine' AllReadyH.cons (o := _) ?ho8 (fun K hK => ?st8) AllReadyH.nil
 case ho8 => simp only [List.getElem?_toArray, List.getElem?_cons_succ, List.getElem?_cons_zero]; rfl
 case st8 =>
  go_simp
  refine (refWide_any ha _).mono ?_
  rintro e Y1 ⟨v, rfl, hv, hb1⟩
  refine hK.out _ _ ⟨hS.1.below hb1 hS.1.lt, hS.2.below hb1 hS.2.lt⟩ (fun hS => ?_)
  clear hK K
  try simp only [Act.put, List.setIfInBounds_toArray, List.set_cons_zero, List.set_cons_succ]
  replace kR := kR.below hb1 kR.lt
  replace hB := chain hB hb1
  replace hsl := (hsl.below hb1 (Nat.le_refl _)).mono (Nat.le_refl _) hb1.size
  obtain ⟨va, vm, vc, rfl⟩ := hv.shape3
  replace hv := hv.mono (Nat.zero_le _) (Nat.le_refl _)
  clear hb1
  refine wpAnyH_ready (rs := [3]) (by kernel_rfl) (by simp) ?_
  refine' AllReadyH.cons (o := _) ?ho9 (fun K hK => ?st9) AllReadyH.nil
  case ho9 => simp only [List.getElem?_toArray, List.getElem?_cons_succ, List.getElem?_cons_zero]; rfl
  case st9 =>
   go_simp
   refine (refPut_any hok (.slice a m c) (.slice va vm vc) (wide8 a0 a1 a2 a3) (by rw [HL.out]; omega) _ hsl hv).mono ?_
   rintro e Y2 ⟨v2, rfl, hv2, hb2⟩
   refine hK.out _ _ ⟨hS.1.below hb2 hS.1.lt, hS.2.below hb2 hS.2.lt⟩ (fun hS => ?_)
   clear hK K
   try simp only [Act.put, List.setIfInBounds_toArray, List.set_cons_zero, List.set_cons_succ]
   replace kR := kR.below hb2 kR.lt
   replace hB := chain hB hb2
   clear hv hb2 hsl
   obtain ⟨va, vm, vc, rfl⟩ := hv2.shape3
   have hv := hv2
   clear hv2
   refine wpAnyH_ready (rs := [4]) (by kernel_rfl) (by simp) ?_
   refine' AllReadyH.cons (o := _) ?ho10 (fun K hK => ?st10) AllReadyH.nil
   case ho10 => simp only [List.getElem?_toArray, List.getElem?_cons_succ, List.getElem?_cons_zero]; rfl
   case st10 =>
    obtain ⟨r0, r1⟩ := Blk.c2 kR
    have g0 := kR.frozen 0
    have g1 := kR.frozen 1
    go_simp
    have hfin := refS_stored hv hB (Nat.le_add_right _ 2) ⟨_, _, _, rfl⟩ kR
    refine hK.out _ _ ⟨(hS.1.other 0 _ (by omega)).other 1 _ (by omega), (hS.2.other 0 _ (by omega)).other 1 _ (by omega)⟩ (fun hS => ?_)
    clear hK K
    try simp only [Act.put, List.setIfInBounds_toArray, List.set_cons_zero, List.set_cons_succ]
    refine wpAnyH_done (by kernel_rfl) ?_ _
    go_wp2_with fail
    obtain ⟨q0, q1⟩ := Blk.c2 hfin.1
    exact bodyPost_ret (v := .agg #[.slice va vm vc, .int .i64 (addS s (wide8 a0 a1 a2 a3)).2]) (by simp [results, Tryz.results130, go_sem, q0, q1]) rfl hfin.2
set_option maxRecDepth 100000 in
set_option maxHeartbeats 2000000 in
theorem refText6_any {s : St} (hok : OkS s) (sv : Value) (t : ByteArray) (w : World) (hsl : BSl 0 w.heap.size w sv s.1) :
  Calls Tryz.prog 88 #[.agg #[sv, .int .i64 s.2], .string t] w (RefS (txtS s t) w) := by
 have hmx : Tryz.prog.follows .mixedOrders = true := by kernel_rfl
 obtain ⟨a, m, c, rfl⟩ := hsl.shape3
 by_cases hn : t.size ≤ 1024
 ·
  have e1 : txtS s t = addS s (octs t.size 2 ++ t.data.toList) := if_pos hn
  rw [e1]
  clear e1
  have htl : t.data.toList.length = t.size := by rw [Array.length_toList]; rfl
  have g1 : ¬ (1024 : Int) < (t.size : Int) := by omega
  have HL := Lib.hid htl
  clear htl
  go_enter Tryz.func88, Tryz.ntmps88
  go_wp2_with fail
  generalize hW0 : World.alloc _ _ = W0
  have kA : Blk W0 w.heap.size 101 [.slice a m c, .int .i64 s.2] := by rw [← hW0]; exact (Blk.new w _ [_, _]).alloc _
  have kR : Blk W0 (w.heap.size + 1) 101 [.slice none 0 0, .int .i64 0] := by rw [← hW0]; exact Blk.new' (vs := [_, _]) (by simp)
  have hB0 : Below w.heap.size w W0 := by rw [← hW0]; exact chainA (chain0 _ _) _
  have hz0 : W0.heap.size = w.heap.size + 2 := by rw [← hW0]; simp
  clear hW0
  have HZ := Lib.hid hz0
  clear hz0
  clear g1
  refine wp_region_held_drew (S := fun W => Blk W w.heap.size 101 [.slice a m c, .int .i64 s.2]) hmx kA ?_
  intro hS
  replace kR : Blk W0.drew (w.heap.size + 1) 101 [.slice none 0 0, .int .i64 0] := kR
  have hB := hB0.drew
  replace hsl : BSl 0 W0.drew.heap.size W0.drew (.slice a m c) s.1 := (hsl.below hB (Nat.le_refl _)).mono (Nat.le_refl _) hB.size
  have HZ2 : Hid (W0.drew.heap.size = w.heap.size + 2) := HZ.out
  clear HZ kA hB0
  generalize W0.drew = Y at *
  refine' wpAnyH_take (i := 0) (oi := _) (v := _) ?hi11 (by kernel_rfl) (by kernel_rfl) (by kernel_rfl) ?hQ11 (Or.inl ⟨?hw11, ?hy11⟩) hS ?rest11
  case hi11 => simp only [List.getElem?_toArray, List.getElem?_cons_zero]; rfl
  case hQ11 => exact fun _ _ _ h => h
  case hw11 => rfl
  case hy11 => intro W' hS'; obtain ⟨c0, c1⟩ := Blk.c2 hS'; go_simp; with_reducible rfl
  try simp only [Act.put, List.setIfInBounds_toArray, List.set_cons_zero, List.set_cons_succ]
  refine' wpAnyH_take (i := 1) (oi := _) (v := _) ?hi12 (by kernel_rfl) (by kernel_rfl) (by kernel_rfl) ?hQ12 (Or.inl ⟨?hw12, ?hy12⟩) hS ?rest12
  case hi12 => simp only [List.getElem?_toArray, List.getElem?_cons_succ, List.getElem?_cons_zero]; rfl
  case hQ12 => exact fun _ _ _ h => h
  case hw12 => rfl
  case hy12 => intro W' hS'; go_simp; with_reducible rfl
  try simp only [Act.put, List.setIfInBounds_toArray, List.set_cons_zero, List.set_cons_succ]
  refine' wpAnyH_take (i := 2) (oi := _) (v := _) ?hi13 (by kernel_rfl) (by kernel_rfl) (by kernel_rfl) ?hQ13 (Or.inl ⟨?hw13, ?hy13⟩) hS ?rest13
  case hi13 => simp only [List.getElem?_toArray, List.getElem?_cons_succ, List.getElem?_cons_zero]; rfl
  case hQ13 => exact fun _ _ _ h => h
  case hw13 => rfl
  case hy13 => intro W' hS'; go_simp; with_reducible rfl
  try simp only [Act.put, List.setIfInBounds_toArray, List.set_cons_zero, List.set_cons_succ]
  refine' wpAnyH_take (i := 4) (oi := _) (v := _) ?hi14 (by kernel_rfl) (by kernel_rfl) (by kernel_rfl) ?hQ14 (Or.inl ⟨?hw14, ?hy14⟩) hS ?rest14
  case hi14 => simp only [List.getElem?_toArray, List.getElem?_cons_succ, List.getElem?_cons_zero]; rfl
  case hQ14 => exact fun _ _ _ h => h
  case hw14 => rfl
  case hy14 => intro W' hS'; go_simp; with_reducible rfl
  try simp only [Act.put, List.setIfInBounds_toArray, List.set_cons_zero, List.set_cons_succ]
  refine wpAnyH_ready (rs := [3, 5]) (by kernel_rfl) (by simp) ?_
  refine' AllReadyH.cons (o := _) ?ho15 (fun K hK => ?st15) (AllReadyH.cons (o := _) ?ho16 (fun K hK => ?st16) AllReadyH.nil)
  case ho15 => simp only [List.getElem?_toArray, List.getElem?_cons_succ, List.getElem?_cons_zero]; rfl
  case ho16 => simp only [List.getElem?_toArray, List.getElem?_cons_succ, List.getElem?_cons_zero]; rfl
  case st15 =>
   go_simp
   refine (refNum_any t.size 2 (by omega) (by omega) _).mono ?_
   rintro e Y1 ⟨v, rfl, hv, hb1⟩
   refine hK.out _ _ (hS.below hb1 hS.lt) (fun hS => ?_)
   clear hK K
   try simp only [Act.put, List.setIfInBounds_toArray, List.set_cons_zero, List.set_cons_succ]
   replace kR := kR.below hb1 kR.lt
   replace hB := chain hB hb1
   replace hsl := (hsl.below hb1 (Nat.le_refl _)).mono (Nat.le_refl _) hb1.size
   rw [clamp2', two_nat' (by omega)] at hv
   obtain ⟨va, vm, vc, rfl⟩ := hv.shape3
   replace hv := hv.mono (Nat.zero_le _) (Nat.le_refl _)
   clear hb1
   refine wpAnyH_ready (rs := [5]) (by kernel_rfl) (by simp) ?_
   refine' AllReadyH.cons (o := _) ?ho17 (fun K hK => ?st17) AllReadyH.nil
   case ho17 => simp only [List.getElem?_toArray, List.getElem?_cons_succ, List.getElem?_cons_zero]; rfl
   case st17 =>
    obtain ⟨c5, Y5, hcv, hc5, hb5, hz5, ho5⟩ := conv_bytes Y1 t
    have hx := (conv_bsl hc5 hz5 ho5).mono (Nat.zero_le _) (Nat.le_refl _)
    clear hz5 ho5
    go_simp
    refine hK.out _ _ (hS.below hb5 hS.lt) (fun hS => ?_)
    clear hK K
    try simp only [Act.put, List.setIfInBounds_toArray, List.set_cons_zero, List.set_cons_succ]
    replace kR := kR.below hb5 kR.lt
    replace hB := chain hB hb5
    replace hsl := (hsl.below hb5 (Nat.le_refl _)).mono (Nat.le_refl _) hb5.size
    replace hv := (hv.below hb5 (Nat.le_refl _)).mono (Nat.le_refl _) hb5.size
    clear hb5 hcv hc5
    generalize (some (⟨Y1.heap.size, 0, none⟩ : Addr)) = xa at *
    refine wpAnyH_ready (rs := [6]) (by kernel_rfl) (by simp) ?_
    refine' AllReadyH.cons (o := _) ?ho18 (fun K hK => ?st18) AllReadyH.nil
    case ho18 => simp only [List.getElem?_toArray, List.getElem?_cons_succ, List.getElem?_cons_zero]; rfl
    case st18 =>
     go_simp
     refine (refCat_any (octs t.size 2) t.data.toList (.slice va vm vc) (.slice xa t.size c5) _ (by rw [octs_length, HL.out]; omega) hv hx).mono ?_
     rintro e Y3 ⟨v3, rfl, hv3, hb1⟩
     refine hK.out _ _ (hS.below hb1 hS.lt) (fun hS => ?_)
     clear hK K
     try simp only [Act.put, List.setIfInBounds_toArray, List.set_cons_zero, List.set_cons_succ]
     replace kR := kR.below hb1 kR.lt
     replace hB := chain hB hb1
     replace hsl := (hsl.below hb1 (Nat.le_refl _)).mono (Nat.le_refl _) hb1.size
     have hv4 := (BSl.of_own hv3).mono (Nat.zero_le _) (Nat.le_refl _)
     clear hb1 hv hx hv3
     obtain ⟨va, vm, vc, rfl⟩ := hv4.shape3
     have hv := hv4
     clear hv4
     refine wpAnyH_ready (rs := [7]) (by kernel_rfl) (by simp) ?_
     refine' AllReadyH.cons (o := _) ?ho19 (fun K hK => ?st19) AllReadyH.nil
     case ho19 => simp only [List.getElem?_toArray, List.getElem?_cons_succ, List.getElem?_cons_zero]; rfl
     case st19 =>
      go_simp
      refine (refPut_any hok (.slice a m c) (.slice va vm vc) (octs t.size 2 ++ t.data.toList) (by rw [List.length_append, octs_length, HL.out]; omega) _ hsl hv).mono ?_
      rintro e Y2 ⟨v2, rfl, hv2, hb2⟩
      refine hK.out _ _ (hS.below hb2 hS.lt) (fun hS => ?_)
      clear hK K
      try simp only [Act.put, List.setIfInBounds_toArray, List.set_cons_zero, List.set_cons_succ]
      replace kR := kR.below hb2 kR.lt
      replace hB := chain hB hb2
      clear hv hb2 hsl
      obtain ⟨va, vm, vc, rfl⟩ := hv2.shape3
      have hv := hv2
      clear hv2
      refine wpAnyH_ready (rs := [8]) (by kernel_rfl) (by simp) ?_
      refine' AllReadyH.cons (o := _) ?ho20 (fun K hK => ?st20) AllReadyH.nil
      case ho20 => simp only [List.getElem?_toArray, List.getElem?_cons_succ, List.getElem?_cons_zero]; rfl
      case st20 =>
       obtain ⟨r0, r1⟩ := Blk.c2 kR
       have g0 := kR.frozen 0
       have g1 := kR.frozen 1
       go_simp
       have hfin := refS_stored hv hB (Nat.le_add_right _ 1) ⟨_, _, _, rfl⟩ kR
       refine hK.out _ _ ((hS.other 0 _ (by omega)).other 1 _ (by omega)) (fun hS => ?_)
       clear hK K
       try simp only [Act.put, List.setIfInBounds_toArray, List.set_cons_zero, List.set_cons_succ]
       refine wpAnyH_done (by kernel_rfl) ?_ _
       go_wp2_with fail
       obtain ⟨q0, q1⟩ := Blk.c2 hfin.1
       exact bodyPost_ret (v := .agg #[.slice va vm vc, .int .i64 (addS s (octs t.size 2 ++ t.data.toList)).2]) (by simp [results, Tryz.results88, go_sem, q0, q1]) rfl hfin.2
  case st16 =>
   obtain ⟨c5, Y5, hcv, hc5, hb5, hz5, ho5⟩ := conv_bytes Y t
   have hx := (conv_bsl hc5 hz5 ho5).mono (Nat.zero_le _) (Nat.le_refl _)
   clear hz5 ho5
   go_simp
   refine hK.out _ _ (hS.below hb5 hS.lt) (fun hS => ?_)
   clear hK K
   try simp only [Act.put, List.setIfInBounds_toArray, List.set_cons_zero, List.set_cons_succ]
   replace kR := kR.below hb5 kR.lt
   replace hB := chain hB hb5
   replace hsl := (hsl.below hb5 (Nat.le_refl _)).mono (Nat.le_refl _) hb5.size
   clear hb5 hcv hc5
   generalize (some (⟨Y.heap.size, 0, none⟩ : Addr)) = xa at *
   refine wpAnyH_ready (rs := [3]) (by kernel_rfl) (by simp) ?_
   refine' AllReadyH.cons (o := _) ?ho21 (fun K hK => ?st21) AllReadyH.nil
   case ho21 => simp only [List.getElem?_toArray, List.getElem?_cons_succ, List.getElem?_cons_zero]; rfl
   case st21 =>
    go_simp
    refine (refNum_any t.size 2 (by omega) (by omega) _).mono ?_
    rintro e Y1 ⟨v, rfl, hv, hb1⟩
    refine hK.out _ _ (hS.below hb1 hS.lt) (fun hS => ?_)
    clear hK K
    try simp only [Act.put, List.setIfInBounds_toArray, List.set_cons_zero, List.set_cons_succ]
    replace kR := kR.below hb1 kR.lt
    replace hB := chain hB hb1
    replace hsl := (hsl.below hb1 (Nat.le_refl _)).mono (Nat.le_refl _) hb1.size
    replace hx := (hx.below hb1 (Nat.le_refl _)).mono (Nat.le_refl _) hb1.size
    rw [clamp2', two_nat' (by omega)] at hv
    obtain ⟨va, vm, vc, rfl⟩ := hv.shape3
    replace hv := hv.mono (Nat.zero_le _) (Nat.le_refl _)
    clear hb1
    refine wpAnyH_ready (rs := [6]) (by kernel_rfl) (by simp) ?_
    refine' AllReadyH.cons (o := _) ?ho22 (fun K hK => ?st22) AllReadyH.nil
    case ho22 => simp only [List.getElem?_toArray, List.getElem?_cons_succ, List.getElem?_cons_zero]; rfl
    case st22 =>
     go_simp
     refine (refCat_any (octs t.size 2) t.data.toList (.slice va vm vc) (.slice xa t.size c5) _ (by rw [octs_length, HL.out]; omega) hv hx).mono ?_
     rintro e Y3 ⟨v3, rfl, hv3, hb1⟩
     refine hK.out _ _ (hS.below hb1 hS.lt) (fun hS => ?_)
     clear hK K
     try simp only [Act.put, List.setIfInBounds_toArray, List.set_cons_zero, List.set_cons_succ]
     replace kR := kR.below hb1 kR.lt
     replace hB := chain hB hb1
     replace hsl := (hsl.below hb1 (Nat.le_refl _)).mono (Nat.le_refl _) hb1.size
     have hv4 := (BSl.of_own hv3).mono (Nat.zero_le _) (Nat.le_refl _)
     clear hb1 hv hx hv3
     obtain ⟨va, vm, vc, rfl⟩ := hv4.shape3
     have hv := hv4
     clear hv4
     refine wpAnyH_ready (rs := [7]) (by kernel_rfl) (by simp) ?_
     refine' AllReadyH.cons (o := _) ?ho23 (fun K hK => ?st23) AllReadyH.nil
     case ho23 => simp only [List.getElem?_toArray, List.getElem?_cons_succ, List.getElem?_cons_zero]; rfl
     case st23 =>
      go_simp
      refine (refPut_any hok (.slice a m c) (.slice va vm vc) (octs t.size 2 ++ t.data.toList) (by rw [List.length_append, octs_length, HL.out]; omega) _ hsl hv).mono ?_
      rintro e Y2 ⟨v2, rfl, hv2, hb2⟩
      refine hK.out _ _ (hS.below hb2 hS.lt) (fun hS => ?_)
      clear hK K
      try simp only [Act.put, List.setIfInBounds_toArray, List.set_cons_zero, List.set_cons_succ]
      replace kR := kR.below hb2 kR.lt
      replace hB := chain hB hb2
      clear hv hb2 hsl
      obtain ⟨va, vm, vc, rfl⟩ := hv2.shape3
      have hv := hv2
      clear hv2
      refine wpAnyH_ready (rs := [8]) (by kernel_rfl) (by simp) ?_
      refine' AllReadyH.cons (o := _) ?ho24 (fun K hK => ?st24) AllReadyH.nil
      case ho24 => simp only [List.getElem?_toArray, List.getElem?_cons_succ, List.getElem?_cons_zero]; rfl
      case st24 =>
       obtain ⟨r0, r1⟩ := Blk.c2 kR
       have g0 := kR.frozen 0
       have g1 := kR.frozen 1
       go_simp
       have hfin := refS_stored hv hB (Nat.le_add_right _ 1) ⟨_, _, _, rfl⟩ kR
       refine hK.out _ _ ((hS.other 0 _ (by omega)).other 1 _ (by omega)) (fun hS => ?_)
       clear hK K
       try simp only [Act.put, List.setIfInBounds_toArray, List.set_cons_zero, List.set_cons_succ]
       refine wpAnyH_done (by kernel_rfl) ?_ _
       go_wp2_with fail
       obtain ⟨q0, q1⟩ := Blk.c2 hfin.1
       exact bodyPost_ret (v := .agg #[.slice va vm vc, .int .i64 (addS s (octs t.size 2 ++ t.data.toList)).2]) (by simp [results, Tryz.results88, go_sem, q0, q1]) rfl hfin.2
 ·
  have e1 : txtS s t = errS s 5 := if_neg hn
  rw [e1]
  clear e1
  have g1 : (1024 : Int) < (t.size : Int) := by omega
  go_enter Tryz.func88, Tryz.ntmps88
  go_wp2_with fail
  generalize hW0 : World.alloc _ _ = W0
  have kA : Blk W0 w.heap.size 101 [.slice a m c, .int .i64 s.2] := by rw [← hW0]; exact (Blk.new w _ [_, _]).alloc _
  have kR : Blk W0 (w.heap.size + 1) 101 [.slice none 0 0, .int .i64 0] := by rw [← hW0]; exact Blk.new' (vs := [_, _]) (by simp)
  have hB0 : Below w.heap.size w W0 := by rw [← hW0]; exact chainA (chain0 _ _) _
  have hz0 : W0.heap.size = w.heap.size + 2 := by rw [← hW0]; simp
  clear hW0
  have HZ := Lib.hid hz0
  clear hz0
  obtain ⟨c0, c1⟩ := Blk.c2 kA
  go_wp2_with (go_at_call 123; refine (refPutE_any (s := s) (.slice a m c) (.slice none 0 0) 5 (by decide) _ ((hsl.below hB0 (Nat.le_refl _)).mono (Nat.le_refl _) hB0.size)).mono ?_; rintro e Y2 ⟨v2, rfl, hv2, hb2⟩; obtain ⟨va, vm, vc, rfl⟩ := hv2.shape3; have kR2 := kR.below hb2 kR.lt; obtain ⟨r0, r1⟩ := Blk.c2 kR2; have g0 := kR2.frozen 0; have g1 := kR2.frozen 1)
  have hfin := refS_stored hv2 (chain hB0 hb2) (Nat.le_add_right _ 1) ⟨_, _, _, rfl⟩ kR2
  obtain ⟨q0, q1⟩ := Blk.c2 hfin.1
  exact bodyPost_ret (v := .agg #[.slice va vm vc, .int .i64 (errS s 5).2]) (by simp [results, Tryz.results88, go_sem, q0, q1]) rfl hfin.2
end Go.Proofs.YthhmdgmmeedhdaaGreat
namespace Go.Proofs.YthhmdgmmeedhdaaGreat
open Go.RowKit Go.Shelf
structure WW (T : TypeId) (vs : List Value) (w Y : World) (s : St) (z : Value) : Prop where
 a : Blk Y w.heap.size 101 [z, .int .i64 s.2]
 l : Blk Y (w.heap.size + 1) T vs
 r : Blk Y (w.heap.size + 2) 101 [.slice none 0 0, .int .i64 0]
 b : BSl 0 Y.heap.size Y z s.1
 w : Below w.heap.size w Y
theorem WW.below {T : TypeId} {vs : List Value} {w Y Y' : World} {s : St} {z : Value} (h : WW T vs w Y s z) (hb : Below Y.heap.size Y Y') : WW T vs w Y' s z :=
 ⟨h.a.below hb h.a.lt, h.l.below hb h.l.lt, h.r.below hb h.r.lt, (h.b.below hb (Nat.le_refl _)).mono (Nat.le_refl _) hb.size, chain h.w hb⟩
theorem WW.drew {T : TypeId} {vs : List Value} {w Y : World} {s : St} {z : Value} (h : WW T vs w Y s z) : WW T vs w Y.drew s z := h.below (Below.refl _ Y).drew
theorem WW.fin {T : TypeId} {vs : List Value} {w Y : World} {s s' : St} {z : Value} (h : WW T vs w Y s z) {sv : Value} (hv : BSl 0 Y.heap.size Y sv s'.1) :
  WW T vs w ((Y.setCell ⟨w.heap.size, 0, none⟩ sv).setCell ⟨w.heap.size, 1, none⟩ (.int .i64 s'.2)) s' sv := by
 obtain ⟨h1, h2, h3⟩ := stored_at (y := s'.2) hv h.w (Nat.le_refl _) h.b.shape3 h.a
 exact ⟨h1, (h.l.other 0 _ (by omega)).other 1 _ (by omega), (h.r.other 0 _ (by omega)).other 1 _ (by omega), h2, h3⟩
end Go.Proofs.YthhmdgmmeedhdaaGreat
namespace Go.Proofs.YthhmdgmmeedhdaaGreat
open Go.RowKit Go.Shelf
set_option maxRecDepth 100000 in
set_option maxHeartbeats 2000000 in
theorem refPutInv_any {s : St} (hok : OkS s) (sv : Value) (i : Trf) (w : World) (hsl : BSl 0 w.heap.size w sv s.1) :
    Calls Tryz.prog 53 #[.agg #[sv, .int .i64 s.2], ivv i] w (RefS (putI s i) w) := by
  have hmx : Tryz.prog.follows .mixedOrders = true := by kernel_rfl
  have HG : Hid (putI s i = txtS (numS (numS (numS (numS (txtS (numS (txtS s invB) i.us) i.rt) i.ro) i.se) i.re) i.to) i.id) := Lib.hid rfl
  have hok1 : OkS (txtS (numS (txtS s invB) i.us) i.rt) := okS_putI1 hok i
  have hok2 : OkS (numS (numS (numS (numS (txtS (numS (txtS s invB) i.us) i.rt) i.ro) i.se) i.re) i.to) := okS_putI2 hok1 i
  obtain ⟨a, m, c, rfl⟩ := hsl.shape3
  go_enter Tryz.func53, Tryz.ntmps53
  go_wp2_with fail
  generalize hW0 : World.alloc _ _ = W0
  have hP : WW 46 (ivc i) w W0 s (.slice a m c) := by
    have b3 := chainA (chainA (chain0 w (.cells #[.slice a m c, .int .i64 s.2] 101)) (.cells (ivc i).toArray 46)) (.cells #[.slice none 0 0, .int .i64 0] 101)
    rw [← hW0]
    exact ⟨((Blk.new w _ [_, _]).alloc _).alloc _, (Blk.new' (vs := (ivc i)) (by simp)).alloc _, Blk.new' (vs := [_, _]) (by simp), (hsl.below b3 (Nat.le_refl _)).mono (Nat.le_refl _) b3.size, b3⟩
  clear hW0 hsl
  refine wp_region_held_drew (S := fun W => Blk W (w.heap.size + 1) 46 (ivc i)) hmx hP.l ?_
  intro hS
  replace hP := hP.drew
  generalize World.drew _ = Y at *
  refine' wpAnyH_take (i := 2) (oi := _) (v := _) ?hi1 (by kernel_rfl) (by kernel_rfl) (by kernel_rfl) ?hQ1 (Or.inl ⟨?hw1, ?hy1⟩) hS ?rest1
  case hi1 => simp only [List.getElem?_toArray, List.getElem?_cons_succ, List.getElem?_cons_zero]; rfl
  case hQ1 => exact fun _ _ _ h => h
  case hw1 => rfl
  case hy1 => intro W' hS'; go_simp; with_reducible rfl
  try simp only [Act.put, List.setIfInBounds_toArray, List.set_cons_zero, List.set_cons_succ]
  refine' wpAnyH_take (i := 3) (oi := _) (v := _) ?hi2 (by kernel_rfl) (by kernel_rfl) (by kernel_rfl) ?hQ2 (Or.inl ⟨?hw2, ?hy2⟩) hS ?rest2
  case hi2 => simp only [List.getElem?_toArray, List.getElem?_cons_succ, List.getElem?_cons_zero]; rfl
  case hQ2 => exact fun _ _ _ h => h
  case hw2 => rfl
  case hy2 => intro W' hS'; obtain ⟨c0, c1, c2, c3, c4, c5, c6⟩ := Blk.c7 hS'; go_simp; with_reducible rfl
  try simp only [Act.put, List.setIfInBounds_toArray, List.set_cons_zero, List.set_cons_succ]
  refine' wpAnyH_take (i := 5) (oi := _) (v := _) ?hi3 (by kernel_rfl) (by kernel_rfl) (by kernel_rfl) ?hQ3 (Or.inl ⟨?hw3, ?hy3⟩) hS ?rest3
  case hi3 => simp only [List.getElem?_toArray, List.getElem?_cons_succ, List.getElem?_cons_zero]; rfl
  case hQ3 => exact fun _ _ _ h => h
  case hw3 => rfl
  case hy3 => intro W' hS'; go_simp; with_reducible rfl
  try simp only [Act.put, List.setIfInBounds_toArray, List.set_cons_zero, List.set_cons_succ]
  refine' wpAnyH_take (i := 6) (oi := _) (v := _) ?hi4 (by kernel_rfl) (by kernel_rfl) (by kernel_rfl) ?hQ4 (Or.inl ⟨?hw4, ?hy4⟩) hS ?rest4
  case hi4 => simp only [List.getElem?_toArray, List.getElem?_cons_succ, List.getElem?_cons_zero]; rfl
  case hQ4 => exact fun _ _ _ h => h
  case hw4 => rfl
  case hy4 => intro W' hS'; obtain ⟨c0, c1, c2, c3, c4, c5, c6⟩ := Blk.c7 hS'; go_simp; with_reducible rfl
  try simp only [Act.put, List.setIfInBounds_toArray, List.set_cons_zero, List.set_cons_succ]
  refine wpAnyH_ready (rs := [0]) (by kernel_rfl) (by simp) ?_
  refine' AllReadyH.cons (o := _) ?ho5 (fun K hK => ?st5) AllReadyH.nil
  case ho5 => simp only [List.getElem?_toArray, List.getElem?_cons_zero]; rfl
  case st5 =>
    obtain ⟨a0, a1⟩ := Blk.c2 hP.a
    go_simp
    refine hK.out _ _ hS (fun hS => ?_)
    clear hK K
    try simp only [Act.put, List.setIfInBounds_toArray, List.set_cons_zero, List.set_cons_succ]
    clear a0 a1
    have hv := hP.b
    refine wpAnyH_ready (rs := [1]) (by kernel_rfl) (by simp) ?_
    refine' AllReadyH.cons (o := _) ?ho6 (fun K hK => ?st6) AllReadyH.nil
    case ho6 => simp only [List.getElem?_toArray, List.getElem?_cons_succ, List.getElem?_cons_zero]; rfl
    case st6 =>
      go_simp
      refine (refText6_any hok _ invB _ hv).mono ?_
      rintro e Y1 ⟨v, rfl, hv1, hb⟩
      refine hK.out _ _ (hS.below hb hS.lt) (fun hS => ?_)
      clear hK K
      try simp only [Act.put, List.setIfInBounds_toArray, List.set_cons_zero, List.set_cons_succ]
      replace hP := hP.below hb
      clear hv hb
      obtain ⟨va, vm, vc, rfl⟩ := hv1.shape3
      have hv := hv1
      clear hv1
      refine wpAnyH_ready (rs := [4]) (by kernel_rfl) (by simp) ?_
      refine' AllReadyH.cons (o := _) ?ho7 (fun K hK => ?st7) AllReadyH.nil
      case ho7 => simp only [List.getElem?_toArray, List.getElem?_cons_succ, List.getElem?_cons_zero]; rfl
      case st7 =>
        go_simp
        refine (refNum6_any (okS_txt hok _) _ i.us _ hv).mono ?_
        rintro e Y1 ⟨v, rfl, hv1, hb⟩
        refine hK.out _ _ (hS.below hb hS.lt) (fun hS => ?_)
        clear hK K
        try simp only [Act.put, List.setIfInBounds_toArray, List.set_cons_zero, List.set_cons_succ]
        replace hP := hP.below hb
        clear hv hb
        obtain ⟨va, vm, vc, rfl⟩ := hv1.shape3
        have hv := hv1
        clear hv1
        refine wpAnyH_ready (rs := [7]) (by kernel_rfl) (by simp) ?_
        refine' AllReadyH.cons (o := _) ?ho8 (fun K hK => ?st8) AllReadyH.nil
        case ho8 => simp only [List.getElem?_toArray, List.getElem?_cons_succ, List.getElem?_cons_zero]; rfl
        case st8 =>
          go_simp
          refine (refText6_any (okS_num (okS_txt hok _) _) _ i.rt _ hv).mono ?_
          rintro e Y1 ⟨v, rfl, hv1, hb⟩
          refine hK.out _ _ (hS.below hb hS.lt) (fun hS => ?_)
          clear hK K
          try simp only [Act.put, List.setIfInBounds_toArray, List.set_cons_zero, List.set_cons_succ]
          replace hP := hP.below hb
          clear hv hb
          obtain ⟨va, vm, vc, rfl⟩ := hv1.shape3
          have hv := hv1
          clear hv1
          refine wpAnyH_ready (rs := [8]) (by kernel_rfl) (by simp) ?_
          refine' AllReadyH.cons (o := _) ?ho9 (fun K hK => ?st9) AllReadyH.nil
          case ho9 => simp only [List.getElem?_toArray, List.getElem?_cons_succ, List.getElem?_cons_zero]; rfl
          case st9 =>
            obtain ⟨a0, a1⟩ := Blk.c2 hP.a
            have fa := hP.a.frozen
            go_simp
            refine hK.out _ _ ((hS.other 0 _ (by omega)).other 1 _ (by omega)) (fun hS => ?_)
            clear hK K
            try simp only [Act.put, List.setIfInBounds_toArray, List.set_cons_zero, List.set_cons_succ]
            replace hP := WW.fin (s' := txtS (numS (txtS s invB) i.us) i.rt) hP hv
            clear a0 a1 fa hv
            refine wpAnyH_done (by kernel_rfl) ?_ _
            go_wp2_with fail
            generalize (World.setCell (World.setCell Y1 _ _) _ _) = Y3 at *
            generalize txtS (numS (txtS s invB) i.us) i.rt = s1 at *
            clear hS
            refine wp_region_held_drew (S := fun W => Blk W (w.heap.size + 1) 46 (ivc i)) hmx hP.l ?_
            intro hS
            replace hP := hP.drew
            generalize World.drew _ = Y at *
            refine' wpAnyH_take (i := 1) (oi := _) (v := _) ?hi10 (by kernel_rfl) (by kernel_rfl) (by kernel_rfl) ?hQ10 (Or.inl ⟨?hw10, ?hy10⟩) hS ?rest10
            case hi10 => simp only [List.getElem?_toArray, List.getElem?_cons_succ, List.getElem?_cons_zero]; rfl
            case hQ10 => exact fun _ _ _ h => h
            case hw10 => rfl
            case hy10 => intro W' hS'; go_simp; with_reducible rfl
            try simp only [Act.put, List.setIfInBounds_toArray, List.set_cons_zero, List.set_cons_succ]
            refine' wpAnyH_take (i := 2) (oi := _) (v := _) ?hi11 (by kernel_rfl) (by kernel_rfl) (by kernel_rfl) ?hQ11 (Or.inl ⟨?hw11, ?hy11⟩) hS ?rest11
            case hi11 => simp only [List.getElem?_toArray, List.getElem?_cons_succ, List.getElem?_cons_zero]; rfl
            case hQ11 => exact fun _ _ _ h => h
            case hw11 => rfl
            case hy11 => intro W' hS'; obtain ⟨c0, c1, c2, c3, c4, c5, c6⟩ := Blk.c7 hS'; go_simp; with_reducible rfl
            try simp only [Act.put, List.setIfInBounds_toArray, List.set_cons_zero, List.set_cons_succ]
            refine' wpAnyH_take (i := 4) (oi := _) (v := _) ?hi12 (by kernel_rfl) (by kernel_rfl) (by kernel_rfl) ?hQ12 (Or.inl ⟨?hw12, ?hy12⟩) hS ?rest12
            case hi12 => simp only [List.getElem?_toArray, List.getElem?_cons_succ, List.getElem?_cons_zero]; rfl
            case hQ12 => exact fun _ _ _ h => h
            case hw12 => rfl
            case hy12 => intro W' hS'; go_simp; with_reducible rfl
            try simp only [Act.put, List.setIfInBounds_toArray, List.set_cons_zero, List.set_cons_succ]
            refine' wpAnyH_take (i := 5) (oi := _) (v := _) ?hi13 (by kernel_rfl) (by kernel_rfl) (by kernel_rfl) ?hQ13 (Or.inl ⟨?hw13, ?hy13⟩) hS ?rest13
            case hi13 => simp only [List.getElem?_toArray, List.getElem?_cons_succ, List.getElem?_cons_zero]; rfl
            case hQ13 => exact fun _ _ _ h => h
            case hw13 => rfl
            case hy13 => intro W' hS'; obtain ⟨c0, c1, c2, c3, c4, c5, c6⟩ := Blk.c7 hS'; go_simp; with_reducible rfl
            try simp only [Act.put, List.setIfInBounds_toArray, List.set_cons_zero, List.set_cons_succ]
            refine' wpAnyH_take (i := 7) (oi := _) (v := _) ?hi14 (by kernel_rfl) (by kernel_rfl) (by kernel_rfl) ?hQ14 (Or.inl ⟨?hw14, ?hy14⟩) hS ?rest14
            case hi14 => simp only [List.getElem?_toArray, List.getElem?_cons_succ, List.getElem?_cons_zero]; rfl
            case hQ14 => exact fun _ _ _ h => h
            case hw14 => rfl
            case hy14 => intro W' hS'; go_simp; with_reducible rfl
            try simp only [Act.put, List.setIfInBounds_toArray, List.set_cons_zero, List.set_cons_succ]
            refine' wpAnyH_take (i := 8) (oi := _) (v := _) ?hi15 (by kernel_rfl) (by kernel_rfl) (by kernel_rfl) ?hQ15 (Or.inl ⟨?hw15, ?hy15⟩) hS ?rest15
            case hi15 => simp only [List.getElem?_toArray, List.getElem?_cons_succ, List.getElem?_cons_zero]; rfl
            case hQ15 => exact fun _ _ _ h => h
            case hw15 => rfl
            case hy15 => intro W' hS'; obtain ⟨c0, c1, c2, c3, c4, c5, c6⟩ := Blk.c7 hS'; go_simp; with_reducible rfl
            try simp only [Act.put, List.setIfInBounds_toArray, List.set_cons_zero, List.set_cons_succ]
            refine' wpAnyH_take (i := 10) (oi := _) (v := _) ?hi16 (by kernel_rfl) (by kernel_rfl) (by kernel_rfl) ?hQ16 (Or.inl ⟨?hw16, ?hy16⟩) hS ?rest16
            case hi16 => simp only [List.getElem?_toArray, List.getElem?_cons_succ, List.getElem?_cons_zero]; rfl
            case hQ16 => exact fun _ _ _ h => h
            case hw16 => rfl
            case hy16 => intro W' hS'; go_simp; with_reducible rfl
            try simp only [Act.put, List.setIfInBounds_toArray, List.set_cons_zero, List.set_cons_succ]
            refine' wpAnyH_take (i := 11) (oi := _) (v := _) ?hi17 (by kernel_rfl) (by kernel_rfl) (by kernel_rfl) ?hQ17 (Or.inl ⟨?hw17, ?hy17⟩) hS ?rest17
            case hi17 => simp only [List.getElem?_toArray, List.getElem?_cons_succ, List.getElem?_cons_zero]; rfl
            case hQ17 => exact fun _ _ _ h => h
            case hw17 => rfl
            case hy17 => intro W' hS'; obtain ⟨c0, c1, c2, c3, c4, c5, c6⟩ := Blk.c7 hS'; go_simp; with_reducible rfl
            try simp only [Act.put, List.setIfInBounds_toArray, List.set_cons_zero, List.set_cons_succ]
            refine wpAnyH_ready (rs := [0]) (by kernel_rfl) (by simp) ?_
            refine' AllReadyH.cons (o := _) ?ho18 (fun K hK => ?st18) AllReadyH.nil
            case ho18 => simp only [List.getElem?_toArray, List.getElem?_cons_zero]; rfl
            case st18 =>
              obtain ⟨a0, a1⟩ := Blk.c2 hP.a
              go_simp
              refine hK.out _ _ hS (fun hS => ?_)
              clear hK K
              try simp only [Act.put, List.setIfInBounds_toArray, List.set_cons_zero, List.set_cons_succ]
              clear a0 a1
              have hv := hP.b
              refine wpAnyH_ready (rs := [3]) (by kernel_rfl) (by simp) ?_
              refine' AllReadyH.cons (o := _) ?ho19 (fun K hK => ?st19) AllReadyH.nil
              case ho19 => simp only [List.getElem?_toArray, List.getElem?_cons_succ, List.getElem?_cons_zero]; rfl
              case st19 =>
                go_simp
                refine (refNum6_any hok1 _ i.ro _ hv).mono ?_
                rintro e Y1 ⟨v, rfl, hv1, hb⟩
                refine hK.out _ _ (hS.below hb hS.lt) (fun hS => ?_)
                clear hK K
                try simp only [Act.put, List.setIfInBounds_toArray, List.set_cons_zero, List.set_cons_succ]
                replace hP := hP.below hb
                clear hv hb
                obtain ⟨va, vm, vc, rfl⟩ := hv1.shape3
                have hv := hv1
                clear hv1
                refine wpAnyH_ready (rs := [6]) (by kernel_rfl) (by simp) ?_
                refine' AllReadyH.cons (o := _) ?ho20 (fun K hK => ?st20) AllReadyH.nil
                case ho20 => simp only [List.getElem?_toArray, List.getElem?_cons_succ, List.getElem?_cons_zero]; rfl
                case st20 =>
                  go_simp
                  refine (refNum6_any (okS_num hok1 _) _ i.se _ hv).mono ?_
                  rintro e Y1 ⟨v, rfl, hv1, hb⟩
                  refine hK.out _ _ (hS.below hb hS.lt) (fun hS => ?_)
                  clear hK K
                  try simp only [Act.put, List.setIfInBounds_toArray, List.set_cons_zero, List.set_cons_succ]
                  replace hP := hP.below hb
                  clear hv hb
                  obtain ⟨va, vm, vc, rfl⟩ := hv1.shape3
                  have hv := hv1
                  clear hv1
                  refine wpAnyH_ready (rs := [9]) (by kernel_rfl) (by simp) ?_
                  refine' AllReadyH.cons (o := _) ?ho21 (fun K hK => ?st21) AllReadyH.nil
                  case ho21 => simp only [List.getElem?_toArray, List.getElem?_cons_succ, List.getElem?_cons_zero]; rfl
                  case st21 =>
                    go_simp
                    refine (refNum6_any (okS_num (okS_num hok1 _) _) _ i.re _ hv).mono ?_
                    rintro e Y1 ⟨v, rfl, hv1, hb⟩
                    refine hK.out _ _ (hS.below hb hS.lt) (fun hS => ?_)
                    clear hK K
                    try simp only [Act.put, List.setIfInBounds_toArray, List.set_cons_zero, List.set_cons_succ]
                    replace hP := hP.below hb
                    clear hv hb
                    obtain ⟨va, vm, vc, rfl⟩ := hv1.shape3
                    have hv := hv1
                    clear hv1
                    refine wpAnyH_ready (rs := [12]) (by kernel_rfl) (by simp) ?_
                    refine' AllReadyH.cons (o := _) ?ho22 (fun K hK => ?st22) AllReadyH.nil
                    case ho22 => simp only [List.getElem?_toArray, List.getElem?_cons_succ, List.getElem?_cons_zero]; rfl
                    case st22 =>
                      go_simp
                      refine (refNum6_any (okS_num (okS_num (okS_num hok1 _) _) _) _ i.to _ hv).mono ?_
                      rintro e Y1 ⟨v, rfl, hv1, hb⟩
                      refine hK.out _ _ (hS.below hb hS.lt) (fun hS => ?_)
                      clear hK K
                      try simp only [Act.put, List.setIfInBounds_toArray, List.set_cons_zero, List.set_cons_succ]
                      replace hP := hP.below hb
                      clear hv hb
                      obtain ⟨va, vm, vc, rfl⟩ := hv1.shape3
                      have hv := hv1
                      clear hv1
                      refine wpAnyH_ready (rs := [13]) (by kernel_rfl) (by simp) ?_
                      refine' AllReadyH.cons (o := _) ?ho23 (fun K hK => ?st23) AllReadyH.nil
                      case ho23 => simp only [List.getElem?_toArray, List.getElem?_cons_succ, List.getElem?_cons_zero]; rfl
                      case st23 =>
                        obtain ⟨a0, a1⟩ := Blk.c2 hP.a
                        have fa := hP.a.frozen
                        go_simp
                        refine hK.out _ _ ((hS.other 0 _ (by omega)).other 1 _ (by omega)) (fun hS => ?_)
                        clear hK K
                        try simp only [Act.put, List.setIfInBounds_toArray, List.set_cons_zero, List.set_cons_succ]
                        replace hP := WW.fin (s' := numS (numS (numS (numS s1 i.ro) i.se) i.re) i.to) hP hv
                        clear a0 a1 fa hv
                        refine wpAnyH_done (by kernel_rfl) ?_ _
                        go_upto_region 3 with fail
                        generalize (World.setCell (World.setCell Y1 _ _) _ _) = Y4 at *
                        generalize numS (numS (numS (numS s1 i.ro) i.se) i.re) i.to = s2 at *
                        obtain ⟨a0, a1⟩ := Blk.c2 hP.a
                        obtain ⟨c0, c1, c2, c3, c4, c5, c6⟩ := Blk.c7 hP.l
                        go_wp2_with (go_at_call 88; refine (refText6_any hok2 (.slice va vm vc) i.id _ hP.b).mono ?_; rintro e Y5 ⟨v2, rfl, hv2, hb2⟩; obtain ⟨xa, xm, xc, rfl⟩ := hv2.shape3; replace hP := hP.below hb2; obtain ⟨r0, r1⟩ := Blk.c2 hP.r; have g0 := hP.r.frozen 0; have g1 := hP.r.frozen 1)
                        have hfin := refS_stored hv2 hP.w (Nat.le_add_right _ 2) ⟨_, _, _, rfl⟩ hP.r
                        obtain ⟨q0, q1⟩ := Blk.c2 hfin.1
                        exact bodyPost_ret (v := .agg #[.slice xa xm xc, .int .i64 (txtS s2 i.id).2]) (by simp [results, Tryz.results53, go_sem, q0, q1]) rfl (by rw [HG.out]; exact hfin.2)
set_option maxRecDepth 100000 in
set_option maxHeartbeats 2000000 in
theorem refPutVar_any {s : St} (hok : OkS s) (sv : Value) (v : Sid) (hv4 : Ok4 v.a0 v.a1 v.a2 v.a3) (w : World) (hsl : BSl 0 w.heap.size w sv s.1) :
    Calls Tryz.prog 104 #[.agg #[sv, .int .i64 s.2], svv v] w (RefS (putV s v) w) := by
  have hmx : Tryz.prog.follows .mixedOrders = true := by kernel_rfl
  have HG : Hid (putV s v = numS (wideS s v.a0 v.a1 v.a2 v.a3) v.x) := Lib.hid rfl
  obtain ⟨a, m, c, rfl⟩ := hsl.shape3
  go_enter Tryz.func104, Tryz.ntmps104
  go_wp2_with fail
  generalize hW0 : World.alloc _ _ = W0
  have hP : WW 48 (svc v) w W0 s (.slice a m c) := by
    have b3 := chainA (chainA (chain0 w (.cells #[.slice a m c, .int .i64 s.2] 101)) (.cells (svc v).toArray 48)) (.cells #[.slice none 0 0, .int .i64 0] 101)
    rw [← hW0]
    exact ⟨((Blk.new w _ [_, _]).alloc _).alloc _, (Blk.new' (vs := (svc v)) (by simp)).alloc _, Blk.new' (vs := [_, _]) (by simp), (hsl.below b3 (Nat.le_refl _)).mono (Nat.le_refl _) b3.size, b3⟩
  clear hW0 hsl
  refine wp_region_held_drew (S := fun W => Blk W (w.heap.size + 1) 48 (svc v)) hmx hP.l ?_
  intro hS
  replace hP := hP.drew
  generalize World.drew _ = Y at *
  refine' wpAnyH_take (i := 1) (oi := _) (v := _) ?hi24 (by kernel_rfl) (by kernel_rfl) (by kernel_rfl) ?hQ24 (Or.inl ⟨?hw24, ?hy24⟩) hS ?rest24
  case hi24 => simp only [List.getElem?_toArray, List.getElem?_cons_succ, List.getElem?_cons_zero]; rfl
  case hQ24 => exact fun _ _ _ h => h
  case hw24 => rfl
  case hy24 => intro W' hS'; go_simp; with_reducible rfl
  try simp only [Act.put, List.setIfInBounds_toArray, List.set_cons_zero, List.set_cons_succ]
  refine' wpAnyH_take (i := 2) (oi := _) (v := _) ?hi25 (by kernel_rfl) (by kernel_rfl) (by kernel_rfl) ?hQ25 (Or.inl ⟨?hw25, ?hy25⟩) hS ?rest25
  case hi25 => simp only [List.getElem?_toArray, List.getElem?_cons_succ, List.getElem?_cons_zero]; rfl
  case hQ25 => exact fun _ _ _ h => h
  case hw25 => rfl
  case hy25 => intro W' hS'; obtain ⟨c0, c1, c2, c3, c4⟩ := Blk.c5 hS'; go_simp; with_reducible rfl
  try simp only [Act.put, List.setIfInBounds_toArray, List.set_cons_zero, List.set_cons_succ]
  refine' wpAnyH_take (i := 4) (oi := _) (v := _) ?hi26 (by kernel_rfl) (by kernel_rfl) (by kernel_rfl) ?hQ26 (Or.inl ⟨?hw26, ?hy26⟩) hS ?rest26
  case hi26 => simp only [List.getElem?_toArray, List.getElem?_cons_succ, List.getElem?_cons_zero]; rfl
  case hQ26 => exact fun _ _ _ h => h
  case hw26 => rfl
  case hy26 => intro W' hS'; go_simp; with_reducible rfl
  try simp only [Act.put, List.setIfInBounds_toArray, List.set_cons_zero, List.set_cons_succ]
  refine' wpAnyH_take (i := 5) (oi := _) (v := _) ?hi27 (by kernel_rfl) (by kernel_rfl) (by kernel_rfl) ?hQ27 (Or.inl ⟨?hw27, ?hy27⟩) hS ?rest27
  case hi27 => simp only [List.getElem?_toArray, List.getElem?_cons_succ, List.getElem?_cons_zero]; rfl
  case hQ27 => exact fun _ _ _ h => h
  case hw27 => rfl
  case hy27 => intro W' hS'; obtain ⟨c0, c1, c2, c3, c4⟩ := Blk.c5 hS'; go_simp; with_reducible rfl
  try simp only [Act.put, List.setIfInBounds_toArray, List.set_cons_zero, List.set_cons_succ]
  refine wpAnyH_ready (rs := [0]) (by kernel_rfl) (by simp) ?_
  refine' AllReadyH.cons (o := _) ?ho28 (fun K hK => ?st28) AllReadyH.nil
  case ho28 => simp only [List.getElem?_toArray, List.getElem?_cons_zero]; rfl
  case st28 =>
    obtain ⟨a0, a1⟩ := Blk.c2 hP.a
    go_simp
    refine hK.out _ _ hS (fun hS => ?_)
    clear hK K
    try simp only [Act.put, List.setIfInBounds_toArray, List.set_cons_zero, List.set_cons_succ]
    clear a0 a1
    have hv := hP.b
    refine wpAnyH_ready (rs := [3]) (by kernel_rfl) (by simp) ?_
    refine' AllReadyH.cons (o := _) ?ho29 (fun K hK => ?st29) AllReadyH.nil
    case ho29 => simp only [List.getElem?_toArray, List.getElem?_cons_succ, List.getElem?_cons_zero]; rfl
    case st29 =>
      go_simp
      refine (refWide6_any hok _ hv4 _ hv).mono ?_
      rintro e Y1 ⟨vv, rfl, hv1, hb⟩
      refine hK.out _ _ (hS.below hb hS.lt) (fun hS => ?_)
      clear hK K
      try simp only [Act.put, List.setIfInBounds_toArray, List.set_cons_zero, List.set_cons_succ]
      replace hP := hP.below hb
      clear hv hb
      obtain ⟨va, vm, vc, rfl⟩ := hv1.shape3
      have hv := hv1
      clear hv1
      refine wpAnyH_ready (rs := [6]) (by kernel_rfl) (by simp) ?_
      refine' AllReadyH.cons (o := _) ?ho30 (fun K hK => ?st30) AllReadyH.nil
      case ho30 => simp only [List.getElem?_toArray, List.getElem?_cons_succ, List.getElem?_cons_zero]; rfl
      case st30 =>
        go_simp
        refine (refNum6_any (okS_wide hok _ _ _ _) _ v.x _ hv).mono ?_
        rintro e Y1 ⟨vv, rfl, hv1, hb⟩
        refine hK.out _ _ (hS.below hb hS.lt) (fun hS => ?_)
        clear hK K
        try simp only [Act.put, List.setIfInBounds_toArray, List.set_cons_zero, List.set_cons_succ]
        replace hP := hP.below hb
        clear hv hb
        obtain ⟨va, vm, vc, rfl⟩ := hv1.shape3
        have hv := hv1
        clear hv1
        refine wpAnyH_ready (rs := [7]) (by kernel_rfl) (by simp) ?_
        refine' AllReadyH.cons (o := _) ?ho31 (fun K hK => ?st31) AllReadyH.nil
        case ho31 => simp only [List.getElem?_toArray, List.getElem?_cons_succ, List.getElem?_cons_zero]; rfl
        case st31 =>
          obtain ⟨r0, r1⟩ := Blk.c2 hP.r
          have g0 := hP.r.frozen
          go_simp
          refine hK.out _ _ ((hS.other 0 _ (by omega)).other 1 _ (by omega)) (fun hS => ?_)
          clear hK K
          try simp only [Act.put, List.setIfInBounds_toArray, List.set_cons_zero, List.set_cons_succ]
          refine wpAnyH_done (by kernel_rfl) ?_ _
          have hfin := refS_stored hv hP.w (Nat.le_add_right _ 2) ⟨_, _, _, rfl⟩ hP.r
          go_wp2_with fail
          obtain ⟨q0, q1⟩ := Blk.c2 hfin.1
          exact bodyPost_ret (v := .agg #[.slice va vm vc, .int .i64 (putV s v).2]) (by simp [results, Tryz.results104, go_sem, q0, q1]; rfl) rfl (by rw [HG.out]; exact hfin.2)
end Go.Proofs.YthhmdgmmeedhdaaGreat
namespace Go.Proofs.YthhmdgmmeedhdaaGreat
open Go.RowKit Go.Shelf
set_option maxRecDepth 100000 in
set_option maxHeartbeats 2000000 in
theorem refInv_any (i : Trf) (w : World) :
  Calls Tryz.prog 51 #[ivv i] w fun e W' => e = .returned (.int .i64 (errI i)) ∧ Below w.heap.size w W' := by
 have HY : Hid (maybeI i → errI i = 0) := Lib.hid fun h => if_pos h
 have HN : Hid (¬ maybeI i → errI i = 39) := Lib.hid fun h => if_neg h
 obtain ⟨us, rt, ro, se, re, tq, id⟩ := i
 have HM : Hid (maybeI ⟨us, rt, ro, se, re, tq, id⟩ ↔ ((0 ≤ us ∧ us ≤ 1) ∧ (rt.size : Int) = 8 ∧ (2 ≤ ro ∧ ro ≤ 3) ∧ (0 ≤ se ∧ se ≤ 1) ∧ (0 ≤ re ∧ re ≤ 1) ∧ (0 ≤ tq ∧ tq ≤ 7) ∧ (1 : Int) ≤ (id.size : Int) ∧ (id.size : Int) ≤ 16)) := Lib.hid (by
  unfold maybeI
  exact ⟨fun ⟨a, b, c, d, e, f, g, h⟩ => ⟨a, by simp only at b; omega, c, d, e, f, by simp only at g; omega, by simp only at h; omega⟩, fun ⟨a, b, c, d, e, f, g, h⟩ => ⟨a, by simp only; omega, c, d, e, f, by simp only; omega, by simp only; omega⟩⟩)
 generalize errI _ = x at *
 by_cases c0 : us < 0
 ·
  have HX := HN.out (by rw [HM.out]; omega)
  have HX2 := Lib.hid HX
  clear HX
  go_enter Tryz.func51, Tryz.ntmps51
  go_wp2
  go_ret
  exact ⟨by rw [HX2.out]; rfl, chain0 _ _⟩
 by_cases c1 : 1 < us
 ·
  have HX := HN.out (by rw [HM.out]; omega)
  have HX2 := Lib.hid HX
  clear HX
  go_enter Tryz.func51, Tryz.ntmps51
  go_wp2
  go_ret
  exact ⟨by rw [HX2.out]; rfl, chain0 _ _⟩
 by_cases c2 : ro < 2
 ·
  have HX := HN.out (by rw [HM.out]; omega)
  have HX2 := Lib.hid HX
  clear HX
  go_enter Tryz.func51, Tryz.ntmps51
  go_wp2
  go_ret
  exact ⟨by rw [HX2.out]; rfl, chain0 _ _⟩
 by_cases c3 : 3 < ro
 ·
  have HX := HN.out (by rw [HM.out]; omega)
  have HX2 := Lib.hid HX
  clear HX
  go_enter Tryz.func51, Tryz.ntmps51
  go_wp2
  go_ret
  exact ⟨by rw [HX2.out]; rfl, chain0 _ _⟩
 by_cases c4 : se < 0
 ·
  have HX := HN.out (by rw [HM.out]; omega)
  have HX2 := Lib.hid HX
  clear HX
  go_enter Tryz.func51, Tryz.ntmps51
  go_wp2
  go_ret
  exact ⟨by rw [HX2.out]; rfl, chain0 _ _⟩
 by_cases c5 : 1 < se
 ·
  have HX := HN.out (by rw [HM.out]; omega)
  have HX2 := Lib.hid HX
  clear HX
  go_enter Tryz.func51, Tryz.ntmps51
  go_wp2
  go_ret
  exact ⟨by rw [HX2.out]; rfl, chain0 _ _⟩
 by_cases c6 : re < 0
 ·
  have HX := HN.out (by rw [HM.out]; omega)
  have HX2 := Lib.hid HX
  clear HX
  go_enter Tryz.func51, Tryz.ntmps51
  go_wp2
  go_ret
  exact ⟨by rw [HX2.out]; rfl, chain0 _ _⟩
 by_cases c7 : 1 < re
 ·
  have HX := HN.out (by rw [HM.out]; omega)
  have HX2 := Lib.hid HX
  clear HX
  go_enter Tryz.func51, Tryz.ntmps51
  go_wp2
  go_ret
  exact ⟨by rw [HX2.out]; rfl, chain0 _ _⟩
 by_cases c8 : tq < 0
 ·
  have HX := HN.out (by rw [HM.out]; omega)
  have HX2 := Lib.hid HX
  clear HX
  go_enter Tryz.func51, Tryz.ntmps51
  go_wp2
  go_ret
  exact ⟨by rw [HX2.out]; rfl, chain0 _ _⟩
 by_cases c9 : 7 < tq
 ·
  have HX := HN.out (by rw [HM.out]; omega)
  have HX2 := Lib.hid HX
  clear HX
  go_enter Tryz.func51, Tryz.ntmps51
  go_wp2
  go_ret
  exact ⟨by rw [HX2.out]; rfl, chain0 _ _⟩
 by_cases c10 : (rt.size : Int) = 8
 rotate_left
 ·
  have e1 : ((rt.size : Int) == 8) = false := by simpa using c10
  have e2 : ((rt.size : Int) != 8) = true := by simpa using c10
  have HX := HN.out (by rw [HM.out]; omega)
  have HX2 := Lib.hid HX
  clear HX c10
  go_enter Tryz.func51, Tryz.ntmps51
  go_wp2
  go_ret
  exact ⟨by rw [HX2.out]; rfl, chain0 _ _⟩
 have e1 : ((rt.size : Int) == 8) = true := by simpa using c10
 have e2 : ((rt.size : Int) != 8) = false := by simpa using c10
 have HC := Lib.hid c10
 clear c10
 by_cases c11 : (id.size : Int) < 1
 ·
  have HX := HN.out (by rw [HM.out]; have := HC.out; omega)
  have HX2 := Lib.hid HX
  clear HX
  go_enter Tryz.func51, Tryz.ntmps51
  go_wp2
  go_ret
  exact ⟨by rw [HX2.out]; rfl, chain0 _ _⟩
 by_cases c12 : 16 < (id.size : Int)
 ·
  have HX := HN.out (by rw [HM.out]; have := HC.out; omega)
  have HX2 := Lib.hid HX
  clear HX
  go_enter Tryz.func51, Tryz.ntmps51
  go_wp2
  go_ret
  exact ⟨by rw [HX2.out]; rfl, chain0 _ _⟩
 have HX := HY.out (by rw [HM.out]; have := HC.out; omega)
 have HX2 := Lib.hid HX
 clear HX
 go_enter Tryz.func51, Tryz.ntmps51
 go_wp2
 go_ret
 exact ⟨by rw [HX2.out]; rfl, chain0 _ _⟩
end Go.Proofs.YthhmdgmmeedhdaaGreat
namespace Go.Proofs.YthhmdgmmeedhdaaGreat
open Go.RowKit Go.Shelf
set_option maxRecDepth 100000 in
theorem refVar_any (v : Sid) (w : World) :
  Calls Tryz.prog 69 #[svv v] w fun e W' => e = .returned (.int .i64 (errV v)) ∧ Below w.heap.size w W' := by
 have hweq := @run_equalIn_wide
 by_cases h0 : v.a0 = 0 ∧ v.a1 = 0 ∧ v.a2 = 0 ∧ v.a3 = 0
 ·
  have hE : errV v = 36 := if_neg fun h => h.1 h0
  rw [hE]
  have hq : wEq (v.a0 : Nat) (v.a1 : Nat) (v.a2 : Nat) (v.a3 : Nat) 0 0 0 0 = true := by
   obtain ⟨e0, e1, e2, e3⟩ := h0
   rw [e0, e1, e2, e3]; rfl
  clear hE h0
  go_enter Tryz.func69, Tryz.ntmps69
  go_wp2
  go_ret
  exact ⟨rfl, chain0 w _⟩
 ·
  have hq : wEq (v.a0 : Nat) (v.a1 : Nat) (v.a2 : Nat) (v.a3 : Nat) 0 0 0 0 = false := wEq_not (by omega)
  by_cases hl : v.x < 0
  ·
   have hE : errV v = 36 := if_neg fun h => by have := h.2; omega
   rw [hE]
   clear hE h0
   go_enter Tryz.func69, Tryz.ntmps69
   go_wp2
   go_ret
   exact ⟨rfl, chain0 w _⟩
  by_cases hx : 1099511627776 < v.x
  ·
   have hE : errV v = 36 := if_neg fun h => by have := h.2; omega
   rw [hE]
   clear hE h0
   go_enter Tryz.func69, Tryz.ntmps69
   go_wp2
   go_ret
   exact ⟨rfl, chain0 w _⟩
  ·
   have hE : errV v = 0 := if_pos ⟨h0, by omega, by omega⟩
   rw [hE]
   clear hE h0
   go_enter Tryz.func69, Tryz.ntmps69
   go_wp2
   go_ret
   exact ⟨rfl, chain0 w _⟩
end Go.Proofs.YthhmdgmmeedhdaaGreat
namespace Go.Proofs.YthhmdgmmeedhdaaGreat
open Go.RowKit Go.Shelf
theorem str_of (W : World) {lo hi : Nat} {sv : Value} {l : List UInt8} (h : BSl lo hi W sv l) : (convert 95 9 sv).run Tryz.prog W = .ok (.string ⟨l.toArray⟩) W :=
 run_string (P := Tryz.prog) 95 5 9 Tryz.underlying95 Tryz.underlying5 Tryz.underlying9 W h
theorem fieldB (W : World) (a : Option Addr) (m c : Nat) (x : Int) : (Instr.field 101 (.agg #[.slice a m c, .int .i64 x]) 0).run Tryz.prog W = .ok (.slice a m c) W := by
 simp [Instr.field, asAgg, run_underlying Tryz.underlying101, go_sem]
end Go.Proofs.YthhmdgmmeedhdaaGreat
namespace Go.Proofs.YthhmdgmmeedhdaaGreat
open Go.RowKit Go.Shelf
theorem refSumS_any (l : List UInt8) (sv : Value) (w : World) (hreach : l.length ≤ 140737488353000) (hsv : BSl 0 w.heap.size w sv l) :
  Calls Tryz.prog 52 #[sv] w fun e W' => ∃ v, e = .returned v ∧ BSl 0 W'.heap.size W' v (sumL cb sq l) ∧ Below w.heap.size w W' :=
 (refSum_any l sv w hreach hsv).mono fun _ _ ⟨v, h1, h2, h3⟩ => ⟨v, h1, (BSl.of_own h2).mono (Nat.zero_le _) (Nat.le_refl _), h3⟩
set_option maxRecDepth 100000 in
set_option maxHeartbeats 1000000 in
theorem refKey_any (i : Trf) (w : World) :
  Calls Tryz.prog 23 #[ivv i] w fun e W' => e = .returned (.string (keyB i)) ∧ Below w.heap.size w W' := by
 have kB := Blk.new w 46 (ivc i)
 have hB := chain0 w (.cells (ivc i).toArray 46)
 have HC := Lib.hid (refInv_any i)
 by_cases hm : maybeI i
 ·
  have HE := Lib.hid (errI_zero hm)
  have e1 : keyB i = sumS (putI ([], 0) i).1 := if_pos hm
  rw [e1]
  have hlen := (okS_putI okS_new i).2
  have HLE := Lib.hid hlen
  clear hm e1 hlen
  have hfb := fieldB
  have HPI := Lib.hid (fun W => refPutInv_any okS_new (.slice none 0 0) i W (BSl.nil _ _ _))
  generalize putI ([], 0) i = st at *
  go_enter Tryz.func23, Tryz.ntmps23
  go_wp2_with (first
   | (go_at_call 51; refine (HC.out _).mono ?_; rw [HE.out]; rintro e W1 ⟨rfl, hb1⟩; replace kB := kB.below hb1 kB.lt; replace hB := chain hB hb1; obtain ⟨c0, c1, c2, c3, c4, c5, c6⟩ := kB.c7; clear hb1)
   | (go_at_call 53; refine (HPI.out _).mono ?_; rintro e W2 ⟨v2, rfl, hv2, hb2⟩; replace hB := chain hB hb2; obtain ⟨va, vm, vc, rfl⟩ := hv2.shape3)
   | (go_at_call 52; refine (refSumS_any _ _ _ (by have := HLE.out; omega) hv2).mono ?_; rintro e W3 ⟨v3, rfl, hv3, hb3⟩; have hcv := str_of _ hv3))
  go_ret
  exact ⟨rfl, chain hB hb3⟩
 ·
  have HE := Lib.hid (errI_bad hm)
  have e1 : keyB i = ⟨#[]⟩ := if_neg hm
  rw [e1]
  clear hm e1
  go_enter Tryz.func23, Tryz.ntmps23
  go_wp2_with (first
   | (go_at_call 51; refine (HC.out _).mono ?_; rw [HE.out]; rintro e W1 ⟨rfl, hb1⟩))
  go_ret
  exact ⟨rfl, chain hB hb1⟩
set_option maxRecDepth 100000 in
set_option maxHeartbeats 2000000 in
theorem refDigest_any (i : Trf) (v : Sid) (hv4 : Ok4 v.a0 v.a1 v.a2 v.a3) (w : World) :
  Calls Tryz.prog 71 #[ivv i, svv v] w fun e W' => e = .returned (.string (digB i v)) ∧ Below w.heap.size w W' := by
 have hmx : Tryz.prog.follows .mixedOrders = true := by kernel_rfl
 have kB : Blk ((w.alloc (.cells (ivc i).toArray 46)).alloc (.cells (svc v).toArray 48)) w.heap.size 46 (ivc i) := (Blk.new w 46 (ivc i)).alloc _
 have kV : Blk ((w.alloc (.cells (ivc i).toArray 46)).alloc (.cells (svc v).toArray 48)) (w.heap.size + 1) 48 (svc v) := Blk.new' (by simp)
 have hB := chainA (chain0 w (.cells (ivc i).toArray 46)) (.cells (svc v).toArray 48)
 have HC := Lib.hid (refInv_any i)
 have HS := Lib.hid (refVar_any v)
 by_cases hm : maybeI i
 ·
  have HE := Lib.hid (errI_zero hm)
  by_cases hn : maybeV v
  ·
   have HF := Lib.hid (errV_zero hn)
   have e1 : digB i v = sumS (putV (txtS ([], 0) (keyB i)) v).1 := if_pos ⟨hm, hn⟩
   rw [e1]
   have hlen := (okS_dig i v).2
   have HLE := Lib.hid hlen
   clear hm hn e1 hlen
   have HK := Lib.hid (refKey_any i)
   have HT := Lib.hid (fun W => refText6_any okS_new (.slice none 0 0) (keyB i) W (BSl.nil _ _ _))
   have HP := Lib.hid (fun va W (h : BSl 0 W.heap.size W va (txtS ([], 0) (keyB i)).1) => refPutVar_any (okS_txt okS_new (keyB i)) va v hv4 W h)
   generalize keyB i = kk at *
   generalize txtS ([], 0) kk = s1 at *
   generalize putV s1 v = s2 at *
   go_enter Tryz.func71, Tryz.ntmps71
   go_upto_region 3 with (first
    | (go_at_call 51; refine (HC.out _).mono ?_; rw [HE.out]; rintro e W1 ⟨rfl, hb1⟩; replace kB := kB.below hb1 kB.lt; replace kV := kV.below hb1 kV.lt; replace hB := chain hB hb1; obtain ⟨d0, d1, d2, d3, d4⟩ := kV.c5; clear hb1)
    | (go_at_call 69; refine (HS.out _).mono ?_; rw [HF.out]; rintro e W1 ⟨rfl, hb1⟩; replace kB := kB.below hb1 kB.lt; replace kV := kV.below hb1 kV.lt; replace hB := chain hB hb1; clear hb1 d0 d1 d2 d3 d4))
   refine wp_region_held_drew (S := fun W => Blk W w.heap.size 46 (ivc i) ∧ Blk W (w.heap.size + 1) 48 (svc v)) hmx ⟨kB, kV⟩ ?_
   intro hS
   replace hB := hB.drew
   clear kB kV
   generalize World.drew _ = Y at *
   refine' wpAnyH_take (i := 0) (oi := _) (v := _) ?hi1 (by kernel_rfl) (by kernel_rfl) (by kernel_rfl) ?hQ1 (Or.inl ⟨?hw1, ?hy1⟩) hS ?rest1
   case hi1 => simp only [List.getElem?_toArray, List.getElem?_cons_zero]; rfl
   case hQ1 => exact fun _ _ _ h => h
   case hw1 => rfl
   case hy1 => intro W' hS'; go_simp; with_reducible rfl
   try simp only [Act.put, List.setIfInBounds_toArray, List.set_cons_zero, List.set_cons_succ]
   refine' wpAnyH_take (i := 1) (oi := _) (v := _) ?hi2 (by kernel_rfl) (by kernel_rfl) (by kernel_rfl) ?hQ2 (Or.inl ⟨?hw2, ?hy2⟩) hS ?rest2
   case hi2 => simp only [List.getElem?_toArray, List.getElem?_cons_succ, List.getElem?_cons_zero]; rfl
   case hQ2 => exact fun _ _ _ h => h
   case hw2 => rfl
   case hy2 => intro W' hS'; obtain ⟨c0, c1, c2, c3, c4, c5, c6⟩ := Blk.c7 hS'.1; go_simp; with_reducible rfl
   try simp only [Act.put, List.setIfInBounds_toArray, List.set_cons_zero, List.set_cons_succ]
   refine' wpAnyH_take (i := 4) (oi := _) (v := _) ?hi3 (by kernel_rfl) (by kernel_rfl) (by kernel_rfl) ?hQ3 (Or.inl ⟨?hw3, ?hy3⟩) hS ?rest3
   case hi3 => simp only [List.getElem?_toArray, List.getElem?_cons_succ, List.getElem?_cons_zero]; rfl
   case hQ3 => exact fun _ _ _ h => h
   case hw3 => rfl
   case hy3 => intro W' hS'; obtain ⟨c0, c1, c2, c3, c4⟩ := Blk.c5 hS'.2; go_simp; with_reducible rfl
   try simp only [Act.put, List.setIfInBounds_toArray, List.set_cons_zero, List.set_cons_succ]
   refine wpAnyH_ready (rs := [2]) (by kernel_rfl) (by simp) ?_
   refine' AllReadyH.cons (o := _) ?ho4 (fun K hK => ?st4) AllReadyH.nil
   case ho4 => simp only [List.getElem?_toArray, List.getElem?_cons_succ, List.getElem?_cons_zero]; rfl
   case st4 =>
    go_simp
    refine (HK.out _).mono ?_
    rintro e Y1 ⟨rfl, hb⟩
    refine hK.out _ _ ⟨hS.1.below hb hS.1.lt, hS.2.below hb hS.2.lt⟩ (fun hS => ?_)
    clear hK K
    try simp only [Act.put, List.setIfInBounds_toArray, List.set_cons_zero, List.set_cons_succ]
    replace hB := chain hB hb
    clear hb
    refine wpAnyH_ready (rs := [3]) (by kernel_rfl) (by simp) ?_
    refine' AllReadyH.cons (o := _) ?ho5 (fun K hK => ?st5) AllReadyH.nil
    case ho5 => simp only [List.getElem?_toArray, List.getElem?_cons_succ, List.getElem?_cons_zero]; rfl
    case st5 =>
     go_simp
     refine (HT.out _).mono ?_
     rintro e Y1 ⟨v2, rfl, hv2, hb⟩
     refine hK.out _ _ ⟨hS.1.below hb hS.1.lt, hS.2.below hb hS.2.lt⟩ (fun hS => ?_)
     clear hK K
     try simp only [Act.put, List.setIfInBounds_toArray, List.set_cons_zero, List.set_cons_succ]
     replace hB := chain hB hb
     clear hb
     refine wpAnyH_ready (rs := [5]) (by kernel_rfl) (by simp) ?_
     refine' AllReadyH.cons (o := _) ?ho6 (fun K hK => ?st6) AllReadyH.nil
     case ho6 => simp only [List.getElem?_toArray, List.getElem?_cons_succ, List.getElem?_cons_zero]; rfl
     case st6 =>
      go_simp
      refine (HP.out _ _ hv2).mono ?_
      rintro e Y1 ⟨v3, rfl, hv3, hb⟩
      refine hK.out _ _ ⟨hS.1.below hb hS.1.lt, hS.2.below hb hS.2.lt⟩ (fun hS => ?_)
      clear hK K
      try simp only [Act.put, List.setIfInBounds_toArray, List.set_cons_zero, List.set_cons_succ]
      replace hB := chain hB hb
      clear hb
      obtain ⟨va, vm, vc, rfl⟩ := hv3.shape3
      refine' wpAnyH_take (i := 6) (oi := _) (v := _) ?hi7 (by kernel_rfl) (by kernel_rfl) (by kernel_rfl) ?hQ7 (Or.inl ⟨?hw7, ?hy7⟩) hS ?rest7
      case hi7 => simp only [List.getElem?_toArray, List.getElem?_cons_succ, List.getElem?_cons_zero]; rfl
      case hQ7 => exact fun _ _ _ h => h
      case hw7 => rfl
      case hy7 => intro W' hS'; have hfb := fieldB; go_simp; with_reducible rfl
      try simp only [Act.put, List.setIfInBounds_toArray, List.set_cons_zero, List.set_cons_succ]
      refine wpAnyH_ready (rs := [7]) (by kernel_rfl) (by simp) ?_
      refine' AllReadyH.cons (o := _) ?ho8 (fun K hK => ?st8) AllReadyH.nil
      case ho8 => simp only [List.getElem?_toArray, List.getElem?_cons_succ, List.getElem?_cons_zero]; rfl
      case st8 =>
       go_simp
       refine (refSumS_any _ _ _ (by have := HLE.out; omega) hv3).mono ?_
       rintro e Y1 ⟨v4, rfl, hv4', hb⟩
       refine hK.out _ _ ⟨hS.1.below hb hS.1.lt, hS.2.below hb hS.2.lt⟩ (fun hS => ?_)
       clear hK K
       try simp only [Act.put, List.setIfInBounds_toArray, List.set_cons_zero, List.set_cons_succ]
       replace hB := chain hB hb
       clear hb
       refine wpAnyH_ready (rs := [8]) (by kernel_rfl) (by simp) ?_
       refine' AllReadyH.cons (o := _) ?ho9 (fun K hK => ?st9) AllReadyH.nil
       case ho9 => simp only [List.getElem?_toArray, List.getElem?_cons_succ, List.getElem?_cons_zero]; rfl
       case st9 =>
        have hcv := str_of _ hv4'
        go_simp
        refine hK.out _ _ hS (fun hS => ?_)
        clear hK K
        try simp only [Act.put, List.setIfInBounds_toArray, List.set_cons_zero, List.set_cons_succ]
        refine' wpAnyH_take (i := 9) (oi := _) (v := _) ?hi10 (by kernel_rfl) (by kernel_rfl) (by kernel_rfl) ?hQ10 (Or.inl ⟨?hw10, ?hy10⟩) hS ?rest10
        case hi10 => simp only [List.getElem?_toArray, List.getElem?_cons_succ, List.getElem?_cons_zero]; rfl
        case hQ10 => exact fun _ _ _ h => h
        case hw10 => rfl
        case hy10 => intro W' hS'; go_simp; with_reducible rfl
        try simp only [Act.put, List.setIfInBounds_toArray, List.set_cons_zero, List.set_cons_succ]
        refine wpAnyH_done (by kernel_rfl) ?_ _
        go_wp2_with fail
        go_ret
        exact ⟨rfl, hB⟩
  ·
   have HF := Lib.hid (errV_bad hn)
   have e1 : digB i v = ⟨#[]⟩ := if_neg fun h => hn h.2
   rw [e1]
   clear hm hn e1
   go_enter Tryz.func71, Tryz.ntmps71
   go_wp2_with (first
    | (go_at_call 51; refine (HC.out _).mono ?_; rw [HE.out]; rintro e W1 ⟨rfl, hb1⟩; replace kV := kV.below hb1 kV.lt; obtain ⟨d0, d1, d2, d3, d4⟩ := kV.c5)
    | (go_at_call 69; refine (HS.out _).mono ?_; rw [HF.out]; rintro e W2 ⟨rfl, hb2⟩))
   go_ret
   exact ⟨rfl, chain (chain hB hb1) hb2⟩
 ·
  have HE := Lib.hid (errI_bad hm)
  have e1 : digB i v = ⟨#[]⟩ := if_neg fun h => hm h.1
  rw [e1]
  clear hm e1
  go_enter Tryz.func71, Tryz.ntmps71
  go_wp2_with (first
   | (go_at_call 51; refine (HC.out _).mono ?_; rw [HE.out]; rintro e W1 ⟨rfl, hb1⟩))
  go_ret
  exact ⟨rfl, chain hB hb1⟩
set_option maxRecDepth 100000 in
set_option maxHeartbeats 2000000 in
theorem refPayload_any (act : Int) (key : ByteArray) {a0 a1 a2 a3 : Nat} (h4 : Ok4 a0 a1 a2 a3) (w : World) :
  Calls Tryz.prog 106 #[.int .i64 act, .string key, wv a0 a1 a2 a3] w (OctsL (payL act key a0 a1 a2 a3) w) := by
 have hmx : Tryz.prog.follows .mixedOrders = true := by kernel_rfl
 by_cases hx0 : act < 1
 ·
  rw [payL_no (by omega)]
  go_enter Tryz.func106, Tryz.ntmps106
  go_wp2
  go_ret
  exact ⟨_, rfl, BSl.nil _ _ _, chain0 _ _⟩
 by_cases hx1 : 2 < act
 ·
  rw [payL_no (by omega)]
  go_enter Tryz.func106, Tryz.ntmps106
  go_wp2
  go_ret
  exact ⟨_, rfl, BSl.nil _ _ _, chain0 _ _⟩
 by_cases hk : key.size = 32
 ·
  rw [payL_yes (by omega) hk]
  have q1 : ((key.size : Int) == 32) = true := by rw [hk]; rfl
  have q2 : ((key.size : Int) != 32) = false := by rw [hk]; rfl
  clear hk
  have kB : BlkW (w.alloc (.cells #[.int .u64 (a0 : Nat), .int .u64 (a1 : Nat), .int .u64 (a2 : Nat), .int .u64 (a3 : Nat)] 27)) w.heap.size a0 a1 a2 a3 := Blk.new w _ [_, _, _, _]
  have hB := chain0 w (.cells #[.int .u64 (a0 : Nat), .int .u64 (a1 : Nat), .int .u64 (a2 : Nat), .int .u64 (a3 : Nat)] 27)
  go_enter Tryz.func106, Tryz.ntmps106
  go_upto_region 3 with fail
  clear q1 q2
  refine wp_region_held_drew (S := fun W => BlkW W w.heap.size a0 a1 a2 a3) hmx kB ?_
  intro hS
  replace hB := hB.drew
  clear kB
  generalize World.drew _ = Y at *
  refine' wpAnyH_take (i := 0) (oi := _) (v := _) ?hi11 (by kernel_rfl) (by kernel_rfl) (by kernel_rfl) ?hQ11 (Or.inl ⟨?hw11, ?hy11⟩) hS ?rest11
  case hi11 => simp only [List.getElem?_toArray, List.getElem?_cons_zero]; rfl
  case hQ11 => exact fun _ _ _ h => h
  case hw11 => rfl
  case hy11 => intro W' hS'; go_simp; with_reducible rfl
  try simp only [Act.put, List.setIfInBounds_toArray, List.set_cons_zero, List.set_cons_succ]
  refine' wpAnyH_take (i := 2) (oi := _) (v := _) ?hi12 (by kernel_rfl) (by kernel_rfl) (by kernel_rfl) ?hQ12 (Or.inl ⟨?hw12, ?hy12⟩) hS ?rest12
  case hi12 => simp only [List.getElem?_toArray, List.getElem?_cons_succ, List.getElem?_cons_zero]; rfl
  case hQ12 => exact fun _ _ _ h => h
  case hw12 => rfl
  case hy12 => intro W' hS'; go_simp; with_reducible rfl
  try simp only [Act.put, List.setIfInBounds_toArray, List.set_cons_zero, List.set_cons_succ]
  refine' wpAnyH_take (i := 4) (oi := _) (v := _) ?hi13 (by kernel_rfl) (by kernel_rfl) (by kernel_rfl) ?hQ13 (Or.inl ⟨?hw13, ?hy13⟩) hS ?rest13
  case hi13 => simp only [List.getElem?_toArray, List.getElem?_cons_succ, List.getElem?_cons_zero]; rfl
  case hQ13 => exact fun _ _ _ h => h
  case hw13 => rfl
  case hy13 => intro W' hS'; go_simp; with_reducible rfl
  try simp only [Act.put, List.setIfInBounds_toArray, List.set_cons_zero, List.set_cons_succ]
  refine' wpAnyH_take (i := 6) (oi := _) (v := _) ?hi14 (by kernel_rfl) (by kernel_rfl) (by kernel_rfl) ?hQ14 (Or.inl ⟨?hw14, ?hy14⟩) hS ?rest14
  case hi14 => simp only [List.getElem?_toArray, List.getElem?_cons_succ, List.getElem?_cons_zero]; rfl
  case hQ14 => exact fun _ _ _ h => h
  case hw14 => rfl
  case hy14 => intro W' hS'; obtain ⟨c0, c1, c2, c3⟩ := Blk.c4 hS'; go_simp; with_reducible rfl
  try simp only [Act.put, List.setIfInBounds_toArray, List.set_cons_zero, List.set_cons_succ]
  refine wpAnyH_ready (rs := [1]) (by kernel_rfl) (by simp) ?_
  refine' AllReadyH.cons (o := _) ?ho15 (fun K hK => ?st15) AllReadyH.nil
  case ho15 => simp only [List.getElem?_toArray, List.getElem?_cons_succ, List.getElem?_cons_zero]; rfl
  case st15 =>
   go_simp
   refine (refText6_any okS_new (.slice none 0 0) actB _ (BSl.nil _ _ _)).mono ?_
   rintro e Y1 ⟨v2, rfl, hv2, hb⟩
   refine hK.out _ _ (hS.below hb hS.lt) (fun hS => ?_)
   clear hK K
   try simp only [Act.put, List.setIfInBounds_toArray, List.set_cons_zero, List.set_cons_succ]
   replace hB := chain hB hb
   clear hb
   refine wpAnyH_ready (rs := [3]) (by kernel_rfl) (by simp) ?_
   refine' AllReadyH.cons (o := _) ?ho16 (fun K hK => ?st16) AllReadyH.nil
   case ho16 => simp only [List.getElem?_toArray, List.getElem?_cons_succ, List.getElem?_cons_zero]; rfl
   case st16 =>
    go_simp
    refine (refNum6_any (okS_txt okS_new _) _ act _ hv2).mono ?_
    rintro e Y1 ⟨v3, rfl, hv3, hb⟩
    refine hK.out _ _ (hS.below hb hS.lt) (fun hS => ?_)
    clear hK K
    try simp only [Act.put, List.setIfInBounds_toArray, List.set_cons_zero, List.set_cons_succ]
    replace hB := chain hB hb
    clear hb
    refine wpAnyH_ready (rs := [5]) (by kernel_rfl) (by simp) ?_
    refine' AllReadyH.cons (o := _) ?ho17 (fun K hK => ?st17) AllReadyH.nil
    case ho17 => simp only [List.getElem?_toArray, List.getElem?_cons_succ, List.getElem?_cons_zero]; rfl
    case st17 =>
     go_simp
     refine (refText6_any (okS_num (okS_txt okS_new _) _) _ key _ hv3).mono ?_
     rintro e Y1 ⟨v4, rfl, hv4, hb⟩
     refine hK.out _ _ (hS.below hb hS.lt) (fun hS => ?_)
     clear hK K
     try simp only [Act.put, List.setIfInBounds_toArray, List.set_cons_zero, List.set_cons_succ]
     replace hB := chain hB hb
     clear hb
     refine wpAnyH_ready (rs := [7]) (by kernel_rfl) (by simp) ?_
     refine' AllReadyH.cons (o := _) ?ho18 (fun K hK => ?st18) AllReadyH.nil
     case ho18 => simp only [List.getElem?_toArray, List.getElem?_cons_succ, List.getElem?_cons_zero]; rfl
     case st18 =>
      go_simp
      refine (refWide6_any (okS_txt (okS_num (okS_txt okS_new _) _) _) _ h4 _ hv4).mono ?_
      rintro e Y1 ⟨v5, rfl, hv5, hb⟩
      refine hK.out _ _ (hS.below hb hS.lt) (fun hS => ?_)
      clear hK K
      try simp only [Act.put, List.setIfInBounds_toArray, List.set_cons_zero, List.set_cons_succ]
      replace hB := chain hB hb
      clear hb
      obtain ⟨va, vm, vc, rfl⟩ := hv5.shape3
      refine' wpAnyH_take (i := 8) (oi := _) (v := _) ?hi19 (by kernel_rfl) (by kernel_rfl) (by kernel_rfl) ?hQ19 (Or.inl ⟨?hw19, ?hy19⟩) hS ?rest19
      case hi19 => simp only [List.getElem?_toArray, List.getElem?_cons_succ, List.getElem?_cons_zero]; rfl
      case hQ19 => exact fun _ _ _ h => h
      case hw19 => rfl
      case hy19 => intro W' hS'; have hfb := fieldB; go_simp; with_reducible rfl
      try simp only [Act.put, List.setIfInBounds_toArray, List.set_cons_zero, List.set_cons_succ]
      refine' wpAnyH_take (i := 9) (oi := _) (v := _) ?hi20 (by kernel_rfl) (by kernel_rfl) (by kernel_rfl) ?hQ20 (Or.inl ⟨?hw20, ?hy20⟩) hS ?rest20
      case hi20 => simp only [List.getElem?_toArray, List.getElem?_cons_succ, List.getElem?_cons_zero]; rfl
      case hQ20 => exact fun _ _ _ h => h
      case hw20 => rfl
      case hy20 => intro W' hS'; go_simp; with_reducible rfl
      try simp only [Act.put, List.setIfInBounds_toArray, List.set_cons_zero, List.set_cons_succ]
      refine wpAnyH_done (by kernel_rfl) ?_ _
      go_wp2_with fail
      go_ret
      exact ⟨_, rfl, hv5, hB⟩
 ·
  rw [payL_no (fun h => hk h.2)]
  have q1 : ((key.size : Int) == 32) = false := by simpa using (show ¬ (key.size : Int) = 32 by omega)
  have q2 : ((key.size : Int) != 32) = true := by simpa using (show ¬ (key.size : Int) = 32 by omega)
  clear hk
  go_enter Tryz.func106, Tryz.ntmps106
  go_wp2
  go_ret
  exact ⟨_, rfl, BSl.nil _ _ _, chain0 _ _⟩
end Go.Proofs.YthhmdgmmeedhdaaGreat
