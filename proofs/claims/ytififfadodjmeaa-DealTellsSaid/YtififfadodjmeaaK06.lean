/-
  Words of 32 bits: rotations to the right.
  hash.squareRoots, hash.cubeRoots, the reference's table: the first words, and those of the rounds.
  What a round makes of eight words.
  hash.schedule: a block's words, then those made of earlier ones.
  The reference's Num and Int.
  The reference's block: the state behind a block.
-/
import Derived.WalkKit
import Derived.Laws.BitsLemmas
import Derived.Lib.Hide
import Derived.Test.YtififfadodjmeaaProg
import Derived.IntWalk
import Derived.Outline
import Derived.Deep.QuietTactic
import Derived.BigQuiet
import Derived.Great.BuildSlice
import Derived.StillTailTactics
import Derived.RegionTactic
import Derived.Laws.OwnMore
import Derived.Test.YtififfadodjmeaaK05
namespace Go.Proofs.Ytififfadodjmeaa
open Go.RowKit

/-- x, turned to the right by n bits. -/
def rot (x : Int) (n : Nat) : Int := bits .or .u32 (x / (2 : Int) ^ n) (x * (2 : Int) ^ (32 - n) % 4294967296)
theorem or_comm32 (a b : Int) : bits .or .u32 a b = bits .or .u32 b a := by simp only [bits, BitVec.or_comm]
theorem mask31 (n : Nat) (h : n ∈ [2, 3, 6, 7, 10, 11, 13, 17, 18, 19, 22, 25]) : bits .and .u64 (IntKind.u64.wrap (-(n : Int))) 31 = ((32 - n : Nat) : Int) := by
  simp only [List.mem_cons, List.not_mem_nil, or_false] at h
  rcases h with rfl | rfl | rfl | rfl | rfl | rfl | rfl | rfl | rfl | rfl | rfl | rfl <;> decide

set_option maxHeartbeats 1000000 in
theorem rotateLeft_any (x : Int) (k : Int) (s : Nat) (hs : bits .and .u64 (IntKind.u64.wrap k) 31 = (s : Int)) (h0 : 1 ≤ (s : Int)) (h1 : (s : Int) ≤ 31) (w : World) : Calls Try.prog 101 #[.int .u32 x, .int .i64 k] w fun e w' => e = .returned (.int .u32 (rot x (32 - s))) ∧ w = w' := by
  go_enter Try.func101, Try.ntmps101
  go_wp2
  go_ret
  refine ⟨?_, rfl⟩
  have hr : rot x (32 - s) = bits .or .u32 (x * 2 ^ s % 4294967296) (x / 2 ^ (32 - s)) := by
    unfold rot
    rw [or_comm32, show 32 - (32 - s) = s by omega]
  rw [hr]
  rfl

/-- How far words are turned. -/
def turns (n : Nat) : Prop := n ∈ [2, 3, 6, 7, 10, 11, 13, 17, 18, 19, 22, 25]
set_option maxHeartbeats 1000000 in
theorem rotr_any (x : Int) (n : Nat) (hn : turns n) (w : World) : Calls Try.prog 92 #[.int .u32 x, .int .i64 (n : Int)] w fun e w' => e = .returned (.int .u32 (rot x n)) ∧ w = w' := by
  have hs := mask31 n hn
  have hb : 1 ≤ n ∧ n ≤ 31 := by
    unfold turns at hn
    simp only [List.mem_cons, List.not_mem_nil, or_false] at hn
    omega
  obtain ⟨hb1, hb2⟩ := hb
  have HN := Lib.hid hs
  clear hs hn
  have hm : (n : Int) ≤ 31 := by omega
  go_enter Try.func92, Try.ntmps92
  go_wp2_with (go_at_call 101; refine (rotateLeft_any _ _ _ HN.out (by omega) (by omega) _).mono ?_; rintro e w' ⟨rfl, rfl⟩)
  go_ret
  have hq : 32 - (32 - n) = n := by omega
  exact ⟨congrArg (fun q => Ending.returned (.int .u32 (rot x q))) hq, rfl⟩

theorem rotr_still (x : Int) (k : Int) (n : Nat) (hn : turns n) (hk : k = (n : Int)) (w : World) : Calls Try.prog 92 #[.int .u32 x, .int .i64 k] w fun e w' => e = .returned (.int .u32 (rot x n)) ∧ w' = w := by
  subst hk; exact (rotr_any x n hn w).mono fun _ _ h => ⟨h.1, h.2.symm⟩

set_option maxHeartbeats 1000000 in
theorem turn_any (x : Int) (n : Nat) (hn : turns n) (w : World) : Calls Try.prog 94 #[.int .u32 x, .int .i64 (n : Int)] w fun e w' => e = .returned (.int .u32 (rot x n)) ∧ w = w' := by
  have hb : 1 ≤ (n : Int) ∧ (n : Int) ≤ 31 := by
    unfold turns at hn
    simp only [List.mem_cons, List.not_mem_nil, or_false] at hn
    omega
  obtain ⟨hb1, hb2⟩ := hb
  clear hn
  have hw : (32 : Int) - (n : Int) = ((32 - n : Nat) : Int) := by omega
  go_enter Try.func94, Try.ntmps94
  go_wp2
  go_ret
  exact ⟨rfl, rfl⟩
theorem turn_still (x : Int) (k : Int) (n : Nat) (hn : turns n) (hk : k = (n : Int)) (w : World) : Calls Try.prog 94 #[.int .u32 x, .int .i64 k] w fun e w' => e = .returned (.int .u32 (rot x n)) ∧ w' = w := by
  subst hk; exact (turn_any x n hn w).mono fun _ _ h => ⟨h.1, h.2.symm⟩
theorem t2 : turns 2 := by unfold turns; simp
theorem t6 : turns 6 := by unfold turns; simp
theorem t7 : turns 7 := by unfold turns; simp
theorem t11 : turns 11 := by unfold turns; simp
theorem t13 : turns 13 := by unfold turns; simp
theorem t17 : turns 17 := by unfold turns; simp
theorem t18 : turns 18 := by unfold turns; simp
theorem t19 : turns 19 := by unfold turns; simp
theorem t22 : turns 22 := by unfold turns; simp
theorem t25 : turns 25 := by unfold turns; simp
end Go.Proofs.Ytififfadodjmeaa

namespace Go.Proofs.Ytififfadodjmeaa
open Go.RowKit

def sqList : List Int := [1779033703, 3144134277, 1013904242, 2773480762, 1359893119, 2600822924, 528734635, 1541459225]
def cbList : List Int := [0x428a2f98, 0x71374491, 0xb5c0fbcf, 0xe9b5dba5, 0x3956c25b, 0x59f111f1, 0x923f82a4, 0xab1c5ed5,
  0xd807aa98, 0x12835b01, 0x243185be, 0x550c7dc3, 0x72be5d74, 0x80deb1fe, 0x9bdc06a7, 0xc19bf174,
  0xe49b69c1, 0xefbe4786, 0x0fc19dc6, 0x240ca1cc, 0x2de92c6f, 0x4a7484aa, 0x5cb0a9dc, 0x76f988da,
  0x983e5152, 0xa831c66d, 0xb00327c8, 0xbf597fc7, 0xc6e00bf3, 0xd5a79147, 0x06ca6351, 0x14292967,
  0x27b70a85, 0x2e1b2138, 0x4d2c6dfc, 0x53380d13, 0x650a7354, 0x766a0abb, 0x81c2c92e, 0x92722c85,
  0xa2bfe8a1, 0xa81a664b, 0xc24b8b70, 0xc76c51a3, 0xd192e819, 0xd6990624, 0xf40e3585, 0x106aa070,
  0x19a4c116, 0x1e376c08, 0x2748774c, 0x34b0bcb5, 0x391c0cb3, 0x4ed8aa4a, 0x5b9cca4f, 0x682e6ff3,
  0x748f82ee, 0x78a5636f, 0x84c87814, 0x8cc70208, 0x90befffa, 0xa4506ceb, 0xbef9a3f7, 0xc67178f2]
/-- The state at first; the rounds' words. -/
def sq (k : Nat) : Int := sqList.getD k 0
def cb (k : Nat) : Int := cbList.getD k 0

theorem us_list (l : List Int) : l.map (Value.int .u32) = us (fun k => l.getD k 0) l.length := by
  apply List.ext_getElem?
  intro j
  by_cases hj : j < l.length
  · rw [us_at _ hj, List.getElem?_map, List.getElem?_eq_getElem hj]; simp [List.getD, hj]
  · rw [List.getElem?_eq_none (by simp; omega), List.getElem?_eq_none (by rw [us_length]; omega)]
theorem zero8 : ((Try.prog.info? 98).bind (·.zero)).map (·.cells.size) = some 8 := by kernel_rfl
theorem zero64 : ((Try.prog.info? 99).bind (·.zero)).map (·.cells.size) = some 64 := by kernel_rfl
theorem szW : (Try.prog.info? 97).map (·.size) = some 1 := by kernel_rfl
theorem und8 : Try.prog.underlying 98 = some (.array 8 97) := by kernel_rfl
theorem und64 : Try.prog.underlying 99 = some (.array 64 97) := by kernel_rfl

theorem us0_8 : us (fun _ => 0) 8 = [.int .u32 0, .int .u32 0, .int .u32 0, .int .u32 0, .int .u32 0, .int .u32 0, .int .u32 0, .int .u32 0] := rfl
theorem sq_us : sqList.map (Value.int .u32) = us sq 8 := us_list sqList
theorem cb_us : cbList.map (Value.int .u32) = us cb 64 := us_list cbList

set_option maxRecDepth 100000 in
set_option maxHeartbeats 4000000 in
theorem squareRoots_any (w : World) : Calls Try.prog 73 #[] w fun e W' => e = .returned (uv sq 8) ∧ Below w.heap.size w W' := by
  go_enter Try.func73, Try.ntmps73
  apply wp_seq_k; intro K0 hK0
  apply wp_region_lit
  refine wpList_plain rfl fun K hK => ?_
  go_simp
  refine hK _ _ ?_
  clear hK K
  apply wpList_nil
  refine hK0 _ _ ?_
  clear hK0 K0
  apply wp_seq_k; intro K0 hK0
  apply wp_region_lit
  refine wpList_buildFlatArrTo rfl 98 97 8 _ rfl .u32 sqList (some 1) rfl und8 szW zero8 (by kernel_rfl) ?_
  rw [sq_us]
  generalize hW0 : World.alloc _ _ = W0
  have kR : Blk W0 w.heap.size 98 (us (fun _ => 0) 8) := by rw [← hW0, us0_8]; exact Blk.new' rfl
  have d0 : Below w.heap.size w W0 := by rw [← hW0]; exact chain0 _ _
  clear hW0
  refine arr_store arr8 rfl (.tmp 0) (.tmp 1) rfl w.heap.size rfl sq rfl 98 (fun _ => 0) kR ?_
  intro w5 kR5 hg5
  apply wpList_nil
  refine hK0 _ _ ?_
  clear hK0 K0
  go_wp2
  exact bodyPost_ret (v := uv sq 8) (arr_result arr8 rfl _ _ w.heap.size 98 sq rfl kR5) rfl ⟨rfl, d0.grown hg5 d0.size (fun k e => by have : w.heap.size = k := Option.some.inj e; omega)⟩
set_option maxRecDepth 100000 in
set_option maxHeartbeats 4000000 in
theorem cubeRoots_any (w : World) : Calls Try.prog 91 #[] w fun e W' => e = .returned (uv cb 64) ∧ Below w.heap.size w W' := by
  go_enter Try.func91, Try.ntmps91
  apply wp_seq_k; intro K0 hK0
  apply wp_region_lit
  refine wpList_plain rfl fun K hK => ?_
  go_simp
  refine hK _ _ ?_
  clear hK K
  apply wpList_nil
  refine hK0 _ _ ?_
  clear hK0 K0
  apply wp_seq_k; intro K0 hK0
  apply wp_region_lit
  refine wpList_buildFlatArrTo rfl 99 97 64 _ rfl .u32 cbList (some 1) rfl und64 szW zero64 (by kernel_rfl) ?_
  rw [cb_us]
  generalize hW0 : World.alloc _ _ = W0
  have kR : Blk W0 w.heap.size 99 (us (fun _ => 0) 64) := by rw [← hW0, us0_64]; exact Blk.new' rfl
  have d0 : Below w.heap.size w W0 := by rw [← hW0]; exact chain0 _ _
  clear hW0
  refine arr_store arr64 rfl (.tmp 0) (.tmp 1) rfl w.heap.size rfl cb rfl 99 (fun _ => 0) kR ?_
  intro w5 kR5 hg5
  apply wpList_nil
  refine hK0 _ _ ?_
  clear hK0 K0
  go_wp2
  exact bodyPost_ret (v := uv cb 64) (arr_result arr64 rfl _ _ w.heap.size 99 cb rfl kR5) rfl ⟨rfl, d0.grown hg5 d0.size (fun k e => by have : w.heap.size = k := Option.some.inj e; omega)⟩
set_option maxRecDepth 100000 in
set_option maxHeartbeats 4000000 in
theorem table_any (w : World) : Calls Try.prog 57 #[] w fun e W' => e = .returned (uv cb 64) ∧ Below w.heap.size w W' := by
  go_enter Try.func57, Try.ntmps57
  apply wp_seq_k; intro K0 hK0
  apply wp_region_lit
  refine wpList_plain rfl fun K hK => ?_
  go_simp
  refine hK _ _ ?_
  clear hK K
  apply wpList_nil
  refine hK0 _ _ ?_
  clear hK0 K0
  apply wp_seq_k; intro K0 hK0
  apply wp_region_lit
  refine wpList_buildFlatArrTo rfl 99 97 64 _ rfl .u32 cbList (some 1) rfl und64 szW zero64 (by kernel_rfl) ?_
  rw [cb_us]
  generalize hW0 : World.alloc _ _ = W0
  have kR : Blk W0 w.heap.size 99 (us (fun _ => 0) 64) := by rw [← hW0, us0_64]; exact Blk.new' rfl
  have d0 : Below w.heap.size w W0 := by rw [← hW0]; exact chain0 _ _
  clear hW0
  refine arr_store arr64 rfl (.tmp 0) (.tmp 1) rfl w.heap.size rfl cb rfl 99 (fun _ => 0) kR ?_
  intro w5 kR5 hg5
  apply wpList_nil
  refine hK0 _ _ ?_
  clear hK0 K0
  go_wp2
  exact bodyPost_ret (v := uv cb 64) (arr_result arr64 rfl _ _ w.heap.size 99 cb rfl kR5) rfl ⟨rfl, d0.grown hg5 d0.size (fun k e => by have : w.heap.size = k := Option.some.inj e; omega)⟩
end Go.Proofs.Ytififfadodjmeaa

namespace Go.Proofs.Ytififfadodjmeaa
open Go.RowKit

/-- Eight words. -/
structure S8 where
  a : Int
  b : Int
  c : Int
  d : Int
  e : Int
  f : Int
  g : Int
  h : Int
/-- e's turns, a's turns; a choice; the most. -/
def bs1 (e : Int) : Int := bits .xor .u32 (bits .xor .u32 (rot e 6) (rot e 11)) (rot e 25)
def bs0 (a : Int) : Int := bits .xor .u32 (bits .xor .u32 (rot a 2) (rot a 13)) (rot a 22)
def chs3 (e f g : Int) : Int := bits .xor .u32 (bits .and .u32 e f) (bits .and .u32 (bits .xor .u32 4294967295 e) g)
def maj (a b c : Int) : Int := bits .xor .u32 (bits .xor .u32 (bits .and .u32 a b) (bits .and .u32 a c)) (bits .and .u32 b c)
def tmp1 (s : S8) (k w : Int) : Int := (s.h + bs1 s.e + chs3 s.e s.f s.g + k + w) % 4294967296
def tmp2 (s : S8) : Int := (bs0 s.a + maj s.a s.b s.c) % 4294967296
def rnd (s : S8) (k w : Int) : S8 := ⟨(tmp1 s k w + tmp2 s) % 4294967296, s.a, s.b, s.c, (s.d + tmp1 s k w) % 4294967296, s.e, s.f, s.g⟩
/-- Behind n rounds. -/
def rds (k w : Nat → Int) (s : S8) : Nat → S8
  | 0 => s
  | n + 1 => rnd (rds k w s n) (k n) (w n)
def S8.at (s : S8) : Nat → Int
  | 0 => s.a
  | 1 => s.b
  | 2 => s.c
  | 3 => s.d
  | 4 => s.e
  | 5 => s.f
  | 6 => s.g
  | _ => s.h
def s8 (f : Nat → Int) : S8 := ⟨f 0, f 1, f 2, f 3, f 4, f 5, f 6, f 7⟩
/-- The state behind a block. -/
def mixed (k w f : Nat → Int) : Nat → Int := fun i => (f i + (rds k w (s8 f) 64).at i) % 4294967296
theorem not32 (e : Int) : bits .xor .u32 4294967295 e = (-1 - e) % 4294967296 := by
  have h1 : (BitVec.ofInt IntKind.u32.bits 4294967295 ^^^ BitVec.ofInt IntKind.u32.bits e).toNat = 4294967295 - (e % 4294967296).toNat := by
    show (BitVec.ofInt 32 4294967295 ^^^ BitVec.ofInt 32 e).toNat = _
    rw [show BitVec.ofInt 32 4294967295 = BitVec.allOnes 32 by decide, BitVec.allOnes_xor, BitVec.toNat_not, BitVec.toNat_ofInt]
    rfl
  simp only [bits]
  rw [h1, IntKind.wrap_u32]
  omega

/-- A word of an array. -/
theorem run_index_us (ty n : Nat) (hu : Try.prog.underlying ty = some (.array n 97)) (f : Nat → Int) (k : Nat) (hk : k < n) (w : World) : (Instr.index ty (uv f n) (.int .i64 (k : Int))).run Try.prog w = .ok (.int .u32 (f k)) w := by
  have hk' : (0 ≤ (k : Int) ∧ (k : Int) < (n : Int)) := by omega
  have hg : (us f n)[k]? = some (.int .u32 (f k)) := us_at f hk
  simp [Instr.index, run_underlying hu, asIntOf, hg, go_sem, hk]
end Go.Proofs.Ytififfadodjmeaa

namespace Go.Proofs.Ytififfadodjmeaa
open Go.RowKit

/-- What is made of an early word, and of a late one. -/
def sg0 (x : Int) : Int := bits .xor .u32 (bits .xor .u32 (rot x 7) (rot x 18)) (x / 8)
def sg1 (x : Int) : Int := bits .xor .u32 (bits .xor .u32 (rot x 17) (rot x 19)) (x / 1024)
/-- The word at place t, of earlier ones. -/
def nw (f : Nat → Int) (t : Nat) : Int := (sg1 (f (t - 2)) + f (t - 7) + sg0 (f (t - 15)) + f (t - 16)) % 4294967296
/-- Behind k rounds. -/
def sch (f : Nat → Int) : Nat → Nat → Int
  | 0 => fun t => if t < 16 then f t else 0
  | k + 1 => updI (sch f k) (k + 16) (nw (sch f k) (k + 16))

set_option maxRecDepth 100000 in
set_option maxHeartbeats 4000000 in
theorem schedule_any (f : Nat → Int) (w : World) : Calls Try.prog 77 #[uv f 16] w fun e W' => e = .returned (uv (sch f 48) 64) ∧ Below w.heap.size w W' := by
  have hmx : Try.prog.follows .mixedOrders = true := by kernel_rfl
  go_enter Try.func77, Try.ntmps77
  go_wp2
  generalize hW0 : World.alloc _ _ = W0
  have kS : Blk W0 w.heap.size 119 (us f 16) := by rw [← hW0]; exact ((Blk.new' rfl).alloc _).alloc _
  have kR : Blk W0 (w.heap.size + 1) 99 (us (fun _ => 0) 64) := by rw [← hW0, us0_64]; exact (Blk.new' (by simp)).alloc _
  have kW : Blk W0 (w.heap.size + 1 + 1) 99 (us (fun _ => 0) 64) := by rw [← hW0, us0_64]; exact Blk.new' (by simp)
  have d0 : Below w.heap.size w W0 := by rw [← hW0]; exact chainA (chainA (chain0 _ _) _) _
  clear hW0
  refine wp_region_any hmx ?_
  change wpAny _ _ _ _ _ _ _ (World.drew _)
  refine wpAny_take (i := 0) (v := ?_) rfl (by kernel_rfl) (by kernel_rfl) (by kernel_rfl) (fun _ _ _ h => h) (Or.inl ⟨rfl, ?_⟩) ?_
  rotate_left
  · intro w'; go_simp; with_reducible rfl
  refine wpAny_take (i := 1) (v := ?_) rfl (by kernel_rfl) (by kernel_rfl) (by kernel_rfl) (fun _ _ _ h => h) (Or.inl ⟨rfl, ?_⟩) ?_
  rotate_left
  · intro w'; go_simp; with_reducible rfl
  refine wpAny_ready (rs := [2]) (by kernel_rfl) (by simp) ?_
  refine AllReady.cons rfl (fun K hK => ?_) AllReady.nil
  refine step_copy_splice rfl (.tmp 8) (.tmp 9) 144 144 rfl 97 (by kernel_rfl) (by kernel_rfl) (some ⟨w.heap.size + 1 + 1, 0, none⟩) (some ⟨w.heap.size, 0, none⟩) 64 64 16 16 rfl rfl (w.heap.size + 1 + 1) 0 (us (fun _ => 0) 64) 99 kW (us f 16) (by rw [us_length]; rfl)
    (fun _ => ⟨rfl, _, rfl, fun j v hj => ?_⟩) (by rw [us_length, us_length]; omega) (us_one _ _) (w.heap.size + 1 + 1) W0 ((Below.refl _ _).drew) (Nat.le_refl _) ?_
  · have h16 : j < 16 := by have := (List.getElem?_eq_some_iff.1 hj).1; rwa [us_length] at this
    have hc : W0.cell? ⟨w.heap.size, 0 + j, none⟩ = some v := by rw [Nat.zero_add]; exact (kS.cell j).trans hj
    cases j <;> exact hc
  intro w4 hg4 hb4
  refine hK _ _ ?_
  clear hK K
  refine wpAny_done (by kernel_rfl) ?_ _
  have hg5 := hg4.out
  rw [us_splice _ _ (by omega)] at hg5
  have k4 : Blk w4 (w.heap.size + 1 + 1) 99 (us (sch f 0) 64) := hg5
  have kR4 := kR.below hb4 (by omega)
  have d4 : Below w.heap.size w w4 := d0.trans (hb4.mono (by omega))
  clear hg4 hg5 hb4 kS kR kW d0
  go_wp2
  go_loopw [11] (fun i wr => ∃ k : Nat, k ≤ 48 ∧ i = .int .i64 k ∧ Blk wr (w.heap.size + 1 + 1) 99 (us (sch f k) 64) ∧ Blk wr (w.heap.size + 1) 99 (us (fun _ => 0) 64) ∧ Below w.heap.size w wr) (fun i _ => 48 - (intOf i).toNat)
  case atStart => exact ⟨0, by omega, rfl, k4, kR4, d4⟩
  case round =>
    obtain ⟨k, hk, rfl, kW, kR, hB⟩ := hrel
    by_cases hlt : k < 48
    · obtain ⟨T, hT⟩ : ∃ T, T = k + 16 := ⟨_, rfl⟩
      have c2 := (kW.cell (T - 2)).trans (us_at _ (by omega))
      have c15 := (kW.cell (T - 15)).trans (us_at _ (by omega))
      have c7 := (kW.cell (T - 7)).trans (us_at _ (by omega))
      have c16 := (kW.cell (T - 16)).trans (us_at _ (by omega))
      have hf := kW.frozen T
      have cT := (kW.cell T).trans (us_at _ (by omega))
      have hk0 : (k : Int) < 48 := by omega
      have hT2 : (T : Int) < 64 := by omega
      have hT3 : 16 ≤ (T : Int) := by omega
      have HT := Lib.hid hT
      clear hT
      go_wp2
      rw [show (k : Int) + 16 = (T : Int) by have := HT.out; omega]
      have l2 : IntKind.i64.wrap ((T : Int) - 2) = (T : Int) - 2 := IntWalk.i64_in _ (by omega)
      have l15 : IntKind.i64.wrap ((T : Int) - 15) = (T : Int) - 15 := IntWalk.i64_in _ (by omega)
      have b2 : 0 ≤ (T : Int) - 2 := by omega
      have b2' : (T : Int) - 2 < 64 := by omega
      have b15 : 0 ≤ (T : Int) - 15 := by omega
      have b15' : (T : Int) - 15 < 64 := by omega
      have n2 : ((T : Int) - 2).toNat = T - 2 := by omega
      have n15 : ((T : Int) - 15).toNat = T - 15 := by omega
      go_quiet (fail)
      clear l2 l15 b2 b2' b15 b15' n2 n15 c2 c15
      replace kW : Blk (wr.drewN nq) (w.heap.size + 1 + 1) 99 (us (sch f k) 64) := kW
      replace kR : Blk (wr.drewN nq) (w.heap.size + 1) 99 (us (fun _ => 0) 64) := kR
      replace hB : Below w.heap.size w (wr.drewN nq) := hB.trans ⟨rfl, rfl, rfl, Nat.le_refl _, fun _ _ => rfl⟩
      replace hf : (wr.drewN nq).frozen? ⟨w.heap.size + 1 + 1, T, none⟩ = false := hf
      replace c7 : (wr.drewN nq).cell? ⟨w.heap.size + 1 + 1, T - 7, none⟩ = some (.int .u32 (sch f k (T - 7))) := c7
      replace c16 : (wr.drewN nq).cell? ⟨w.heap.size + 1 + 1, T - 16, none⟩ = some (.int .u32 (sch f k (T - 16))) := c16
      replace cT : (wr.drewN nq).cell? ⟨w.heap.size + 1 + 1, T, none⟩ = some (.int .u32 (sch f k T)) := cT
      generalize wr.drewN nq = wq at *
      have HN := Lib.hid (show nw (sch f k) T = (bits .xor .u32 (bits .xor .u32 (rot (sch f k (T - 2)) 17) (rot (sch f k (T - 2)) 19)) (sch f k (T - 2) / 1024) + sch f k (T - 7) + bits .xor .u32 (bits .xor .u32 (rot (sch f k (T - 15)) 7) (rot (sch f k (T - 15)) 18)) (sch f k (T - 15) / 8) + sch f k (T - 16)) % 4294967296 from rfl)
      generalize sch f k T = xT at *
      generalize sch f k (T - 2) = x2 at *
      generalize sch f k (T - 15) = x15 at *
      generalize sch f k (T - 7) = x7 at *
      generalize sch f k (T - 16) = x16 at *
      go_wp2
      have l7 : IntKind.i64.wrap ((T : Int) - 7) = (T : Int) - 7 := IntWalk.i64_in _ (by omega)
      have l16 : IntKind.i64.wrap ((T : Int) - 16) = (T : Int) - 16 := IntWalk.i64_in _ (by omega)
      have b7 : 0 ≤ (T : Int) - 7 := by omega
      have b7' : (T : Int) - 7 < 64 := by omega
      have b16 : 0 ≤ (T : Int) - 16 := by omega
      have b16' : (T : Int) - 16 < 64 := by omega
      have b7n : 7 ≤ (T : Int) := by omega
      have n7 : ((T : Int) - 7).toNat = T - 7 := by omega
      have n16 : ((T : Int) - 16).toNat = T - 16 := by omega
      go_still_tail 29, (by kernel_rfl)
      still_call (rotr_still _ _ 17 t17 rfl _)
      repeat still_step
      still_call (rotr_still _ _ 19 t19 rfl _)
      repeat still_step
      still_call (rotr_still _ _ 7 t7 rfl _)
      repeat still_step
      still_call (rotr_still _ _ 18 t18 rfl _)
      repeat still_step
      refine wpStill_nil ?_
      change wpList _ _ _ _ _ wq.drew
      clear l7 l16
      go_wp2
      rw [← HN.out]
      have hT := HT.out
      subst hT
      have kW' := kW.set (k + 16) (.int .u32 (nw (sch f k) (k + 16)))
      rw [us_set] at kW'
      exact ⟨⟨k + 1, by omega, by simp, kW', kR.other _ _ (by omega), (hB.setCell (p := ⟨w.heap.size + 1 + 1, _, none⟩) (by simp; omega) _).drew⟩, by simp [intOf]; omega⟩
    · obtain rfl : k = 48 := by omega
      go_wp2_with (first | (with_reducible refine arr_load arr64 rfl (.tmp 3) rfl (w.heap.size + 1 + 1) rfl 99 (sch f 48) kW ?_) | (with_reducible refine arr_store arr64 rfl (.tmp 2) (.tmp 54) rfl (w.heap.size + 1) rfl (sch f 48) rfl 99 (fun _ => 0) kR ?_; intro w5 kR5 hg5))
      exact bodyPost_ret (v := uv (sch f 48) 64) (arr_result arr64 rfl _ _ (w.heap.size + 1) 99 (sch f 48) rfl kR5) rfl ⟨rfl, hB.grown hg5 hB.size (fun k e => by have : w.heap.size + 1 = k := Option.some.inj e; omega)⟩
end Go.Proofs.Ytififfadodjmeaa

namespace Go.Proofs.Ytififfadodjmeaa
open Go.RowKit

/-- The row with the lowest s - j octets laid. -/
def numR (x s j : Nat) : List Value := List.replicate j (bv 0) ++ (octs x (s - j)).map bv
theorem numR_at (x s : Nat) {j p : Nat} (h : p < j) : (numR x s j)[p]? = some (bv 0) := by
  unfold numR; rw [List.getElem?_append_left (by simpa using h)]; simp [h]
theorem numR_step (x s : Nat) {p : Nat} (h : p < s) : (numR x s (p + 1)).set p (bv (oct (x / 256 ^ (s - (p + 1))) 0)) = numR x s p := by
  unfold numR
  have e : s - p = (s - (p + 1)) + 1 := by omega
  rw [e, octs]
  have e2 : oct (x / 256 ^ (s - (p + 1))) 0 = oct x (s - (p + 1)) := by
    unfold oct
    rw [show 2 ^ ((s - (p + 1)) * 8) = 256 ^ (s - (p + 1)) by rw [Nat.mul_comm, Nat.pow_mul]]
    simp
  rw [e2, List.replicate_succ', List.append_assoc, List.set_append_right _ _ (by simp)]
  simp

set_option maxRecDepth 100000 in
set_option maxHeartbeats 4000000 in
theorem refNum_any (n size : Int) (hs : -9223372036854775808 ≤ size) (hs' : size ≤ 9223372036854775807) (w : World) :
    Calls Try.prog 63 #[.int .i64 n, .int .i64 size] w (ByW (octs (two n) (clamp size)) w) := by
  obtain ⟨i0, hi, hz0, hz1, hz2⟩ := info_parts Try.infoByte
  have hU : IntKind.u64.wrap n = (two n : Nat) := wrap_two n
  have hx : two n < M := by unfold two M; omega
  generalize two n = x at *
  have H8 := clamp_le size
  have hCC := clamp_cases size
  generalize clamp size = s at *
  go_enter Try.func63, Try.ntmps63
  rcases hCC with ⟨hc0, hC⟩ | ⟨hc0, hc8, hC⟩ | ⟨hc8, hC⟩
  all_goals
    have HC := Lib.hid hC
    clear hC
    go_wp2_with (at_make; refine wpList_make_full _ rfl _ _ 37 rfl w.heap.size 5 i0 (.int .u8 0) 1 Try.underlying37 hi hz0 hz1 .i64 .i64 _ _ s rfl rfl HC.out.symm HC.out.symm (by rw [hz2]; omega) (by unfold maxLen; omega) (Nat.le_refl _) ?_; intro w1 hown hgrow)
    have hown0 : w1.ownsRow w.heap.size 5 1 (.slice (some ⟨w.heap.size, 0, none⟩) s s) s (numR x s s) := by
      have e : (madeCells (Value.int .u8 0).cells (s * 1)).toList = numR x s s := by
        rw [Nat.mul_one]
        refine (toList_madeCells_one (.int .u8 0) s).trans ?_
        unfold numR
        simp [octs]
      rw [← e]; exact hown
    have hB0 : Below w.heap.size w w1 := (Below.refl _ w).grown hgrow (Nat.le_refl _) (fun k e => by cases e)
    have hs8 : (s : Int) ≤ 8 := by omega
    clear hown hgrow
    go_loopw [6, 7] (fun u i wr => ∃ j : Nat, j ≤ s ∧ i = .int .i64 ((j : Int) - 1) ∧ u = .int .u64 (x / 256 ^ (s - j) : Nat) ∧ wr.ownsRow w.heap.size 5 1 (.slice (some ⟨w.heap.size, 0, none⟩) s s) s (numR x s j) ∧ Below w.heap.size w wr) (fun _ i _ => ((intOf i) + 1).toNat)
    case atStart => exact ⟨s, Nat.le_refl _, by have := HC.out; congr 1; omega, by rw [Nat.sub_self, Nat.pow_zero, Nat.div_one], hown0, hB0⟩
    case round =>
      obtain ⟨j, hj, rfl, rfl, hown, hB⟩ := hrel
      rcases j with _ | p
      · have e0 : ((0 : Nat) : Int) - 1 = -1 := by omega
        rw [e0]
        go_wp2
        go_ret
        refine ⟨_, rfl, BSl.of_own (e := 5) (l := octs x s) ?_, hB⟩
        rw [octs_length]
        exact hown
      · have hps : p < s := by omega
        have e1 : ((p + 1 : Nat) : Int) - 1 = (p : Int) := by omega
        have hst := numR_step x s hps
        have HS := Lib.hid hst
        clear hst
        have hc := hown.cellAt p (by omega)
        rw [numR_at x s (Nat.lt_succ_self p)] at hc
        have hf := hown.frozenAt p
        have hd : x / 256 ^ (s - (p + 1)) / 256 = x / 256 ^ (s - p) := by
          rw [Nat.div_div_eq_div_mul, ← Nat.pow_succ, show (s - (p + 1)).succ = s - p by omega]
        have HD := Lib.hid hd
        clear hd
        have hy : x / 256 ^ (s - (p + 1)) ≤ 18446744073709551615 := Nat.le_trans (Nat.div_le_self _ _) (by unfold M at hx; omega)
        have hp8 : (p : Int) < (s : Int) := by omega
        generalize x / 256 ^ (s - (p + 1)) = y at *
        have hy' : (y : Int) ≤ 18446744073709551615 := by omega
        rw [e1]
        clear e1
        go_wp2
        have hv : Value.int .u8 ((y : Int) % 256) = bv (oct y 0) := by rw [oct_bv]; simp
        have hown2 := (hown.stored p (bv (oct y 0))).1
        rw [HS.out] at hown2
        rw [hv]
        exact ⟨⟨p, by omega, rfl, by rw [← HD.out]; simp, hown2, hB.setCell (p := ⟨w.heap.size, p, none⟩) (Nat.le_refl _) _⟩, by simp [intOf]⟩

set_option maxRecDepth 100000 in
set_option maxHeartbeats 4000000 in
theorem refInt_any (l : List UInt8) (sv : Value) (w : World) (hreach : l.length ≤ 140737488351232) (hsv : BSl 0 w.heap.size w sv l) :
    Calls Try.prog 67 #[sv] w fun e W' => e = .returned (.int .i64 (be (l.take 7) : Nat)) ∧ W' = w := by
  obtain ⟨a, cap, rfl, hcap, hcs⟩ := hsv
  go_enter Try.func67, Try.ntmps67
  go_wp2
  go_loop [3, 4] (fun n i => ∃ k : Nat, k ≤ l.length ∧ k ≤ 7 ∧ i = .int .i64 k ∧ n = .int .i64 (be (l.take k) : Nat)) (fun _ i => l.length - (intOf i).toNat)
  case atStart => exact ⟨0, by omega, by omega, rfl, rfl⟩
  case round =>
    obtain ⟨k, hk, hk7, rfl, rfl⟩ := hrel
    have hbl := be_lt' (l := l.take k) (k := 7) (by rw [List.length_take]; omega)
    by_cases hlt : k < l.length
    · by_cases h7 : k < 7
      · obtain ⟨x, hx⟩ : ∃ x, l[k]? = some x := ⟨_, List.getElem?_eq_getElem hlt⟩
        obtain ⟨b, off, rfl, ho⟩ : ∃ b off, a = some ⟨b, off, none⟩ ∧ Octs w b off l := by
          rcases hcs with h0 | ⟨b, off, h1, _, _, h2⟩
          · rw [h0] at hlt; simp at hlt
          · exact ⟨b, off, h1, h2⟩
        have hc := ho k x hx
        have hs : be (l.take (k + 1)) = be (l.take k) * 256 + x.toNat := by
          rw [List.take_add_one, hx]; exact be_snoc _ _
        have HS := Lib.hid hs
        have HX := Lib.hid hx
        have hb6 := be_lt' (l := l.take k) (k := 6) (by rw [List.length_take]; omega)
        have hb6' : ((be (l.take k) : Nat) : Int) ≤ 281474976710655 := by omega
        clear hs hx ho hcs hbl hb6
        have hxl : (x.toNat : Int) ≤ 255 := by have := x.toNat_lt; omega
        have hlt' : (k : Int) < (l.length : Int) := by omega
        have h7' : (k : Int) < 7 := by omega
        have hd1 : decide ((k : Int) < (l.length : Int)) = true := by simpa using hlt
        generalize hL : l.length = len at *
        have HL := Lib.hid hL
        clear hL
        generalize be (l.take k) = y at *
        go_wp2
        go_round
        case rel => exact ⟨k + 1, by omega, by omega, by simp, by rw [HS.out]; simp⟩
        case measure => simp [intOf]; omega
      · obtain rfl : k = 7 := by omega
        have hlt' : (7 : Int) < (l.length : Int) := by omega
        go_wp2
        go_ret
        exact ⟨rfl, rfl⟩
    · obtain rfl : k = l.length := by omega
      have e7 : be (l.take l.length) = be (l.take 7) := by rw [List.take_of_length_le hk7, List.take_length]
      rw [e7]
      have HE := Lib.hid e7
      clear e7
      have hL : ((l.length : Nat) : Int) ≤ 7 := by omega
      clear hbl
      generalize hY : be (l.take 7) = y at *
      have HY := Lib.hid hY
      clear hY
      go_wp2
      go_ret
      exact ⟨congrArg (fun z : Nat => Ending.returned (.int .i64 (z : Int))) HY.out.symm, rfl⟩

end Go.Proofs.Ytififfadodjmeaa

namespace Go.Proofs.Ytififfadodjmeaa
open Go.RowKit

/-- The words of a text, of four octets each. -/
def wd (l : List UInt8) (t : Nat) : Int := (be ((l.drop (4 * t)).take 4) : Nat)
/-- The reference's words behind t rounds. -/
def wst (f : Nat → Int) (t : Nat) : Nat → Int := if t ≤ 16 then (fun i => if i < t then f i else 0) else sch f (t - 16)
theorem wst_low {f : Nat → Int} {t : Nat} (h : t < 16) : us (updI (wst f t) t (f t)) 64 = us (wst f (t + 1)) 64 := us_congr fun k _ => by
  unfold wst updI
  rw [if_pos (show t ≤ 16 by omega), if_pos (show t + 1 ≤ 16 by omega)]
  by_cases e : k = t
  · subst e; simp
  · rw [if_neg e]
    show (if k < t then f k else 0) = if k < t + 1 then f k else 0
    by_cases e2 : k < t
    · rw [if_pos e2, if_pos (by omega)]
    · rw [if_neg e2, if_neg (by omega)]
theorem wst_high {f : Nat → Int} {t : Nat} (h : 16 ≤ t) : wst f t = sch f (t - 16) := by
  unfold wst
  by_cases e : t ≤ 16
  · have : t = 16 := by omega
    subst this
    rfl
  · rw [if_neg e]
theorem sch_succ {f : Nat → Int} {t : Nat} (h : 16 ≤ t) : sch f (t + 1 - 16) = updI (sch f (t - 16)) t (nw (sch f (t - 16)) t) := by
  obtain ⟨k, rfl⟩ : ∃ k, t = k + 16 := ⟨t - 16, by omega⟩
  rw [show k + 16 + 1 - 16 = k + 1 by omega, show k + 16 - 16 = k by omega]
  rfl

theorem sub_octs {W : World} {b off : Nat} {l : List UInt8} (h : Octs W b off l) (i n : Nat) : Octs W b (off + i) ((l.drop i).take n) := fun k x hx => by
  have hk : k < n := by
    have := (List.getElem?_eq_some_iff.1 hx).1
    rw [List.length_take] at this
    omega
  rw [List.getElem?_take_of_lt hk, List.getElem?_drop] at hx
  rw [Nat.add_assoc]
  exact h _ x hx
theorem sub_bsl {W : World} {b off cap hi : Nat} {l : List UInt8} (h : Octs W b off l) (hb : b < hi) (i n : Nat) (hl : i + n ≤ l.length) (hc : n ≤ cap) : BSl 0 hi W (.slice (some ⟨b, off + i, none⟩) n cap) ((l.drop i).take n) :=
  ⟨_, cap, by rw [show ((l.drop i).take n).length = n by simp; omega], by simp; omega, .inr ⟨b, _, rfl, Nat.zero_le _, hb, sub_octs h i n⟩⟩
theorem wd_be {l : List UInt8} (t : Nat) : ((be (((l.drop (4 * t)).take 4).take 7) : Nat) : Int) = wd l t ∧ 0 ≤ wd l t ∧ wd l t ≤ 4294967295 := by
  have hle : ((l.drop (4 * t)).take 4).length ≤ 4 := by simp; omega
  have := be_lt' hle
  rw [List.take_of_length_le (by omega)]
  unfold wd
  omega

theorem us8 (g : Nat → Int) : us g 8 = [.int .u32 (g 0), .int .u32 (g 1), .int .u32 (g 2), .int .u32 (g 3), .int .u32 (g 4), .int .u32 (g 5), .int .u32 (g 6), .int .u32 (g 7)] := rfl

set_option maxRecDepth 100000 in
set_option maxHeartbeats 8000000 in
theorem refBlock_any (f kk : Nat → Int) (l : List UInt8) (hl : l.length = 64) (b off cap : Nat) (hcap : 64 ≤ cap) (hcap' : cap ≤ 9223372036854775807) (w : World) (hb : b < w.heap.size) (ho : Octs w b off l) :
    Calls Try.prog 80 #[uv f 8, uv kk 64, .slice (some ⟨b, off, none⟩) 64 cap] w fun e W' => e = .returned (uv (mixed kk (sch (wd l) 48) f) 8) ∧ Below w.heap.size w W' := by
  have HL := Lib.hid hl
  clear hl
  go_enter Try.func80, Try.ntmps80
  go_wp2
  generalize hW0 : World.alloc _ _ = W0
  have kS : Blk W0 w.heap.size 98 (us f 8) := by rw [← hW0]; exact (((Blk.new' rfl).alloc _).alloc _).alloc _
  have kK : Blk W0 (w.heap.size + 1) 99 (us kk 64) := by rw [← hW0]; exact ((Blk.new' (by simp)).alloc _).alloc _
  have kR : Blk W0 (w.heap.size + 1 + 1) 98 (us (fun _ => 0) 8) := by rw [← hW0, us0_8]; exact (Blk.new' (by simp)).alloc _
  have kW : Blk W0 (w.heap.size + 1 + 1 + 1) 99 (us (fun _ => 0) 64) := by rw [← hW0, us0_64]; exact Blk.new' (by simp)
  have d0 : Below w.heap.size w W0 := by rw [← hW0]; exact chainA (chainA (chainA (chain0 _ _) _) _) _
  clear hW0
  go_loopw [8] (fun i wr => ∃ t : Nat, t ≤ 64 ∧ i = .int .i64 t ∧ Blk wr w.heap.size 98 (us f 8) ∧ Blk wr (w.heap.size + 1) 99 (us kk 64) ∧ Blk wr (w.heap.size + 1 + 1) 98 (us (fun _ => 0) 8) ∧
    Blk wr (w.heap.size + 1 + 1 + 1) 99 (us (wst (wd l) t) 64) ∧ Below w.heap.size w wr) (fun i _ => 64 - (intOf i).toNat)
  case atStart => exact ⟨0, by omega, rfl, kS, kK, kR, kW, d0⟩
  case round =>
    obtain ⟨t, ht, rfl, kS, kK, kR, kW, hB⟩ := hrel
    by_cases hlt : t < 64
    · by_cases h16 : t < 16
      · have hf := kW.frozen t
        have cT := (kW.cell t).trans (us_at _ (by omega))
        have i1 : (t : Int) < 64 := by omega
        have i2 : (t : Int) < 16 := by omega
        have i3 : (0 : Int) ≤ 4 * (t : Int) := by omega
        have i4 : 4 * (t : Int) + 4 ≤ (cap : Int) := by omega
        have i5 : 4 * (t : Int) ≤ 4 * (t : Int) + 4 := by omega
        have hne : ¬ cap = 4 * t := by omega
        have n1 : (4 * (t : Int)).toNat = 4 * t := by omega
        go_wp2_with fail
        refine (refInt_any ((l.drop (4 * t)).take 4) _ _ (by simp; omega) (sub_bsl (ho.below hB hb) (Nat.lt_of_lt_of_le hb hB.size) (4 * t) 4 (by rw [HL.out]; omega) (by omega))).mono ?_
        rintro e w' ⟨rfl, rfl⟩
        obtain ⟨hw, hw0, hw1⟩ := wd_be (l := l) t
        rw [hw]
        have HW := Lib.hid (wst_low (f := wd l) h16)
        clear hw
        generalize hx : wd l t = x at *
        have HX := Lib.hid hx
        clear hx i3 i4 i5 n1 hne
        go_wp2_with fail
        have kW' := kW.set t (.int .u32 x)
        rw [us_set, HW.out] at kW'
        exact ⟨⟨t + 1, by omega, by simp, kS.other _ _ (by omega), kK.other _ _ (by omega), kR.other _ _ (by omega), kW', hB.setCell (p := ⟨w.heap.size + 1 + 1 + 1, _, none⟩) (by simp; omega) _⟩, by simp [intOf]; omega⟩
      · have HS := Lib.hid (sch_succ (f := wd l) (t := t) (by omega))
        have HW := Lib.hid (wst_high (f := wd l) (t := t + 1) (by omega))
        rw [wst_high (by omega)] at kW
        generalize hF : sch (wd l) (t - 16) = F at *
        have HF := Lib.hid hF
        clear hF
        have c2 := (kW.cell (t - 2)).trans (us_at _ (by omega))
        have c15 := (kW.cell (t - 15)).trans (us_at _ (by omega))
        have c7 := (kW.cell (t - 7)).trans (us_at _ (by omega))
        have c16 := (kW.cell (t - 16)).trans (us_at _ (by omega))
        have cT := (kW.cell t).trans (us_at _ (by omega))
        have hf := kW.frozen t
        have hT2 : (t : Int) < 64 := by omega
        have hT3 : 16 ≤ (t : Int) := by omega
        have hT4 : ¬ (t : Int) < 16 := by omega
        go_wp2_with fail
        have l2 : IntKind.i64.wrap ((t : Int) - 2) = (t : Int) - 2 := IntWalk.i64_in _ (by omega)
        have l15 : IntKind.i64.wrap ((t : Int) - 15) = (t : Int) - 15 := IntWalk.i64_in _ (by omega)
        have b2 : 0 ≤ (t : Int) - 2 := by omega
        have b2' : (t : Int) - 2 < 64 := by omega
        have b15 : 0 ≤ (t : Int) - 15 := by omega
        have b15' : (t : Int) - 15 < 64 := by omega
        have n2 : ((t : Int) - 2).toNat = t - 2 := by omega
        have n15 : ((t : Int) - 15).toNat = t - 15 := by omega
        go_quiet (fail)
        clear l2 l15 b2 b2' b15 b15' n2 n15 c2 c15
        replace kS : Blk (wr.drewN nq) w.heap.size 98 (us f 8) := kS
        replace kK : Blk (wr.drewN nq) (w.heap.size + 1) 99 (us kk 64) := kK
        replace kW : Blk (wr.drewN nq) (w.heap.size + 1 + 1 + 1) 99 (us F 64) := kW
        replace kR : Blk (wr.drewN nq) (w.heap.size + 1 + 1) 98 (us (fun _ => 0) 8) := kR
        replace hB : Below w.heap.size w (wr.drewN nq) := hB.trans (below_drewN _ _)
        replace hf : (wr.drewN nq).frozen? ⟨w.heap.size + 1 + 1 + 1, t, none⟩ = false := hf
        replace c7 : (wr.drewN nq).cell? ⟨w.heap.size + 1 + 1 + 1, t - 7, none⟩ = some (.int .u32 (F (t - 7))) := c7
        replace c16 : (wr.drewN nq).cell? ⟨w.heap.size + 1 + 1 + 1, t - 16, none⟩ = some (.int .u32 (F (t - 16))) := c16
        replace cT : (wr.drewN nq).cell? ⟨w.heap.size + 1 + 1 + 1, t, none⟩ = some (.int .u32 (F t)) := cT
        generalize wr.drewN nq = wq at *
        have HN := Lib.hid (show nw F t = (bits .xor .u32 (bits .xor .u32 (rot (F (t - 2)) 17) (rot (F (t - 2)) 19)) (F (t - 2) / 1024) + F (t - 7) + bits .xor .u32 (bits .xor .u32 (rot (F (t - 15)) 7) (rot (F (t - 15)) 18)) (F (t - 15) / 8) + F (t - 16)) % 4294967296 from rfl)
        generalize F t = xT at *
        generalize F (t - 2) = x2 at *
        generalize F (t - 15) = x15 at *
        generalize F (t - 7) = x7 at *
        generalize F (t - 16) = x16 at *
        go_wp2
        have l7 : IntKind.i64.wrap ((t : Int) - 7) = (t : Int) - 7 := IntWalk.i64_in _ (by omega)
        have l16 : IntKind.i64.wrap ((t : Int) - 16) = (t : Int) - 16 := IntWalk.i64_in _ (by omega)
        have b7 : 0 ≤ (t : Int) - 7 := by omega
        have b7' : (t : Int) - 7 < 64 := by omega
        have b16 : 0 ≤ (t : Int) - 16 := by omega
        have b16' : (t : Int) - 16 < 64 := by omega
        have b7n : 7 ≤ (t : Int) := by omega
        have n7 : ((t : Int) - 7).toNat = t - 7 := by omega
        have n16 : ((t : Int) - 16).toNat = t - 16 := by omega
        go_still_tail 29, (by kernel_rfl)
        still_call (turn_still _ _ 17 t17 rfl _)
        repeat still_step
        still_call (turn_still _ _ 19 t19 rfl _)
        repeat still_step
        still_call (turn_still _ _ 7 t7 rfl _)
        repeat still_step
        still_call (turn_still _ _ 18 t18 rfl _)
        repeat still_step
        refine wpStill_nil ?_
        change wpList _ _ _ _ _ wq.drew
        clear l7 l16
        go_wp2
        rw [← HN.out]
        have kW' := kW.set t (.int .u32 (nw F t))
        rw [us_set, ← HS.out, ← HW.out] at kW'
        exact ⟨⟨t + 1, by omega, by simp, kS.other _ _ (by omega), kK.other _ _ (by omega), kR.other _ _ (by omega), kW', (hB.setCell (p := ⟨w.heap.size + 1 + 1 + 1, _, none⟩) (by simp; omega) _).drew⟩, by simp [intOf]; omega⟩
    · have hT : ¬ (t : Int) < 64 := by omega
      have ht' : t - 16 = 48 := by omega
      rw [wst_high (by omega), ht'] at kW
      generalize hm : sch (wd l) 48 = m at *
      have HMM := Lib.hid hm
      clear hm ht hlt ht'
      have q0 := (kS.cell 0).trans (us_at _ (by omega))
      have q1 := (kS.cell 1).trans (us_at _ (by omega))
      have q2 := (kS.cell 2).trans (us_at _ (by omega))
      have q3 := (kS.cell 3).trans (us_at _ (by omega))
      have q4 := (kS.cell 4).trans (us_at _ (by omega))
      have q5 := (kS.cell 5).trans (us_at _ (by omega))
      have q6 := (kS.cell 6).trans (us_at _ (by omega))
      have q7 := (kS.cell 7).trans (us_at _ (by omega))
      go_wp2_with fail
      go_quiet (fail)
      replace kS : Blk (wr.drewN nq) w.heap.size 98 (us f 8) := kS
      replace kK : Blk (wr.drewN nq) (w.heap.size + 1) 99 (us kk 64) := kK
      replace kW : Blk (wr.drewN nq) (w.heap.size + 1 + 1 + 1) 99 (us m 64) := kW
      replace kR : Blk (wr.drewN nq) (w.heap.size + 1 + 1) 98 (us (fun _ => 0) 8) := kR
      replace hB : Below w.heap.size w (wr.drewN nq) := hB.trans (below_drewN _ _)
      clear q0 q1 q2 q3 q4 q5 q6 q7
      generalize wr.drewN nq = wq at *
      go_wp2_with fail
      go_loopw [11, 12, 13, 14, 15, 16, 17, 18, 19] (fun a b c d e f' g h i wr => ∃ (k : Nat) (s : S8), k ≤ 64 ∧ Hid (s = rds kk m (s8 f) k) ∧ i = .int .i64 k ∧ a = .int .u32 s.a ∧ b = .int .u32 s.b ∧ c = .int .u32 s.c ∧ d = .int .u32 s.d ∧ e = .int .u32 s.e ∧ f' = .int .u32 s.f ∧ g = .int .u32 s.g ∧ h = .int .u32 s.h ∧
        Blk wr w.heap.size 98 (us f 8) ∧ Blk wr (w.heap.size + 1) 99 (us kk 64) ∧ Blk wr (w.heap.size + 1 + 1) 98 (us (fun _ => 0) 8) ∧ Blk wr (w.heap.size + 1 + 1 + 1) 99 (us m 64) ∧ Below w.heap.size w wr) (fun _ _ _ _ _ _ _ _ i _ => 64 - (intOf i).toNat)
      case atStart => exact ⟨0, s8 f, by omega, Lib.hid rfl, rfl, rfl, rfl, rfl, rfl, rfl, rfl, rfl, rfl, kS, kK, kR, kW, hB⟩
      clear kS kK kW kR hB
      case round =>
        obtain ⟨k, ⟨a, b', c, d, e, f', g, h⟩, hk, HS, rfl, rfl, rfl, rfl, rfl, rfl, rfl, rfl, rfl, kS, kK, kR, kW, hB⟩ := hrel
        dsimp only
        by_cases hlt : k < 64
        · have cM := (kW.cell k).trans (us_at _ hlt)
          have cK := (kK.cell k).trans (us_at _ hlt)
          have hk0 : (k : Int) < 64 := by omega
          go_wp2_with fail
          refine wp_region_still_lit (by kernel_rfl) (by kernel_rfl) ?_
          repeat still_step
          still_call (turn_still _ _ 6 t6 rfl _)
          repeat still_step
          still_call (turn_still _ _ 11 t11 rfl _)
          repeat still_step
          still_call (turn_still _ _ 25 t25 rfl _)
          repeat still_step
          refine wpStill_nil ?_
          generalize hx1 : IntKind.u32.wrap (IntKind.u32.wrap (IntKind.u32.wrap (IntKind.u32.wrap (h + _) + _) + kk k) + m k) = x1
          have HX1 : Hid (tmp1 ⟨a, b', c, d, e, f', g, h⟩ (kk k) (m k) = x1) := Lib.hid (by
            rw [← hx1]; simp only [tmp1, bs1, chs3, IntKind.wrap_u32, Int.emod_add_emod])
          clear hx1
          replace kS : Blk wr.drew w.heap.size 98 (us f 8) := kS
          replace kK : Blk wr.drew (w.heap.size + 1) 99 (us kk 64) := kK
          replace kR : Blk wr.drew (w.heap.size + 1 + 1) 98 (us (fun _ => 0) 8) := kR
          replace kW : Blk wr.drew (w.heap.size + 1 + 1 + 1) 99 (us m 64) := kW
          replace hB : Below w.heap.size w wr.drew := hB.drew
          change Exit.then _ _ _ _ wr.drew
          generalize wr.drew = wq at *
          clear cM cK
          go_wp2_with fail
          refine (turn_still _ _ 2 t2 rfl _).mono ?_
          rintro e' w' ⟨rfl, rfl⟩
          go_wp2_with fail
          refine (turn_still _ _ 13 t13 rfl _).mono ?_
          rintro e' w' ⟨rfl, rfl⟩
          go_wp2_with fail
          refine (turn_still _ _ 22 t22 rfl _).mono ?_
          rintro e' w' ⟨rfl, rfl⟩
          go_wp2_with fail
          exact ⟨⟨k + 1, rnd ⟨a, b', c, d, e, f', g, h⟩ (kk k) (m k), by omega, Lib.hid (by rw [HS.out]; rfl), by simp, by rw [← HX1.out]; rfl, rfl, rfl, rfl, by rw [← HX1.out]; rfl, rfl, rfl, rfl, kS, kK, kR, kW, hB⟩, by simp [intOf]; omega⟩
        · obtain rfl : k = 64 := by omega
          have q0 := (kS.cell 0).trans (us_at _ (by omega))
          have q1 := (kS.cell 1).trans (us_at _ (by omega))
          have q2 := (kS.cell 2).trans (us_at _ (by omega))
          have q3 := (kS.cell 3).trans (us_at _ (by omega))
          have q4 := (kS.cell 4).trans (us_at _ (by omega))
          have q5 := (kS.cell 5).trans (us_at _ (by omega))
          have q6 := (kS.cell 6).trans (us_at _ (by omega))
          have q7 := (kS.cell 7).trans (us_at _ (by omega))
          have hM : mixed kk m f = fun i => (f i + S8.at ⟨a, b', c, d, e, f', g, h⟩ i) % 4294967296 := by unfold mixed; rw [← HS.out]
          have HM := Lib.hid hM
          clear hM
          obtain ⟨r0, r1, r2, r3, r4, r5, r6, r7⟩ : wr.cell? ⟨w.heap.size + 1 + 1, 0, none⟩ = some (.int .u32 0) ∧ wr.cell? ⟨w.heap.size + 1 + 1, 1, none⟩ = some (.int .u32 0) ∧ wr.cell? ⟨w.heap.size + 1 + 1, 2, none⟩ = some (.int .u32 0) ∧ wr.cell? ⟨w.heap.size + 1 + 1, 3, none⟩ = some (.int .u32 0) ∧ wr.cell? ⟨w.heap.size + 1 + 1, 4, none⟩ = some (.int .u32 0) ∧ wr.cell? ⟨w.heap.size + 1 + 1, 5, none⟩ = some (.int .u32 0) ∧ wr.cell? ⟨w.heap.size + 1 + 1, 6, none⟩ = some (.int .u32 0) ∧ wr.cell? ⟨w.heap.size + 1 + 1, 7, none⟩ = some (.int .u32 0) :=
            ⟨kR.cell 0, kR.cell 1, kR.cell 2, kR.cell 3, kR.cell 4, kR.cell 5, kR.cell 6, kR.cell 7⟩
          have f0 := kR.frozen 0
          have f1 := kR.frozen 1
          have f2 := kR.frozen 2
          have f3 := kR.frozen 3
          have f4 := kR.frozen 4
          have f5 := kR.frozen 5
          have f6 := kR.frozen 6
          have f7 := kR.frozen 7
          go_wp2_with fail
          have kR5 := (((((((kR.set 0 (.int .u32 ((f 0 + a) % 4294967296))).set 1 (.int .u32 ((f 1 + b') % 4294967296))).set 2 (.int .u32 ((f 2 + c) % 4294967296))).set 3 (.int .u32 ((f 3 + d) % 4294967296))).set 4 (.int .u32 ((f 4 + e) % 4294967296))).set 5 (.int .u32 ((f 5 + f') % 4294967296))).set 6 (.int .u32 ((f 6 + g) % 4294967296))).set 7 (.int .u32 ((f 7 + h) % 4294967296))
          rw [us0_8] at kR5
          simp only [List.set_cons_zero, List.set_cons_succ] at kR5
          have hlist : [.int .u32 ((f 0 + a) % 4294967296), .int .u32 ((f 1 + b') % 4294967296), .int .u32 ((f 2 + c) % 4294967296), .int .u32 ((f 3 + d) % 4294967296), .int .u32 ((f 4 + e) % 4294967296), .int .u32 ((f 5 + f') % 4294967296), .int .u32 ((f 6 + g) % 4294967296), .int .u32 ((f 7 + h) % 4294967296)] = us (mixed kk m f) 8 := by rw [HM.out, us8]; simp only [S8.at]
          rw [hlist] at kR5
          have hB5 := (((((((hB.setCell (p := ⟨w.heap.size + 1 + 1, 0, none⟩) (by simp; omega) (.int .u32 ((f 0 + a) % 4294967296))).setCell (p := ⟨w.heap.size + 1 + 1, 1, none⟩) (by simp; omega) (.int .u32 ((f 1 + b') % 4294967296))).setCell (p := ⟨w.heap.size + 1 + 1, 2, none⟩) (by simp; omega) (.int .u32 ((f 2 + c) % 4294967296))).setCell (p := ⟨w.heap.size + 1 + 1, 3, none⟩) (by simp; omega) (.int .u32 ((f 3 + d) % 4294967296))).setCell (p := ⟨w.heap.size + 1 + 1, 4, none⟩) (by simp; omega) (.int .u32 ((f 4 + e) % 4294967296))).setCell (p := ⟨w.heap.size + 1 + 1, 5, none⟩) (by simp; omega) (.int .u32 ((f 5 + f') % 4294967296))).setCell (p := ⟨w.heap.size + 1 + 1, 6, none⟩) (by simp; omega) (.int .u32 ((f 6 + g) % 4294967296))).setCell (p := ⟨w.heap.size + 1 + 1, 7, none⟩) (by simp; omega) (.int .u32 ((f 7 + h) % 4294967296))
          exact bodyPost_ret (v := uv (mixed kk m f) 8) (arr_result arr8 rfl _ _ (w.heap.size + 1 + 1) 98 (mixed kk m f) rfl kR5) rfl ⟨by rw [HMM.out], hB5⟩
end Go.Proofs.Ytififfadodjmeaa
