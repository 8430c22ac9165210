/-
  Words of 32 bits: rotations to the right; hash.squareRoots, hash.cubeRoots, the reference's table: the first words, and those of the rounds; What a round makes of eight words; hash.schedule: a block's words, then those made of earlier ones; The reference's block: the state behind a block; slices.Grow of the nil slice; slices.Concat of octets; hash.Pad: a text, the end's mark, zeros, its length in 
-/
import Derived.WalkKit
import Derived.Laws.BitsLemmas
import Derived.Lib.Hide
import Derived.Test.YthbpidekfocioaaProg
import Derived.IntWalk
import Derived.Outline
import Derived.Deep.QuietTactic
import Derived.BigQuiet
import Derived.Great.BuildSlice
import Derived.StillTailTactics
import Derived.RegionTactic
import Derived.Laws.OwnMore
import Derived.Lib.AppendZeros
import Derived.OwnWalkIn
import Derived.StillTactics
import Derived.Test.YthbpidekfocioaaK04
namespace Go.Proofs.Ythbpidekfocioaa
open Go.RowKit
def rot (x : Int) (n : Nat) : Int := bits .or .u32 (x / (2 : Int) ^ n) (x * (2 : Int) ^ (32 - n) % 4294967296)
theorem or_comm32 (a b : Int) : bits .or .u32 a b = bits .or .u32 b a := by simp only [bits, BitVec.or_comm]
theorem mask31 (n : Nat) (h : n ∈ [2, 3, 6, 7, 10, 11, 13, 17, 18, 19, 22, 25]) : bits .and .u64 (IntKind.u64.wrap (-(n : Int))) 31 = ((32 - n : Nat) : Int) := by
  simp only [List.mem_cons, List.not_mem_nil, or_false] at h
  rcases h with rfl | rfl | rfl | rfl | rfl | rfl | rfl | rfl | rfl | rfl | rfl | rfl <;> decide
set_option maxHeartbeats 1000000 in
theorem rotateLeft_any (x : Int) (k : Int) (s : Nat) (hs : bits .and .u64 (IntKind.u64.wrap k) 31 = (s : Int)) (h0 : 1 ≤ (s : Int)) (h1 : (s : Int) ≤ 31) (w : World) : Calls Try.prog 57 #[.int .u32 x, .int .i64 k] w fun e w' => e = .returned (.int .u32 (rot x (32 - s))) ∧ w = w' := by
  go_enter Try.func57, Try.ntmps57
  go_wp2
  go_ret
  refine ⟨?_, rfl⟩
  have hr : rot x (32 - s) = bits .or .u32 (x * 2 ^ s % 4294967296) (x / 2 ^ (32 - s)) := by
    unfold rot
    rw [or_comm32, show 32 - (32 - s) = s by omega]
  rw [hr]
  rfl
def turns (n : Nat) : Prop := n ∈ [2, 3, 6, 7, 10, 11, 13, 17, 18, 19, 22, 25]
set_option maxHeartbeats 1000000 in
theorem rotr_any (x : Int) (n : Nat) (hn : turns n) (w : World) : Calls Try.prog 51 #[.int .u32 x, .int .i64 (n : Int)] w fun e w' => e = .returned (.int .u32 (rot x n)) ∧ w = w' := by
  have hs := mask31 n hn
  have hb : 1 ≤ n ∧ n ≤ 31 := by
    unfold turns at hn
    simp only [List.mem_cons, List.not_mem_nil, or_false] at hn
    omega
  obtain ⟨hb1, hb2⟩ := hb
  have HN := Lib.hid hs
  clear hs hn
  have hm : (n : Int) ≤ 31 := by omega
  go_enter Try.func51, Try.ntmps51
  go_wp2_with (go_at_call 57; refine (rotateLeft_any _ _ _ HN.out (by omega) (by omega) _).mono ?_; rintro e w' ⟨rfl, rfl⟩)
  go_ret
  have hq : 32 - (32 - n) = n := by omega
  exact ⟨congrArg (fun q => Ending.returned (.int .u32 (rot x q))) hq, rfl⟩
theorem rotr_still (x : Int) (k : Int) (n : Nat) (hn : turns n) (hk : k = (n : Int)) (w : World) : Calls Try.prog 51 #[.int .u32 x, .int .i64 k] w fun e w' => e = .returned (.int .u32 (rot x n)) ∧ w' = w := by
  subst hk; exact (rotr_any x n hn w).mono fun _ _ h => ⟨h.1, h.2.symm⟩
theorem t2 : turns 2 := by unfold turns; simp
theorem t6 : turns 6 := by unfold turns; simp
theorem t7 : turns 7 := by unfold turns; simp
theorem t11 : turns 11 := by unfold turns; simp
theorem t13 : turns 13 := by unfold turns; simp
theorem t17 : turns 17 := by unfold turns; simp
theorem t18 : turns 18 := by unfold turns; simp
theorem t19 : turns 19 := by unfold turns; simp
theorem t22 : turns 22 := by unfold turns; simp
theorem t25 : turns 25 := by unfold turns; simp
end Go.Proofs.Ythbpidekfocioaa
namespace Go.Proofs.Ythbpidekfocioaa
open Go.RowKit
def sqList : List Int := [1779033703, 3144134277, 1013904242, 2773480762, 1359893119, 2600822924, 528734635, 1541459225]
def cbList : List Int := [0x428a2f98, 0x71374491, 0xb5c0fbcf, 0xe9b5dba5, 0x3956c25b, 0x59f111f1, 0x923f82a4, 0xab1c5ed5,
  0xd807aa98, 0x12835b01, 0x243185be, 0x550c7dc3, 0x72be5d74, 0x80deb1fe, 0x9bdc06a7, 0xc19bf174,
  0xe49b69c1, 0xefbe4786, 0x0fc19dc6, 0x240ca1cc, 0x2de92c6f, 0x4a7484aa, 0x5cb0a9dc, 0x76f988da,
  0x983e5152, 0xa831c66d, 0xb00327c8, 0xbf597fc7, 0xc6e00bf3, 0xd5a79147, 0x06ca6351, 0x14292967,
  0x27b70a85, 0x2e1b2138, 0x4d2c6dfc, 0x53380d13, 0x650a7354, 0x766a0abb, 0x81c2c92e, 0x92722c85,
  0xa2bfe8a1, 0xa81a664b, 0xc24b8b70, 0xc76c51a3, 0xd192e819, 0xd6990624, 0xf40e3585, 0x106aa070,
  0x19a4c116, 0x1e376c08, 0x2748774c, 0x34b0bcb5, 0x391c0cb3, 0x4ed8aa4a, 0x5b9cca4f, 0x682e6ff3,
  0x748f82ee, 0x78a5636f, 0x84c87814, 0x8cc70208, 0x90befffa, 0xa4506ceb, 0xbef9a3f7, 0xc67178f2]
def sq (k : Nat) : Int := sqList.getD k 0
def cb (k : Nat) : Int := cbList.getD k 0
theorem us_list (l : List Int) : l.map (Value.int .u32) = us (fun k => l.getD k 0) l.length := by
  apply List.ext_getElem?
  intro j
  by_cases hj : j < l.length
  · rw [us_at _ hj, List.getElem?_map, List.getElem?_eq_getElem hj]; simp [List.getD, hj]
  · rw [List.getElem?_eq_none (by simp; omega), List.getElem?_eq_none (by rw [us_length]; omega)]
theorem zero8 : ((Try.prog.info? 79).bind (·.zero)).map (·.cells.size) = some 8 := by kernel_rfl
theorem zero64 : ((Try.prog.info? 86).bind (·.zero)).map (·.cells.size) = some 64 := by kernel_rfl
theorem szW : (Try.prog.info? 78).map (·.size) = some 1 := by kernel_rfl
theorem und8 : Try.prog.underlying 79 = some (.array 8 78) := by kernel_rfl
theorem und64 : Try.prog.underlying 86 = some (.array 64 78) := by kernel_rfl
theorem us0_8 : us (fun _ => 0) 8 = [.int .u32 0, .int .u32 0, .int .u32 0, .int .u32 0, .int .u32 0, .int .u32 0, .int .u32 0, .int .u32 0] := rfl
theorem sq_us : sqList.map (Value.int .u32) = us sq 8 := us_list sqList
theorem cb_us : cbList.map (Value.int .u32) = us cb 64 := us_list cbList
set_option maxRecDepth 100000 in
set_option maxHeartbeats 4000000 in
theorem squareRoots_any (w : World) : Calls Try.prog 37 #[] w fun e W' => e = .returned (uv sq 8) ∧ Below w.heap.size w W' := by
  go_enter Try.func37, Try.ntmps37
  apply wp_seq_k; intro K0 hK0
  apply wp_region_lit
  refine wpList_plain rfl fun K hK => ?_
  go_simp
  refine hK _ _ ?_
  clear hK K
  apply wpList_nil
  refine hK0 _ _ ?_
  clear hK0 K0
  apply wp_seq_k; intro K0 hK0
  apply wp_region_lit
  refine wpList_buildFlatArrTo rfl 79 78 8 _ rfl .u32 sqList (some 1) rfl und8 szW zero8 (by kernel_rfl) ?_
  rw [sq_us]
  generalize hW0 : World.alloc _ _ = W0
  have kR : Blk W0 w.heap.size 79 (us (fun _ => 0) 8) := by rw [← hW0, us0_8]; exact Blk.new' rfl
  have d0 : Below w.heap.size w W0 := by rw [← hW0]; exact chain0 _ _
  clear hW0
  refine arr_store arr8 rfl (.tmp 0) (.tmp 1) rfl w.heap.size rfl sq rfl 79 (fun _ => 0) kR ?_
  intro w5 kR5 hg5
  apply wpList_nil
  refine hK0 _ _ ?_
  clear hK0 K0
  go_wp2
  exact bodyPost_ret (v := uv sq 8) (arr_result arr8 rfl _ _ w.heap.size 79 sq rfl kR5) rfl ⟨rfl, d0.grown hg5 d0.size (fun k e => by have : w.heap.size = k := Option.some.inj e; omega)⟩
set_option maxRecDepth 100000 in
set_option maxHeartbeats 4000000 in
theorem cubeRoots_any (w : World) : Calls Try.prog 50 #[] w fun e W' => e = .returned (uv cb 64) ∧ Below w.heap.size w W' := by
  go_enter Try.func50, Try.ntmps50
  apply wp_seq_k; intro K0 hK0
  apply wp_region_lit
  refine wpList_plain rfl fun K hK => ?_
  go_simp
  refine hK _ _ ?_
  clear hK K
  apply wpList_nil
  refine hK0 _ _ ?_
  clear hK0 K0
  apply wp_seq_k; intro K0 hK0
  apply wp_region_lit
  refine wpList_buildFlatArrTo rfl 86 78 64 _ rfl .u32 cbList (some 1) rfl und64 szW zero64 (by kernel_rfl) ?_
  rw [cb_us]
  generalize hW0 : World.alloc _ _ = W0
  have kR : Blk W0 w.heap.size 86 (us (fun _ => 0) 64) := by rw [← hW0, us0_64]; exact Blk.new' rfl
  have d0 : Below w.heap.size w W0 := by rw [← hW0]; exact chain0 _ _
  clear hW0
  refine arr_store arr64 rfl (.tmp 0) (.tmp 1) rfl w.heap.size rfl cb rfl 86 (fun _ => 0) kR ?_
  intro w5 kR5 hg5
  apply wpList_nil
  refine hK0 _ _ ?_
  clear hK0 K0
  go_wp2
  exact bodyPost_ret (v := uv cb 64) (arr_result arr64 rfl _ _ w.heap.size 86 cb rfl kR5) rfl ⟨rfl, d0.grown hg5 d0.size (fun k e => by have : w.heap.size = k := Option.some.inj e; omega)⟩
end Go.Proofs.Ythbpidekfocioaa
namespace Go.Proofs.Ythbpidekfocioaa
open Go.RowKit
structure S8 where
  a : Int
  b : Int
  c : Int
  d : Int
  e : Int
  f : Int
  g : Int
  h : Int
def bs1 (e : Int) : Int := bits .xor .u32 (bits .xor .u32 (rot e 6) (rot e 11)) (rot e 25)
def bs0 (a : Int) : Int := bits .xor .u32 (bits .xor .u32 (rot a 2) (rot a 13)) (rot a 22)
def chs3 (e f g : Int) : Int := bits .xor .u32 (bits .and .u32 e f) (bits .and .u32 (bits .xor .u32 4294967295 e) g)
def maj (a b c : Int) : Int := bits .xor .u32 (bits .xor .u32 (bits .and .u32 a b) (bits .and .u32 a c)) (bits .and .u32 b c)
def tmp1 (s : S8) (k w : Int) : Int := (s.h + bs1 s.e + chs3 s.e s.f s.g + k + w) % 4294967296
def tmp2 (s : S8) : Int := (bs0 s.a + maj s.a s.b s.c) % 4294967296
def rnd (s : S8) (k w : Int) : S8 := ⟨(tmp1 s k w + tmp2 s) % 4294967296, s.a, s.b, s.c, (s.d + tmp1 s k w) % 4294967296, s.e, s.f, s.g⟩
def rds (k w : Nat → Int) (s : S8) : Nat → S8
  | 0 => s
  | n + 1 => rnd (rds k w s n) (k n) (w n)
def S8.at (s : S8) : Nat → Int
  | 0 => s.a
  | 1 => s.b
  | 2 => s.c
  | 3 => s.d
  | 4 => s.e
  | 5 => s.f
  | 6 => s.g
  | _ => s.h
def s8 (f : Nat → Int) : S8 := ⟨f 0, f 1, f 2, f 3, f 4, f 5, f 6, f 7⟩
def mixed (k w f : Nat → Int) : Nat → Int := fun i => (f i + (rds k w (s8 f) 64).at i) % 4294967296
theorem run_index_us (ty n : Nat) (hu : Try.prog.underlying ty = some (.array n 78)) (f : Nat → Int) (k : Nat) (hk : k < n) (w : World) : (Instr.index ty (uv f n) (.int .i64 (k : Int))).run Try.prog w = .ok (.int .u32 (f k)) w := by
  have hk' : (0 ≤ (k : Int) ∧ (k : Int) < (n : Int)) := by omega
  have hg : (us f n)[k]? = some (.int .u32 (f k)) := us_at f hk
  simp [Instr.index, run_underlying hu, asIntOf, hg, go_sem, hk]
end Go.Proofs.Ythbpidekfocioaa
namespace Go.Proofs.Ythbpidekfocioaa
open Go.RowKit
def sg0 (x : Int) : Int := bits .xor .u32 (bits .xor .u32 (rot x 7) (rot x 18)) (x / 8)
def sg1 (x : Int) : Int := bits .xor .u32 (bits .xor .u32 (rot x 17) (rot x 19)) (x / 1024)
def nwS (f : Nat → Int) (t : Nat) : Int := (sg1 (f (t - 2)) + f (t - 7) + sg0 (f (t - 15)) + f (t - 16)) % 4294967296
def sch (f : Nat → Int) : Nat → Nat → Int
  | 0 => fun t => if t < 16 then f t else 0
  | k + 1 => updI (sch f k) (k + 16) (nwS (sch f k) (k + 16))
set_option maxRecDepth 100000 in
set_option maxHeartbeats 4000000 in
theorem schedule_any (f : Nat → Int) (w : World) : Calls Try.prog 41 #[uv f 16] w fun e W' => e = .returned (uv (sch f 48) 64) ∧ Below w.heap.size w W' := by
  have hmx : Try.prog.follows .mixedOrders = true := by kernel_rfl
  go_enter Try.func41, Try.ntmps41
  go_wp2
  generalize hW0 : World.alloc _ _ = W0
  have kS : Blk W0 w.heap.size 84 (us f 16) := by rw [← hW0]; exact ((Blk.new' rfl).alloc _).alloc _
  have kR : Blk W0 (w.heap.size + 1) 86 (us (fun _ => 0) 64) := by rw [← hW0, us0_64]; exact (Blk.new' (by simp)).alloc _
  have kW : Blk W0 (w.heap.size + 1 + 1) 86 (us (fun _ => 0) 64) := by rw [← hW0, us0_64]; exact Blk.new' (by simp)
  have d0 : Below w.heap.size w W0 := by rw [← hW0]; exact chainA (chainA (chain0 _ _) _) _
  clear hW0
  refine wp_region_any hmx ?_
  change wpAny _ _ _ _ _ _ _ (World.drew _)
  refine wpAny_take (i := 0) (v := ?_) rfl (by kernel_rfl) (by kernel_rfl) (by kernel_rfl) (fun _ _ _ h => h) (Or.inl ⟨rfl, ?_⟩) ?_
  rotate_left
  · intro w'; go_simp; with_reducible rfl
  refine wpAny_take (i := 1) (v := ?_) rfl (by kernel_rfl) (by kernel_rfl) (by kernel_rfl) (fun _ _ _ h => h) (Or.inl ⟨rfl, ?_⟩) ?_
  rotate_left
  · intro w'; go_simp; with_reducible rfl
  refine wpAny_ready (rs := [2]) (by kernel_rfl) (by simp) ?_
  refine AllReady.cons rfl (fun K hK => ?_) AllReady.nil
  refine step_copy_splice rfl (.tmp 8) (.tmp 9) 100 100 rfl 78 (by kernel_rfl) (by kernel_rfl) (some ⟨w.heap.size + 1 + 1, 0, none⟩) (some ⟨w.heap.size, 0, none⟩) 64 64 16 16 rfl rfl (w.heap.size + 1 + 1) 0 (us (fun _ => 0) 64) 86 kW (us f 16) (by rw [us_length]; rfl)
    (fun _ => ⟨rfl, _, rfl, fun j v hj => ?_⟩) (by rw [us_length, us_length]; omega) (us_one _ _) (w.heap.size + 1 + 1) W0 ((Below.refl _ _).drew) (Nat.le_refl _) ?_
  · have h16 : j < 16 := by have := (List.getElem?_eq_some_iff.1 hj).1; rwa [us_length] at this
    have hc : W0.cell? ⟨w.heap.size, 0 + j, none⟩ = some v := by rw [Nat.zero_add]; exact (kS.cell j).trans hj
    cases j <;> exact hc
  intro w4 hg4 hb4
  refine hK _ _ ?_
  clear hK K
  refine wpAny_done (by kernel_rfl) ?_ _
  have hg5 := hg4.out
  rw [us_splice _ _ (by omega)] at hg5
  have k4 : Blk w4 (w.heap.size + 1 + 1) 86 (us (sch f 0) 64) := hg5
  have kR4 := kR.below hb4 (by omega)
  have d4 : Below w.heap.size w w4 := d0.trans (hb4.mono (by omega))
  clear hg4 hg5 hb4 kS kR kW d0
  go_wp2
  go_loopw [11] (fun i wr => ∃ k : Nat, k ≤ 48 ∧ i = .int .i64 k ∧ Blk wr (w.heap.size + 1 + 1) 86 (us (sch f k) 64) ∧ Blk wr (w.heap.size + 1) 86 (us (fun _ => 0) 64) ∧ Below w.heap.size w wr) (fun i _ => 48 - (intOf i).toNat)
  case atStart => exact ⟨0, by omega, rfl, k4, kR4, d4⟩
  case round =>
    obtain ⟨k, hk, rfl, kW, kR, hB⟩ := hrel
    by_cases hlt : k < 48
    · obtain ⟨T, hT⟩ : ∃ T, T = k + 16 := ⟨_, rfl⟩
      have c2 := (kW.cell (T - 2)).trans (us_at _ (by omega))
      have c15 := (kW.cell (T - 15)).trans (us_at _ (by omega))
      have c7 := (kW.cell (T - 7)).trans (us_at _ (by omega))
      have c16 := (kW.cell (T - 16)).trans (us_at _ (by omega))
      have hf := kW.frozen T
      have cT := (kW.cell T).trans (us_at _ (by omega))
      have hk0 : (k : Int) < 48 := by omega
      have hT2 : (T : Int) < 64 := by omega
      have hT3 : 16 ≤ (T : Int) := by omega
      have HT := Lib.hid hT
      clear hT
      go_wp2
      rw [show (k : Int) + 16 = (T : Int) by have := HT.out; omega]
      have l2 : IntKind.i64.wrap ((T : Int) - 2) = (T : Int) - 2 := IntWalk.i64_in _ (by omega)
      have l15 : IntKind.i64.wrap ((T : Int) - 15) = (T : Int) - 15 := IntWalk.i64_in _ (by omega)
      have b2 : 0 ≤ (T : Int) - 2 := by omega
      have b2' : (T : Int) - 2 < 64 := by omega
      have b15 : 0 ≤ (T : Int) - 15 := by omega
      have b15' : (T : Int) - 15 < 64 := by omega
      have n2 : ((T : Int) - 2).toNat = T - 2 := by omega
      have n15 : ((T : Int) - 15).toNat = T - 15 := by omega
      go_quiet (fail)
      clear l2 l15 b2 b2' b15 b15' n2 n15 c2 c15
      replace kW : Blk (wr.drewN nq) (w.heap.size + 1 + 1) 86 (us (sch f k) 64) := kW
      replace kR : Blk (wr.drewN nq) (w.heap.size + 1) 86 (us (fun _ => 0) 64) := kR
      replace hB : Below w.heap.size w (wr.drewN nq) := hB.trans ⟨rfl, rfl, rfl, Nat.le_refl _, fun _ _ => rfl⟩
      replace hf : (wr.drewN nq).frozen? ⟨w.heap.size + 1 + 1, T, none⟩ = false := hf
      replace c7 : (wr.drewN nq).cell? ⟨w.heap.size + 1 + 1, T - 7, none⟩ = some (.int .u32 (sch f k (T - 7))) := c7
      replace c16 : (wr.drewN nq).cell? ⟨w.heap.size + 1 + 1, T - 16, none⟩ = some (.int .u32 (sch f k (T - 16))) := c16
      replace cT : (wr.drewN nq).cell? ⟨w.heap.size + 1 + 1, T, none⟩ = some (.int .u32 (sch f k T)) := cT
      generalize wr.drewN nq = wq at *
      have HN := Lib.hid (show nwS (sch f k) T = (bits .xor .u32 (bits .xor .u32 (rot (sch f k (T - 2)) 17) (rot (sch f k (T - 2)) 19)) (sch f k (T - 2) / 1024) + sch f k (T - 7) + bits .xor .u32 (bits .xor .u32 (rot (sch f k (T - 15)) 7) (rot (sch f k (T - 15)) 18)) (sch f k (T - 15) / 8) + sch f k (T - 16)) % 4294967296 from rfl)
      generalize sch f k T = xT at *
      generalize sch f k (T - 2) = x2 at *
      generalize sch f k (T - 15) = x15 at *
      generalize sch f k (T - 7) = x7 at *
      generalize sch f k (T - 16) = x16 at *
      go_wp2
      have l7 : IntKind.i64.wrap ((T : Int) - 7) = (T : Int) - 7 := IntWalk.i64_in _ (by omega)
      have l16 : IntKind.i64.wrap ((T : Int) - 16) = (T : Int) - 16 := IntWalk.i64_in _ (by omega)
      have b7 : 0 ≤ (T : Int) - 7 := by omega
      have b7' : (T : Int) - 7 < 64 := by omega
      have b16 : 0 ≤ (T : Int) - 16 := by omega
      have b16' : (T : Int) - 16 < 64 := by omega
      have b7n : 7 ≤ (T : Int) := by omega
      have n7 : ((T : Int) - 7).toNat = T - 7 := by omega
      have n16 : ((T : Int) - 16).toNat = T - 16 := by omega
      go_still_tail 29, (by kernel_rfl)
      still_call (rotr_still _ _ 17 t17 rfl _)
      repeat still_step
      still_call (rotr_still _ _ 19 t19 rfl _)
      repeat still_step
      still_call (rotr_still _ _ 7 t7 rfl _)
      repeat still_step
      still_call (rotr_still _ _ 18 t18 rfl _)
      repeat still_step
      refine wpStill_nil ?_
      change wpList _ _ _ _ _ wq.drew
      clear l7 l16
      go_wp2
      rw [← HN.out]
      have hT := HT.out
      subst hT
      have kW' := kW.set (k + 16) (.int .u32 (nwS (sch f k) (k + 16)))
      rw [us_set] at kW'
      exact ⟨⟨k + 1, by omega, by simp, kW', kR.other _ _ (by omega), (hB.setCell (p := ⟨w.heap.size + 1 + 1, _, none⟩) (by simp; omega) _).drew⟩, by simp [intOf]; omega⟩
    · obtain rfl : k = 48 := by omega
      go_wp2_with (first | (with_reducible refine arr_load arr64 rfl (.tmp 3) rfl (w.heap.size + 1 + 1) rfl 86 (sch f 48) kW ?_) | (with_reducible refine arr_store arr64 rfl (.tmp 2) (.tmp 54) rfl (w.heap.size + 1) rfl (sch f 48) rfl 86 (fun _ => 0) kR ?_; intro w5 kR5 hg5))
      exact bodyPost_ret (v := uv (sch f 48) 64) (arr_result arr64 rfl _ _ (w.heap.size + 1) 86 (sch f 48) rfl kR5) rfl ⟨rfl, hB.grown hg5 hB.size (fun k e => by have : w.heap.size + 1 = k := Option.some.inj e; omega)⟩
end Go.Proofs.Ythbpidekfocioaa
namespace Go.Proofs.Ythbpidekfocioaa
open Go.RowKit
def wd (l : List UInt8) (t : Nat) : Int := (be ((l.drop (4 * t)).take 4) : Nat)
theorem sub_octs {W : World} {b off : Nat} {l : List UInt8} (h : Octs W b off l) (i n : Nat) : Octs W b (off + i) ((l.drop i).take n) := fun k x hx => by
  have hk : k < n := by
    have := (List.getElem?_eq_some_iff.1 hx).1
    rw [List.length_take] at this
    omega
  rw [List.getElem?_take_of_lt hk, List.getElem?_drop] at hx
  rw [Nat.add_assoc]
  exact h _ x hx
theorem sub_bsl {W : World} {b off cap hi : Nat} {l : List UInt8} (h : Octs W b off l) (hb : b < hi) (i n : Nat) (hl : i + n ≤ l.length) (hc : n ≤ cap) : BSl 0 hi W (.slice (some ⟨b, off + i, none⟩) n cap) ((l.drop i).take n) :=
  ⟨_, cap, by rw [show ((l.drop i).take n).length = n by simp; omega], by simp; omega, .inr ⟨b, _, rfl, Nat.zero_le _, hb, sub_octs h i n⟩⟩
theorem wd_be {l : List UInt8} (t : Nat) : ((be (((l.drop (4 * t)).take 4).take 7) : Nat) : Int) = wd l t ∧ 0 ≤ wd l t ∧ wd l t ≤ 4294967295 := by
  have hle : ((l.drop (4 * t)).take 4).length ≤ 4 := by simp; omega
  have := be_lt' hle
  rw [List.take_of_length_le (by omega)]
  unfold wd
  omega
end Go.Proofs.Ythbpidekfocioaa
namespace Go.Proofs.Ythbpidekfocioaa
open Go.RowKit Go.Shelf
def NoneW (w : World) (e : Ending) (W' : World) : Prop := ∃ v, e = .returned v ∧ W'.ownsRow w.heap.size 5 1 v 0 [] ∧ Below w.heap.size w W'
set_option maxRecDepth 100000 in
set_option maxHeartbeats 1000000 in
theorem grow_any (n : Nat) (hn : n ≤ 140737488355328) (w : World) : Calls Try.prog 56 #[.slice none 0 0, .int .i64 (n : Int)] w (NoneW w) := by
  obtain ⟨i0, hi, hz0, hz1, hz2⟩ := info_parts Try.infoByte
  have hn' : (n : Int) ≤ 140737488355328 := by omega
  by_cases h0 : n = 0
  · subst h0
    go_enter Try.func56, Try.ntmps56
    go_wp2
    go_ret
    exact ⟨_, rfl, World.ownsRow_nil _ _ _ _, Below.refl _ _⟩
  · have h1 : 0 < n := by omega
    have h2 : 0 < (n : Int) := by omega
    have hr := Lib.run_append_nil_zeros (P := Try.prog) w 54 3 54 5 i0 (.int .u8 0) .i64 .i64 Try.underlying54 Try.underlying3 hi hz0 n h1 (by omega) (by omega) (by rw [hz2]; omega)
    have hg : n ≤ grownCap w n 0 5 ∧ grownCap w n 0 5 ≤ maxLen := ⟨grownCap_ge _ _ _ _, grownCap_le_maxLen _ _ _ _ (by unfold maxLen; omega)⟩
    obtain ⟨hg1, hg2⟩ := hg
    generalize grownCap w n 0 5 = c at *
    go_enter Try.func56, Try.ntmps56
    go_wp2_with (at_builtin; refine Lib.wpList_append_run w rfl _ _ 54 3 rfl _ _ rfl rfl _ _ hr ?_)
    go_ret
    have hz : ∀ n, (Builtin.zeroCells #[Value.int .u8 0] n).size = n := fun n => by simp [Builtin.zeroCells]
    refine ⟨_, rfl, ⟨rfl, .inr ⟨w.heap.size, c, _, rfl, Nat.le_refl _, World.alloc_heap_new _ _, by omega, hg2, by rw [Array.size_append, hz, hz]; omega, by simp⟩⟩, ?_⟩
    exact ((Below.refl _ w).drew).alloc (by simp) _
set_option maxRecDepth 100000 in
set_option maxHeartbeats 4000000 in
theorem concat_any {o : Nat} (sv : Value) (w : World) (zs : List (SX o w.heap.size w)) (hreach : zs.length ≤ 140737488351232) (ho : (flat zs).length ≤ 140737488355328) (hsv : SSl w.heap.size w sv zs) :
    Calls Try.prog 49 #[sv] w (ByO (flat zs) w) := by
  obtain ⟨i0, hi, hz0, hz1, hz2⟩ := info_parts Try.infoByte
  obtain ⟨a, cap, rfl, hcs⟩ := hsv
  have hc : zs = [] ∨ ∃ b off, a = some ⟨b, off, none⟩ ∧ b < w.heap.size ∧ SRow w b off zs := hcs
  clear hcs
  have hfl : ∀ k, (flat (zs.take k)).length ≤ 140737488355328 := fun k => by
    have := flat_prefix zs k
    omega
  have HF := Lib.hid hfl
  clear hfl
  have hrow : ∀ k x, zs[k]? = some x → ∃ b off, a = some ⟨b, off, none⟩ ∧ b < w.heap.size ∧ w.cell? ⟨b, off + k, none⟩ = some x.1.1 := fun k x hx => by
    rcases hc with rfl | ⟨b, off, ha, hb, hr⟩
    · simp at hx
    · exact ⟨b, off, ha, hb, hr k x hx⟩
  have HR := Lib.hid hrow
  clear hrow hc
  go_enter Try.func49, Try.ntmps49
  go_wp2
  go_loop [3, 11] (fun s i => ∃ k : Nat, k ≤ zs.length ∧ i = .int .i64 k ∧ s = .int .i64 ((flat (zs.take k)).length : Nat)) (fun _ i => zs.length - (intOf i).toNat)
  case atStart => exact ⟨0, by omega, rfl, by simp [flat]⟩
  case round =>
    obtain ⟨k, hk, rfl, rfl⟩ := hrel
    by_cases hlt : k < zs.length
    · obtain ⟨x, hx⟩ : ∃ x, zs[k]? = some x := ⟨_, List.getElem?_eq_getElem hlt⟩
      obtain ⟨b, off, rfl, hb, c0⟩ := HR.out k x hx
      obtain ⟨⟨xa, xc, hxe, _⟩, _⟩ := x.2
      rw [hxe] at c0
      have HS := Lib.hid (flat_take zs hx)
      have h1 := HF.out k
      have h2 := HF.out (k + 1)
      rw [HS.out, List.length_append] at h2
      have hk0 : (k : Int) < (zs.length : Int) := by omega
      clear hxe hx
      have HL : Hid ((flat (zs.take (k + 1))).length = (flat (zs.take k)).length + x.1.2.length) := Lib.hid (by rw [HS.out, List.length_append])
      generalize hq : (flat (zs.take k)).length = q at *
      generalize x.1.2.length = xl at *
      generalize hLn : zs.length = len at *
      have HLn := Lib.hid hLn
      have HQ := Lib.hid hq
      clear hLn hq
      have h2' : (q : Int) + (xl : Int) ≤ 140737488355328 := by omega
      go_wp2
      exact ⟨⟨k + 1, by omega, by simp, by rw [HL.out]; simp⟩, by simp [intOf]; omega⟩
    · obtain rfl : k = zs.length := by omega
      have hall : zs.take zs.length = zs := List.take_length
      have hq := HF.out zs.length
      rw [hall] at hq ⊢
      clear hlt hk hall
      go_wp2_with (go_at_call 56; refine (grow_any _ hq _).mono ?_; rintro e w1 ⟨v, rfl, hown, hb1⟩)
      go_loopw [6, 27] (fun v i wr => ∃ k : Nat, k ≤ zs.length ∧ i = .int .i64 k ∧ wr.ownsRow w.heap.size 5 1 v (flat (zs.take k)).length ((flat (zs.take k)).map bv) ∧ Below w.heap.size w wr) (fun _ i _ => zs.length - (intOf i).toNat)
      case atStart => exact ⟨0, by omega, rfl, hown, hb1⟩
      case round =>
        obtain ⟨k, hk, rfl, hown, hB⟩ := hrel
        by_cases hlt : k < zs.length
        · obtain ⟨x, hx⟩ : ∃ x, zs[k]? = some x := ⟨_, List.getElem?_eq_getElem hlt⟩
          obtain ⟨b, off, rfl, hb, c0⟩ := HR.out k x hx
          replace c0 := (hB.cell (p := ⟨b, off + k, none⟩) hb).trans c0
          have hxs := x.2.1.below hB (Nat.le_refl _)
          have hxs' := hxs
          obtain ⟨xa, xc, hxe, _⟩ := hxs
          rw [hxe] at c0 hxs'
          have HS := Lib.hid (flat_take zs hx)
          have h2 := HF.out (k + 1)
          rw [HS.out, List.length_append] at h2
          have hk0 : (k : Int) < (zs.length : Int) := by omega
          have hNW : w.heap.size ≤ wr.heap.size := hB.size
          clear hxe hx hq
          have HL : Hid ((flat (zs.take (k + 1))).length = (flat (zs.take k)).length + x.1.2.length) := Lib.hid (by rw [HS.out, List.length_append])
          go_wp2_with (at_builtin; refine wpList_append_b _ rfl _ _ 54 rfl w.heap.size 5 i0 (.int .u8 0) Try.underlying54 hi hz0 hz1 hz2 rfl _ (flat (zs.take k)).length ((flat (zs.take k)).map bv) rfl hown _ x.1.2 rfl hxs' h2 hNW ?_; intro v' w1 hown' hgrow)
          refine ⟨⟨k + 1, by omega, by simp, ?_, hB.grown hgrow hNW (fun j hj => (World.ownsRow.lt hown j hj).1)⟩, by simp [intOf]; omega⟩
          rw [HS.out, List.map_append, List.length_append]
          exact hown'
        · obtain rfl : k = zs.length := by omega
          rw [List.take_length] at hown
          go_wp2
          go_ret
          exact ⟨_, rfl, hown, hB⟩
end Go.Proofs.Ythbpidekfocioaa
namespace Go.Proofs.Ythbpidekfocioaa
open Go.RowKit Go.Shelf
def padL (l : List UInt8) : List UInt8 := l ++ [128] ++ List.replicate (63 - (l.length + 8) % 64) 0 ++ octs (two (l.length * 8 : Nat)) 8
theorem padL_length (l : List UInt8) : (padL l).length = l.length + 72 - (l.length + 8) % 64 := by
  unfold padL
  simp [octs_length]
  omega
theorem own_base4 {W : World} {base base' : Nat} {e : TypeId} {size k : Nat} {v : Value} {xs : List Value} (h : W.ownsRow base e size v k xs) (hb : base' ≤ base) : W.ownsRow base' e size v k xs := by
  obtain ⟨h1, h2⟩ := h
  refine ⟨h1, ?_⟩
  rcases h2 with h2 | ⟨g, cap, cur, rfl, hg, r⟩
  · exact .inl h2
  · exact .inr ⟨g, cap, cur, rfl, Nat.le_trans hb hg, r⟩
set_option maxRecDepth 100000 in
set_option maxHeartbeats 2000000 in
theorem pad_any (l : List UInt8) (sv : Value) (w : World) (hreach : l.length ≤ 140737488353000) (hsv : BSl 0 w.heap.size w sv l) :
    Calls Try.prog 39 #[sv] w (ByO (padL l) w) := by
  obtain ⟨i0, hi, hz0, hz1, hz2⟩ := info_parts Try.infoByte
  have hsv0 := hsv
  obtain ⟨a, cap, rfl, hcap, hcs⟩ := hsv
  clear hcs
  have hz : (63 : Int) - ((l.length : Int) + 8) % 64 = ((63 - (l.length + 8) % 64 : Nat) : Int) := by omega
  have h8 : (l.length : Int) * 8 = ((l.length * 8 : Nat) : Int) := by omega
  have hP : Hid (padL l = l ++ [128] ++ List.replicate (63 - (l.length + 8) % 64) 0 ++ octs (two (l.length * 8 : Nat)) 8) := Lib.hid rfl
  have hzn : 63 - (l.length + 8) % 64 ≤ 63 := by omega
  generalize hZ : 63 - (l.length + 8) % 64 = z at *
  generalize hE : l.length * 8 = e8 at *
  have he8 : (e8 : Int) ≤ 1125899906824000 := by omega
  have hl' : (l.length : Int) ≤ 140737488353000 := by omega
  clear hZ hE
  go_enter Try.func39, Try.ntmps39
  go_wp2_with fail
  clear hz h8
  refine (num_any e8 8 (by omega) (by omega) _).mono ?_
  rintro e w1 ⟨s4, rfl, hs4, hb1⟩
  rw [show clamp 8 = 8 from rfl] at hs4
  obtain ⟨a4, c4, rfl, hc4, _⟩ := id hs4
  generalize hO : octs (two e8) 8 = o8 at *
  have ho8 : o8.length = 8 := by rw [← hO]; exact octs_length _ _
  clear hO
  rw [ho8] at hs4
  have HO := Lib.hid ho8
  rw [ho8]
  clear ho8
  go_wp2_with (at_make; refine wpList_make_full _ rfl _ _ 54 rfl (w1.heap.size + 1) 5 i0 (.int .u8 0) 1 Try.underlying54 hi hz0 hz1 .i64 .i64 _ _ z rfl rfl rfl rfl (by rw [hz2]; omega) (by unfold maxLen; omega) (by simp) ?_; intro w2 hown hgrow)
  have hz1a : (w1.alloc (.cells #[.int .u8 128] 5)).heap.size = w1.heap.size + 1 := by simp
  have hB1 : Below (w1.heap.size + 1) (w1.alloc (.cells #[.int .u8 128] 5)) w2 := (Below.refl _ _).grown hgrow (by rw [hz1a]; exact Nat.le_refl _) (fun k e => by cases e)
  have hw2 : w1.heap.size + 1 ≤ w2.heap.size := by rw [← hz1a]; exact hB1.size
  have hw1 : w.heap.size ≤ w1.heap.size := hb1.size
  rw [hz1a] at hown
  have hown' : w2.ownsRow (w1.heap.size + 1) 5 1 (.slice (some ⟨w1.heap.size + 1, 0, none⟩) z z) (List.replicate z (0 : UInt8)).length ((List.replicate z (0 : UInt8)).map bv) := by
    have e : (madeCells (Value.int .u8 0).cells (z * 1)).toList = (List.replicate z (0 : UInt8)).map bv := by
      rw [Nat.mul_one]
      refine (toList_madeCells_one (.int .u8 0) z).trans ?_
      simp
    rw [← e, List.length_replicate]; exact hown
  clear hown
  have h8 : BSl 0 w2.heap.size w2 (.slice (some ⟨w1.heap.size, 0, none⟩) 1 1) [128] := ⟨_, 1, rfl, Nat.le_refl _, .inr ⟨_, 0, rfl, Nat.zero_le _, by omega, fun k x hx => by
    have hk : k = 0 := by have := (List.getElem?_eq_some_iff.1 hx).1; simp at this; omega
    subst hk
    have hc := (Blk.new' (t := 5) (vs := [.int .u8 128]) (rfl : w1.heap.size = w1.heap.size)).cell 0
    refine (hB1.cell (p := ⟨w1.heap.size, 0 + 0, none⟩) (by simp)).trans (hc.trans ?_)
    simp at hx
    subst hx
    rfl⟩⟩
  have hbs : Below w1.heap.size w1 w2 := (chain0 w1 (.cells #[.int .u8 128] 5)).trans (hB1.mono (by omega))
  have hbw : Below w.heap.size w w2 := chain hb1 hbs
  have hL0 := (hsv0.below hbw (Nat.le_refl _)).mono (Nat.le_refl _) hbw.size
  have hL4 := (hs4.below hbs (Nat.le_refl _)).mono (Nat.zero_le _) hbs.size
  have hLz := (BSl.of_own hown').mono (Nat.zero_le _) (Nat.le_refl _)
  generalize hW3 : World.alloc _ _ = W3
  have kB : Blk W3 w2.heap.size 54 [.slice a l.length cap, .slice (some ⟨w1.heap.size, 0, none⟩) 1 1, .slice (some ⟨w1.heap.size + 1, 0, none⟩) z z, .slice a4 8 c4] := by rw [← hW3]; exact Blk.new' rfl
  have hb3 : Below w2.heap.size w2 W3 := by rw [← hW3]; exact chain0 _ _
  clear hW3
  have hle3 := hb3.size
  have up : ∀ {sv : Value} {l : List UInt8}, BSl 0 w2.heap.size w2 sv l → BSl 0 W3.heap.size W3 sv l := fun h => (h.below hb3 (Nat.le_refl _)).mono (Nat.le_refl _) hle3
  have hHO := HO.out
  let zs : List (SX (l.length + 72) W3.heap.size W3) := [⟨(_, l), up hL0, by dsimp only; omega⟩, ⟨(_, [128]), up h8, by simp⟩, ⟨(_, List.replicate z 0), up hLz, by simp; omega⟩, ⟨(_, o8), up hL4, by dsimp only; omega⟩]
  have hfl : flat zs = l ++ [128] ++ List.replicate z 0 ++ o8 := by simp [zs, flat]
  refine (concat_any (.slice (some ⟨w2.heap.size, 0, none⟩) 4 4) W3 zs (by simp [zs]) (by rw [hfl]; simp [hHO]; omega) ⟨_, 4, rfl, .inr ⟨_, 0, rfl, kB.lt, fun k x hx => ?_⟩⟩).mono ?_
  · rw [Nat.zero_add, kB.cell k]
    have hk : k < 4 := (List.getElem?_eq_some_iff.1 hx).1
    have : k = 0 ∨ k = 1 ∨ k = 2 ∨ k = 3 := by omega
    rcases this with rfl | rfl | rfl | rfl <;> (cases hx; rfl)
  · rintro e w4 ⟨sv, rfl, hown4, hb4⟩
    rw [hfl, ← hP.out] at hown4
    go_wp2
    go_ret
    exact ⟨sv, rfl, own_base4 hown4 (by omega), (chain hbw hb3).trans (hb4.mono (by omega))⟩
end Go.Proofs.Ythbpidekfocioaa
namespace Go.Proofs.Ythbpidekfocioaa
open Go.RowKit Go.Shelf
theorem own_below4 {W W' : World} {base : Nat} {e : TypeId} {size k : Nat} {v : Value} {xs : List Value} (h : W.ownsRow base e size v k xs) (hb : Below W.heap.size W W') : W'.ownsRow base e size v k xs := by
  obtain ⟨h1, h2⟩ := h
  refine ⟨h1, ?_⟩
  rcases h2 with h2 | ⟨g, cap, cur, rfl, hg, hh, r⟩
  · exact .inl h2
  · exact .inr ⟨g, cap, cur, rfl, hg, (hb.block g (Array.getElem?_eq_some_iff.1 hh).1).trans hh, r⟩
end Go.Proofs.Ythbpidekfocioaa
namespace Go.Proofs.Ythbpidekfocioaa
open Go.RowKit Go.Shelf
def blk (p : List UInt8) (n : Nat) : List UInt8 := (p.drop (64 * n)).take 64
def sts (kk : Nat → Int) (p : List UInt8) (f : Nat → Int) : Nat → Nat → Int
  | 0 => f
  | n + 1 => mixed kk (sch (wd (blk p n)) 48) (sts kk p f n)
def sumTo (st : Nat → Int) : Nat → List UInt8
  | 0 => []
  | k + 1 => sumTo st k ++ octs (two (wrap64 (st k))) 4
theorem sumTo_length (st : Nat → Int) (k : Nat) : (sumTo st k).length = 4 * k := by
  induction k with
  | zero => rfl
  | succ k ih => simp [sumTo, ih, octs_length]; omega
def sumL (kk f : Nat → Int) (l : List UInt8) : List UInt8 := sumTo (sts kk (padL l) f ((padL l).length / 64)) 8
end Go.Proofs.Ythbpidekfocioaa
namespace Go.Proofs.Ythbpidekfocioaa
open Go.RowKit Go.Shelf
attribute [local go_sem] Oper.semAt_some
theorem chunk_all (m : Nat) (hm : 1 ≤ m) (Bs Bn b off cap L s : Nat) (hL : L ≤ 140737488354000) (hcap : L ≤ cap) (hcap' : cap ≤ 9223372036854775807) (hs : 1 ≤ s) (hs' : s ≤ 9223372036854775807)
    (w : World) (k1 : Boxed w Bs 54 (.slice (some ⟨b, off, none⟩) L cap)) (k2 : Boxed w Bn 3 (.int .i64 (s : Nat))) :
    SeqAll Fence.wide m Try.prog 54 #[.pointer (some ⟨Bs, 0, none⟩), .pointer (some ⟨Bn, 0, none⟩)] (cpEnc b off) (fun _ => KeepB2 Bs Bn) (chs L s) w := fun l J W hW _ _ hJ hY h0 => by
  have q1 : Boxed W Bs 54 (.slice (some ⟨b, off, none⟩) L cap) := (hW.block Bs k1.lt).trans k1
  have q2 : Boxed W Bn 3 (.int .i64 (s : Nat)) := (hW.block Bn k2.lt).trans k2
  refine (chunk1_in Fence.wide m trivial rfl hm l Bs Bn b off cap L s hL hcap hcap' hs hs' J (fun _ _ => False) W (fun k X hX => hJ k X X.drew none hX ⟨rfl, rfl, rfl, Nat.le_refl _, fun _ _ _ => rfl⟩ (by simp)) (fun k W1 hj hk => (hY k (chn L s k) W1 (chs_at hk) hj).mono (fun e W' h => .inl h)) q1 q2 h0).mono ?_
  rintro e W' ⟨he, hj | ⟨_, _, h⟩⟩
  · exact ⟨he, by rw [chs_length]; exact hj⟩
  · exact h.elim
def blkWords (p : List UInt8) (N : Nat) : List (Nat → Int) := (List.range N).map fun n => wd (blk p n)
theorem blkWords_at (p : List UInt8) {N k : Nat} (h : k < N) : (blkWords p N)[k]? = some (wd (blk p k)) := by unfold blkWords; rw [List.getElem?_map, List.getElem?_range h]; rfl
set_option maxHeartbeats 1000000 in
theorem blocks_in (F : Fence) (m : Nat) (h5 : F.fn 38) (hro : F.round = none) (a : Option Addr) (len cap : Nat) (w : World) :
    CallsIn F m Try.prog 38 #[.slice a len cap] w fun e w' => e = .returned (.func (.func 46) #[] #[.pointer (some ⟨w.heap.size, 0, none⟩)]) ∧ w' = w.alloc (.cells #[.slice a len cap] 54) := by
  refine callsIn_of_wp Try.func38 rfl h5 ?_ hro
  simp only [Try.ntmps38, List.size_toArray, List.length_cons, List.length_nil, Nat.reduceAdd, Nat.reduceSub, Array.replicate_succ, Array.replicate_zero, List.push_toArray, List.append_toArray, List.nil_append, List.cons_append]
  gi_wp2
  go_ret
  exact ⟨rfl, rfl⟩
theorem us0_16 : us (fun _ => 0) 16 = [.int .u32 0, .int .u32 0, .int .u32 0, .int .u32 0, .int .u32 0, .int .u32 0, .int .u32 0, .int .u32 0, .int .u32 0, .int .u32 0, .int .u32 0, .int .u32 0, .int .u32 0, .int .u32 0, .int .u32 0, .int .u32 0] := rfl
set_option maxRecDepth 100000 in
set_option maxHeartbeats 8000000 in
theorem blocks1_all (m : Nat) (hm : 6 ≤ m) (B Bp pb po cap N : Nat) (p : List UInt8) (hp : p.length = 64 * N) (hN : 1 ≤ N) (hreach : p.length ≤ 140737488354000) (hcap : p.length ≤ cap) (hcap' : cap ≤ 9223372036854775807)
    (w : World) (hB : B < w.heap.size) (hpB : pb ≠ B) (hpb : pb < w.heap.size) (hpo : Octs w pb po p) (k1 : Boxed w Bp 54 (.slice (some ⟨pb, po, none⟩) p.length cap)) :
    SeqAll Fence.wide m Try.prog 46 #[.pointer (some ⟨Bp, 0, none⟩)] (fun f => #[uv f 16]) (AllBut B) (blkWords p N) w := fun l J W hW hl0 hl hJ hY h0 => by
  have kp : Boxed W Bp 54 (.slice (some ⟨pb, po, none⟩) p.length cap) := (hW.block Bp k1.lt).trans k1
  replace hpo := hpo.below hW hpb
  have hWs := hW.size
  have hpc := kp.cell
  have h1 : 1 ≤ m := by omega
  generalize hq : p.length = q at *
  have HQ := Lib.hid hq
  have HP := Lib.hid hp
  clear hq hp
  have hBpl := kp.lt
  refine callsIn_of_wp_marks Try.func46 rfl trivial ?_ rfl
  simp only [Try.ntmps46, List.size_toArray, List.length_cons, List.length_nil, Nat.reduceAdd, Nat.reduceSub, Array.replicate_succ, Array.replicate_zero, List.push_toArray, List.append_toArray, List.nil_append, List.cons_append]
  gi_wp2_with (refine ⟨trivial, ?_⟩; gi_at_call 47; refine (chunk_in Fence.wide (m - 1) trivial rfl _ _ _ _ (by omega) _).mono ?_; rintro e w' ⟨rfl, rfl⟩)
  generalize hW5 : World.alloc _ _ = W5
  have kY : Boxed W5 W.heap.size 95 (.func (.yield l) #[] #[]) := by rw [← hW5]; exact ((Boxed.new _ _ _).alloc _).alloc _
  have c1 : Boxed W5 (W.heap.size + 1) 54 (.slice (some ⟨pb, po, none⟩) q cap) := by rw [← hW5]; exact (Blk.new' (vs := [_]) (by simp)).alloc _
  have c2 : Boxed W5 (W.heap.size + 1 + 1) 3 (.int .i64 ((64 : Nat) : Int)) := by rw [← hW5]; exact Blk.new' (vs := [.int .i64 64]) (by simp)
  have hB5 : Below W.heap.size W W5 := by rw [← hW5]; exact chainA (chainA (chain0 _ _) _) _
  have hz5 : W5.heap.size = W.heap.size + 3 := by rw [← hW5]; simp
  clear hW5
  have hpbW : pb < W.heap.size := Nat.lt_of_lt_of_le hpb hWs
  have hq64 : chc q 64 = N := by unfold chc; have := HP.out; omega
  obtain ⟨cur, ct, cfr, hcells⟩ : ∃ cur ct cfr, W.heap[pb]? = some (.cells cur ct cfr) := by
    obtain ⟨x, hx⟩ : ∃ x, p[0]? = some x := ⟨_, List.getElem?_eq_getElem (by have := HQ.out; have := HP.out; omega)⟩
    have hc := hpo 0 x hx
    simp only [World.cell?] at hc
    cases hh : W.heap[pb]? with
    | none => rw [hh] at hc; simp at hc
    | some o =>
      rw [hh] at hc
      cases o <;> first | exact ⟨_, _, _, rfl⟩ | (simp at hc)
  refine wpIn_rangeFunc_allA (ys := chs q 64) rfl h1 (gf := 54) (lb := #[.pointer (some ⟨W.heap.size + 1, 0, none⟩), .pointer (some ⟨W.heap.size + 1 + 1, 0, none⟩)]) rfl trivial (enters_of Try.func54 (by kernel_rfl) rfl)
    (chunk_all (m - 1) (by omega) (W.heap.size + 1) (W.heap.size + 1 + 1) pb po cap q 64 (by omega) hcap hcap' (by omega) (by omega) W5 c1 c2) KeepB2.t (fun X o o' h2 h3 h4 => ⟨World.putObj_heap_other (by omega), World.putObj_heap_other (by omega)⟩) (fun X => ⟨rfl, rfl⟩) (Below.refl _ _) (fun _ => rfl)
    (fun k X => (J k X ∧ KeepB pb W X) ∧ (Boxed X W.heap.size 95 (.func (.yield l) #[] #[]) ∧ Boxed X (W.heap.size + 1) 54 (.slice (some ⟨pb, po, none⟩) q cap) ∧ Boxed X (W.heap.size + 1 + 1) 3 (.int .i64 ((64 : Nat) : Int))) ∧ W5.heap.size ≤ X.heap.size)
    (fun k X Y row ⟨⟨hj, hk⟩, ⟨hy, hc1, hc2⟩, hsz⟩ hg hr => ⟨⟨hJ k X Y row hj hg (fun r e => ⟨by have := (hr r e).1; omega, (hr r e).2⟩), (hg.block pb (by omega) (fun e => by have := (hr _ e.symm).1; omega)).trans hk⟩, ⟨boxed_own _ _ (fun _ : Unit => _) () X Y row hy hg (fun r e => (hr r e).2), boxed_own _ _ (fun _ : Unit => _) () X Y row hc1 hg (fun r e => (hr r e).2), boxed_own _ _ (fun _ : Unit => _) () X Y row hc2 hg (fun r e => (hr r e).2)⟩, Nat.le_trans hsz hg.size⟩)
    ⟨⟨hJ 0 W W5 none h0 (grown_of_below hB5) (by simp), hB5.block pb hpbW⟩, ⟨kY, c1, c2⟩, Nat.le_refl _⟩ ?_ ?_ ?_ ?_
  rotate_left
  · intro l' x X K hK
    gi_wp2
    exact hK
  · rintro l' k x X hx ⟨⟨hj, hkp⟩, ⟨hy, hc1, hc2⟩, hsz⟩
    have hk : k < N := by have := (List.getElem?_eq_some_iff.1 hx).1; rw [chs_length, hq64] at this; exact this
    rw [chs_at (by rw [hq64]; exact hk)] at hx
    obtain rfl := (Option.some.inj hx).symm
    have hlp : 64 * k + 64 ≤ p.length := by rw [HQ.out, HP.out]; omega
    have hchn : chn q 64 k = ⟨(64 * k, 64), by rw [← HQ.out]; exact hlp⟩ := by
      rw [chn_of (by rw [HP.out]; omega)]
      apply Subtype.ext
      show (k * 64, min 64 (q - k * 64)) = _
      rw [Nat.mul_comm k 64, Nat.min_eq_left (by rw [HP.out]; omega)]
    rw [hchn]
    have hoX : Octs X pb (po + 64 * k) (blk p k) := sub_octs (fun j z hz => (World.cell?_of_block (a := ⟨pb, _, none⟩) hkp).trans (hpo j z hz)) (64 * k) 64
    have hlb : (blk p k).length = 64 := by unfold blk; simp; omega
    have hpX : pb < X.heap.size := by omega
    clear hchn
    gi_wp2_with fail
    gi_loopw [9] (fun i wr => ∃ t : Nat, t ≤ 16 ∧ i = .int .i64 t ∧ Blk wr X.heap.size 84 (us (fun j => if j < t then wd (blk p k) j else 0) 16) ∧ Below X.heap.size X wr) (fun i _ => 16 - (intOf i).toNat)
    case atStart => exact ⟨0, by omega, rfl, by rw [us_congr (g := fun _ => 0) (fun t _ => if_neg (by omega)), us0_16]; exact Blk.new' rfl, chain0 _ _⟩
    case round =>
      obtain ⟨t, ht, rfl, kA, hbel⟩ := hrel
      by_cases hlt : t < 16
      · have cA := (kA.cell t).trans (us_at _ hlt)
        have fA := kA.frozen t
        have i1 : (t : Int) < 16 := by omega
        have i2 : (0 : Int) ≤ (t : Int) * 4 := by omega
        have i3 : (t : Int) * 4 ≤ 64 := by omega
        have i4 : ¬ 64 = t * 4 := by omega
        have n1 : ((t : Int) * 4).toNat = t * 4 := by omega
        gi_wp2_with fail
        rw [Nat.mul_comm t 4]
        have hpw : pb < wr.heap.size := Nat.lt_of_lt_of_le hpX hbel.size
        have hbsl := sub_bsl (hoX.below hbel hpX) hpw (4 * t) 4 (by rw [hlb]; omega) (show 4 ≤ 64 - 4 * t by omega)
        refine ⟨trivial, fun h => (by cases h), ?_⟩
        refine (CallsIn.inRound l' (callsIn_wide.2 (blobInt_any (((blk p k).drop (4 * t)).take 4) _ wr (by simp; omega) hbsl))).mono ?_
        rintro e w2 ⟨rfl, hb2⟩
        obtain ⟨hw, hw0, hw1⟩ := wd_be (l := blk p k) t
        rw [hw]
        have kA2 := kA.below hb2 kA.lt
        have hX2 : Below X.heap.size X w2 := chain hbel hb2
        have cA2 := (kA2.cell t).trans (us_at _ hlt)
        have fA2 := kA2.frozen t
        have HU : Hid (us (updI (fun j => if j < t then wd (blk p k) j else 0) t (wd (blk p k) t)) 16 = us (fun j => if j < t + 1 then wd (blk p k) j else 0) 16) := Lib.hid (us_congr fun j _ => by
          unfold updI
          by_cases e1 : j = t
          · subst e1; rw [if_pos rfl, if_pos (by omega)]
          · rw [if_neg e1]
            show (if j < t then wd (blk p k) j else 0) = _
            by_cases e2 : j < t
            · rw [if_pos e2, if_pos (by omega)]
            · rw [if_neg e2, if_neg (by omega)])
        clear hw cA fA i2 i3 i4 n1
        generalize hx : wd (blk p k) t = x at *
        gi_wp2_with fail
        have kA' := kA2.set t (.int .u32 x)
        rw [us_set, HU.out] at kA'
        go_roundw
        case rel => exact ⟨t + 1, by omega, by simp, kA', hX2.setCell (p := ⟨X.heap.size, _, none⟩) (by simp) _⟩
        case measure => simp [intOf]; omega
      · obtain rfl : t = 16 := by omega
        rw [us_congr (g := wd (blk p k)) (fun j hj => if_pos hj)] at kA
        obtain ⟨fn, tmps, assign, body, hyr, hR⟩ := hY k (wd (blk p k)) wr (blkWords_at p hk) (hJ k X wr none hj (grown_of_below hbel) (by simp))
        have hyc : wr.cell? ⟨W.heap.size, 0, none⟩ = some (.func (.yield l) #[] #[]) := (hbel.cell (p := ⟨W.heap.size, 0, none⟩) hy.lt).trans hy.cell
        gi_wp2_with (with_reducible refine arrIn_load arr16 rfl (.tmp 4) rfl X.heap.size rfl 84 (wd (blk p k)) kA ?_)
        refine ⟨fun h => (by cases h), ?_⟩
        refine (roundIn_any hR).mono ?_
        rintro e W3 ⟨rfl, hJ3, hk3⟩
        clear hyr
        gi_wp2_with fail
        have hXW : AllBut B l X W3 := (AllBut.of_below hbel).t hk3
        have ly := hy.lt
        have l1 := hc1.lt
        have l2 := hc2.lt
        refine ⟨⟨hXW.1, fun j o hBj hj ho => (hXW.2 j (Array.getElem?_eq_some_iff.1 hj).1 (by omega) (by omega)).trans hj⟩, ⟨hXW.2 _ l1 (by omega) (by omega), hXW.2 _ l2 (by omega) (by omega)⟩, ⟨hJ3, (hXW.2 pb hpX hpB (by omega)).trans hkp⟩, ⟨(hXW.2 _ ly (by omega) (by omega)).trans hy, (hXW.2 _ l1 (by omega) (by omega)).trans hc1, (hXW.2 _ l2 (by omega) (by omega)).trans hc2⟩, Nat.le_trans hsz hXW.1⟩
  · rintro D X hD ⟨⟨hj, _⟩, _, _⟩ hK
    rw [chs_length, hq64] at hj
    gi_wp2_with fail
    refine ⟨by simp, .inl ⟨_, _, rfl, run_takeDeferred hK, ?_⟩⟩
    refine ⟨_, results_none rfl _ _ _, ⟨_, rfl⟩, ?_⟩
    rw [show (blkWords p N).length = N by simp [blkWords]]
    exact hJ.putObj _ hj (by omega) hK rfl
end Go.Proofs.Ythbpidekfocioaa
namespace Go.Proofs.Ythbpidekfocioaa
open Go.RowKit
set_option maxRecDepth 100000 in
set_option maxHeartbeats 8000000 in
theorem mix_any (f m : Nat → Int) (w : World) : Calls Try.prog 40 #[uv f 8, uv m 64] w fun e W' => e = .returned (uv (mixed cb m f) 8) ∧ Below w.heap.size w W' := by
  go_enter Try.func40, Try.ntmps40
  go_wp2
  generalize hW0 : World.alloc _ _ = W0
  have kS : Blk W0 w.heap.size 79 (us f 8) := by rw [← hW0]; exact ((Blk.new' rfl).alloc _).alloc _
  have kM : Blk W0 (w.heap.size + 1) 86 (us m 64) := by rw [← hW0]; exact (Blk.new' (by simp)).alloc _
  have kR : Blk W0 (w.heap.size + 1 + 1) 79 (us (fun _ => 0) 8) := by rw [← hW0, us0_8]; exact Blk.new' (by simp)
  have d0 : Below w.heap.size w W0 := by rw [← hW0]; exact chainA (chainA (chain0 _ _) _) _
  clear hW0
  have q0 := (kS.cell 0).trans (us_at _ (by omega))
  have q1 := (kS.cell 1).trans (us_at _ (by omega))
  have q2 := (kS.cell 2).trans (us_at _ (by omega))
  have q3 := (kS.cell 3).trans (us_at _ (by omega))
  have q4 := (kS.cell 4).trans (us_at _ (by omega))
  have q5 := (kS.cell 5).trans (us_at _ (by omega))
  have q6 := (kS.cell 6).trans (us_at _ (by omega))
  have q7 := (kS.cell 7).trans (us_at _ (by omega))
  go_quiet (fail)
  go_wp2
  go_quiet (fail)
  go_wp2_with (go_at_call 50; refine (cubeRoots_any _).mono ?_; rintro e w1 ⟨rfl, hb1⟩)
  replace hb1 : Below W0.heap.size W0 w1 := (below_drewN W0 _).trans hb1
  have d1 : Below w.heap.size w w1 := chain d0 hb1
  have kS1 : Blk w1 w.heap.size 79 (us f 8) := Blk.below (n := W0.heap.size) kS hb1 kS.lt
  have kM1 : Blk w1 (w.heap.size + 1) 86 (us m 64) := Blk.below (n := W0.heap.size) kM hb1 kM.lt
  have kR1 : Blk w1 (w.heap.size + 1 + 1) 79 (us (fun _ => 0) 8) := Blk.below (n := W0.heap.size) kR hb1 kR.lt
  clear kS kM kR q0 q1 q2 q3 q4 q5 q6 q7 hb1 d0
  go_loopw [5, 6, 7, 8, 9, 10, 11, 12, 36] (fun a b c d e f' g h i wr => ∃ (k : Nat) (s : S8), k ≤ 64 ∧ Hid (s = rds cb m (s8 f) k) ∧ i = .int .i64 k ∧ a = .int .u32 s.a ∧ b = .int .u32 s.b ∧ c = .int .u32 s.c ∧ d = .int .u32 s.d ∧ e = .int .u32 s.e ∧ f' = .int .u32 s.f ∧ g = .int .u32 s.g ∧ h = .int .u32 s.h ∧
    Blk wr w.heap.size 79 (us f 8) ∧ Blk wr (w.heap.size + 1) 86 (us m 64) ∧ Blk wr (w.heap.size + 1 + 1) 79 (us (fun _ => 0) 8) ∧ Below w.heap.size w wr) (fun _ _ _ _ _ _ _ _ i _ => 64 - (intOf i).toNat)
  case atStart => exact ⟨0, s8 f, by omega, Lib.hid rfl, rfl, rfl, rfl, rfl, rfl, rfl, rfl, rfl, rfl, kS1, kM1, kR1, d1⟩
  clear kS1 kM1 kR1 d1
  case round =>
    obtain ⟨k, ⟨a, b, c, d, e, f', g, h⟩, hk, HS, rfl, rfl, rfl, rfl, rfl, rfl, rfl, rfl, rfl, kS, kM, kR, hB⟩ := hrel
    dsimp only
    by_cases hlt : k < 64
    · have hix := run_index_us 86 64 und64 cb k hlt
      have cM := (kM.cell k).trans (us_at _ hlt)
      have hk0 : (k : Int) < 64 := by omega
      go_wp2_with fail
      have L3 : (0 : Int) ≤ (k : Int) := by omega
      have hsg : (if IntKind.u32.signed = true then (-1 : Int) else IntKind.u32.max) = 4294967295 := by decide
      refine wp_region_still_lit (by kernel_rfl) (by kernel_rfl) ?_
      repeat still_step
      still_call (rotr_still _ _ 6 t6 rfl _)
      repeat still_step
      still_call (rotr_still _ _ 11 t11 rfl _)
      repeat still_step
      still_call (rotr_still _ _ 25 t25 rfl _)
      repeat still_step
      refine wpStill_nil ?_
      generalize hx1 : IntKind.u32.wrap (IntKind.u32.wrap (IntKind.u32.wrap (IntKind.u32.wrap (h + _) + _) + cb k) + m k) = x1
      have HX1 : Hid (tmp1 ⟨a, b, c, d, e, f', g, h⟩ (cb k) (m k) = x1) := Lib.hid (by
        rw [← hx1]; simp only [tmp1, bs1, chs3, IntKind.wrap_u32, Int.emod_add_emod])
      clear hx1
      replace kS : Blk wr.drew w.heap.size 79 (us f 8) := kS
      replace kM : Blk wr.drew (w.heap.size + 1) 86 (us m 64) := kM
      replace kR : Blk wr.drew (w.heap.size + 1 + 1) 79 (us (fun _ => 0) 8) := kR
      replace hB : Below w.heap.size w wr.drew := hB.drew
      change Exit.then _ _ _ _ wr.drew
      generalize wr.drew = wq at *
      clear cM hix hsg
      go_wp2_with fail
      refine (rotr_still _ _ 2 t2 rfl _).mono ?_
      rintro e' w' ⟨rfl, rfl⟩
      go_wp2_with fail
      refine (rotr_still _ _ 13 t13 rfl _).mono ?_
      rintro e' w' ⟨rfl, rfl⟩
      go_wp2_with fail
      refine (rotr_still _ _ 22 t22 rfl _).mono ?_
      rintro e' w' ⟨rfl, rfl⟩
      go_wp2_with fail
      exact ⟨⟨k + 1, rnd ⟨a, b, c, d, e, f', g, h⟩ (cb k) (m k), by omega, Lib.hid (by rw [HS.out]; rfl), by simp, by rw [← HX1.out]; rfl, rfl, rfl, rfl, by rw [← HX1.out]; rfl, rfl, rfl, rfl, kS, kM, kR, hB⟩, by simp [intOf]; omega⟩
    · obtain rfl : k = 64 := by omega
      clear hk hlt
      go_wp2
      go_loopw [107] (fun i wr => ∃ k : Nat, k ≤ 8 ∧ i = .int .i64 k ∧ Blk wr w.heap.size 79 (us (fun t => if t < k then mixed cb m f t else f t) 8) ∧ Blk wr (w.heap.size + 1 + 1) 79 (us (fun _ => 0) 8) ∧ Below w.heap.size w wr) (fun i _ => 8 - (intOf i).toNat)
      case atStart => exact ⟨0, by omega, rfl, kS, kR, hB⟩
      case round =>
        obtain ⟨k, hk, rfl, kS, kR, hB⟩ := hrel
        by_cases hlt : k < 8
        · have hix : ∀ w, (Instr.index 79 (.agg #[.int .u32 a, .int .u32 b, .int .u32 c, .int .u32 d, .int .u32 e, .int .u32 f', .int .u32 g, .int .u32 h]) (.int .i64 (k : Int))).run Try.prog w = .ok (.int .u32 (S8.at ⟨a, b, c, d, e, f', g, h⟩ k)) w := run_index_us 79 8 und8 (S8.at ⟨a, b, c, d, e, f', g, h⟩) k hlt
          have cS := (kS.cell k).trans (us_at _ hlt)
          rw [if_neg (by omega)] at cS
          have hf := kS.frozen k
          have hk0 : (k : Int) < 8 := by omega
          have HM : Hid (mixed cb m f k = (f k + S8.at ⟨a, b, c, d, e, f', g, h⟩ k) % 4294967296) := Lib.hid (by unfold mixed; rw [← HS.out])
          generalize S8.at ⟨a, b, c, d, e, f', g, h⟩ k = z at *
          go_wp2_with fail
          rw [← HM.out]
          have kS' := kS.set k (.int .u32 (mixed cb m f k))
          rw [us_set, us_congr (g := fun t => if t < k + 1 then mixed cb m f t else f t) (fun t ht => by
            unfold updI
            by_cases e1 : t = k
            · subst e1; rw [if_pos rfl, if_pos (by omega)]
            · rw [if_neg e1]
              show (if t < k then mixed cb m f t else f t) = _
              by_cases e2 : t < k
              · rw [if_pos e2, if_pos (by omega)]
              · rw [if_neg e2, if_neg (by omega)])] at kS'
          exact ⟨⟨k + 1, by omega, by simp, kS', kR.other _ _ (by omega), hB.setCell (p := ⟨w.heap.size, _, none⟩) (by simp) _⟩, by simp [intOf]; omega⟩
        · obtain rfl : k = 8 := by omega
          rw [us_congr (g := mixed cb m f) (fun t ht => if_pos ht)] at kS
          go_wp2_with (first | (with_reducible refine arr_load arr8 rfl (.tmp 2) rfl w.heap.size rfl 79 (mixed cb m f) kS ?_) | (with_reducible refine arr_store arr8 rfl (.tmp 4) (.tmp 118) rfl (w.heap.size + 1 + 1) rfl (mixed cb m f) rfl 79 (fun _ => 0) kR ?_; intro w5 kR5 hg5))
          exact bodyPost_ret (v := uv (mixed cb m f) 8) (arr_result arr8 rfl _ _ (w.heap.size + 1 + 1) 79 (mixed cb m f) rfl kR5) rfl ⟨rfl, hB.grown hg5 hB.size (fun k e => by have : w.heap.size + 1 + 1 = k := Option.some.inj e; omega)⟩
end Go.Proofs.Ythbpidekfocioaa
namespace Go.Proofs.Ythbpidekfocioaa
open Go.RowKit Go.Shelf
attribute [local go_sem] Oper.semAt_some
theorem blk_zero8 (w : World) (t : TypeId) : Blk (w.alloc (.cells #[.int .u32 0, .int .u32 0, .int .u32 0, .int .u32 0, .int .u32 0, .int .u32 0, .int .u32 0, .int .u32 0] t)) w.heap.size t (us (fun _ => 0) 8) := by rw [us0_8]; exact Blk.new' rfl
theorem blk_zero16 (w : World) (t : TypeId) : Blk (w.alloc (.cells #[.int .u32 0, .int .u32 0, .int .u32 0, .int .u32 0, .int .u32 0, .int .u32 0, .int .u32 0, .int .u32 0, .int .u32 0, .int .u32 0, .int .u32 0, .int .u32 0, .int .u32 0, .int .u32 0, .int .u32 0, .int .u32 0] t)) w.heap.size t (us (fun _ => 0) 16) := by rw [us0_16]; exact Blk.new' rfl
theorem sts_succ (kk : Nat → Int) (p : List UInt8) (f : Nat → Int) (n : Nat) : sts kk p f (n + 1) = mixed kk (sch (wd (blk p n)) 48) (sts kk p f n) := rfl
theorem bsl_slice {lo hi : Nat} {W : World} {sv : Value} {l : List UInt8} (h : BSl lo hi W sv l) : ∃ a c, sv = .slice a l.length c := by
  obtain ⟨a, c, e, _⟩ := h
  exact ⟨a, c, e⟩
set_option maxRecDepth 100000 in
set_option maxHeartbeats 8000000 in
theorem sum_in (m : Nat) (hm : 10 ≤ m) (l : List UInt8) (sv : Value) (w : World) (hreach : l.length ≤ 140737488353000) (hsv : BSl 0 w.heap.size w sv l) :
    CallsIn Fence.wide m Try.prog 28 #[sv] w (ByO (sumL cb sq l) w) := by
  have h1 : 1 ≤ m := by omega
  have hmx : Try.prog.follows .mixedOrders = true := by kernel_rfl
  obtain ⟨i0, hi, hz0, hz1, hz2⟩ := info_parts Try.infoByte
  have hsv0 := hsv
  obtain ⟨a, cap, rfl, hcap, hcs⟩ := hsv
  clear hcs
  refine callsIn_of_wp_marks Try.func28 rfl trivial ?_ rfl
  simp only [Try.ntmps28, List.size_toArray, List.length_cons, List.length_nil, Nat.reduceAdd, Nat.reduceSub, Array.replicate_succ, Array.replicate_zero, List.push_toArray, List.append_toArray, List.nil_append, List.cons_append]
  gi_wp2_with (first
    | (refine ⟨trivial, ?_⟩; gi_at_call 37; refine (callsIn_wide.2 (squareRoots_any _)).mono ?_; rintro e w1 ⟨rfl, hb1⟩)
    | (with_reducible refine arrIn_store arr8 rfl (.tmp 3) (.tmp 8) rfl w1.heap.size rfl sq rfl 79 (fun _ => 0) (blk_zero8 w1 _) ?_; intro w2 kS hg2)
    | (refine ⟨trivial, ?_⟩; gi_at_call 39; (have hb2 : Below w.heap.size w w2 := (chainA hb1 (.cells #[.int .u32 0, .int .u32 0, .int .u32 0, .int .u32 0, .int .u32 0, .int .u32 0, .int .u32 0, .int .u32 0] 79)).grown hg2 (by simp; have := hb1.size; omega) (fun k e => by have : w1.heap.size = k := Option.some.inj e; have := hb1.size; omega)); refine (callsIn_wide.2 (pad_any l _ _ (by omega) ((hsv0.below hb2 (Nat.le_refl _)).mono (Nat.le_refl _) hb2.size))).mono ?_; rintro e w3 ⟨pv, rfl, hown, hb3⟩; obtain ⟨pa, pc, rfl⟩ := ownsRow_slice hown)
    | (refine ⟨trivial, ?_⟩; gi_at_call 38; refine (blocks_in Fence.wide (m - 1) trivial rfl _ _ _ _).mono ?_; rintro e w' ⟨rfl, rfl⟩))
  have hb23 : Below w.heap.size w w3 := chain hb2 hb3
  have hw1 : w.heap.size ≤ w1.heap.size := hb1.size
  have hw2 : w1.heap.size < w2.heap.size := kS.lt
  have hpb := BSl.of_own hown
  have hpl := padL_length l
  have HS : Hid (sumL cb sq l = sumTo (sts cb (padL l) sq ((padL l).length / 64)) 8) := Lib.hid rfl
  generalize hp : padL l = p at *
  clear hp
  obtain ⟨pa', pc', hpe, hpc, hp0⟩ := hpb
  cases hpe
  have hnz : p ≠ [] := fun e => by rw [e] at hpl; simp at hpl; omega
  obtain ⟨pb, po, rfl, hpl0, hpb, hpo⟩ := hp0.resolve_left hnz
  have hcm : pc ≤ maxLen := by
    rcases hown.2 with ⟨e, _⟩ | ⟨g, c, cur, e, _, _, _, hcm, _⟩
    · cases e
    · cases e; exact hcm
  unfold maxLen at hcm
  have hl64 : p.length = 64 * (p.length / 64) := by omega
  have hN1 : 1 ≤ p.length / 64 := by omega
  have hreach' : p.length ≤ 140737488354000 := by omega
  generalize hN : p.length / 64 = N at *
  clear hpl hN hnz hp0
  have kS3 := kS.below hb3 kS.lt
  generalize hW4 : World.alloc _ _ = w4
  have kp : Boxed w4 w3.heap.size 54 (.slice (some ⟨pb, po, none⟩) p.length pc) := by rw [← hW4]; exact Boxed.new _ _ _
  have kS4 : Blk w4 w1.heap.size 79 (us sq 8) := by rw [← hW4]; exact kS3.alloc _
  have hb34 : Below w3.heap.size w3 w4 := by rw [← hW4]; exact chain0 _ _
  have hpo4 := hpo.below hb34 hpb
  have hb4 : Below w.heap.size w w4 := chain hb23 hb34
  have hw4 : w4.heap.size = w3.heap.size + 1 := by rw [← hW4]; simp
  have hw3 := hb3.size
  clear hW4
  generalize hq : p.length = q at *
  have HQ := Lib.hid hq
  have HL64 := Lib.hid hl64
  clear hl64
  have hseq := blocks1_all (m - 1) (by omega) w1.heap.size w3.heap.size pb po pc N p (by rw [HQ.out]; exact HL64.out) hN1 (by rw [HQ.out]; exact hreach') (by rw [HQ.out]; exact hpc) (by omega) w4 (by omega) (by omega) (by omega) hpo4 (by rw [HQ.out]; exact kp)
  clear hq
  refine wpIn_rangeFunc_all (ys := blkWords p N) rfl h1 (gf := 46) (lb := #[.pointer (some ⟨w3.heap.size, 0, none⟩)]) rfl trivial (enters_of Try.func46 (by kernel_rfl) rfl)
    hseq AllBut.t (fun X o o' _ _ _ => AllBut.b _ _ X o') (Below.refl _ _) (fun _ => rfl)
    (fun k X => (Blk X w1.heap.size 79 (us (sts cb p sq k) 8) ∧ w4.heap.size ≤ X.heap.size) ∧ Below w.heap.size w X)
    (OwnFrom.and (fun k X Y row hs hg hr => ⟨blk_own w1.heap.size 79 (fun _ : Unit => _) () X Y row hs.1 hg (fun r e => (hr r e).2), Nat.le_trans hs.2 hg.size⟩) (ownFrom_below (Nat.le_refl _) (by omega)))
    ⟨⟨kS4, Nat.le_refl _⟩, hb4⟩
    (fun x a' X => ∃ Bx, w4.heap.size ≤ Bx ∧ Blk X Bx 84 (us x 16) ∧ a' = { tmps := #[.slice a l.length cap, undef, .slice none 0 0, .pointer (some ⟨w1.heap.size, 0, none⟩), .pointer (some ⟨Bx, 0, none⟩), undef, undef, undef, uv sq 8, .slice a l.length cap, .slice (some ⟨pb, po, none⟩) q pc, .func (.func 46) #[] #[.pointer (some ⟨w3.heap.size, 0, none⟩)], uv x 16, undef, undef, undef, undef, undef, undef, undef, undef, undef, undef, undef, undef, undef, undef, undef], defers := [] })
    (fun x a' s X Y row ⟨Bx, h1, h2, h3⟩ hg hr => ⟨Bx, h1, blk_own Bx 84 (fun _ : Unit => _) () X Y row h2 hg (fun r e => (hr r e).2), h3⟩) ?_ ?_ ?_
  · rintro l' k x X K ⟨⟨hS, hsz⟩, hB⟩ hK
    gi_wp2_with (with_reducible refine arrIn_store arr16 rfl (.tmp 4) (.tmp 12) rfl X.heap.size rfl x rfl 84 (fun _ => 0) (blk_zero16 X _) ?_; intro X2 kX hgX)
    have hX2 : Below X.heap.size X X2 := (chain0 X _).grown hgX (by simp) (fun k e => by have : X.heap.size = k := Option.some.inj e; omega)
    exact hK _ _ ⟨hX2.size, fun j o _ hj _ => (hX2.block j (Array.getElem?_eq_some_iff.1 hj).1).trans hj⟩ (AllBut.of_below hX2) ⟨⟨hS.below hX2 hS.lt, Nat.le_trans hsz hX2.size⟩, hB.trans (hX2.mono hB.size)⟩ ⟨X.heap.size, hsz, kX, rfl⟩
  · rintro l' k x a' X hx ⟨⟨hS, hsz⟩, hB⟩ ⟨Bx, hBx, kX, rfl⟩
    have hk : k < N := by have := (List.getElem?_eq_some_iff.1 hx).1; simpa [blkWords] using this
    rw [blkWords_at p hk] at hx
    obtain rfl := Option.some.inj hx
    have hne : w1.heap.size ≠ Bx := by omega
    clear hx
    have hst := Lib.hid (sts_succ cb p sq k)
    generalize sts cb p sq k = st at *
    generalize wd (blk p k) = x at *
    gi_wp2_with fail
    refine wpIn_round_any hmx (by kernel_rfl) ?_
    change wpAny _ _ _ _ _ _ _ X.drew
    replace hS : Blk X.drew w1.heap.size 79 (us st 8) := hS
    replace kX : Blk X.drew Bx 84 (us x 16) := kX
    have hXd : Below X.heap.size X X.drew := (Below.refl _ X).drew
    generalize X.drew = Y at *
    have hFin : ∀ (Y2 Y3 Y4 : World) (a' : Act), Below Y.heap.size Y Y2 → Below Y2.heap.size Y2 Y3 → Blk Y4 w1.heap.size 79 (us (mixed cb (sch x 48) st) 8) → Y3.grownBy Y4 (some w1.heap.size) →
        goesOn w4.heap.size (AllBut w1.heap.size (w4.heap.size + 1)) (fun X => (Blk X w1.heap.size 79 (us (sts cb p sq (k + 1)) 8) ∧ w4.heap.size ≤ X.heap.size) ∧ Below w.heap.size w X) X Exit.normal a' Y4 := fun Y2 Y3 Y4 a' hbY2 hbY3 hS4 hgY => by
      have hXY : Below X.heap.size X Y3 := hXd.trans ((chain hbY2 hbY3).mono hXd.size)
      have hA : ∀ j, j < X.heap.size → j ≠ w1.heap.size → Y4.heap[j]? = X.heap[j]? := fun j hj hne => (hgY.block j (Nat.lt_of_lt_of_le hj hXY.size) (fun e => hne (Option.some.inj e))).trans (hXY.block j hj)
      have hsz4 : X.heap.size ≤ Y4.heap.size := Nat.le_trans hXY.size hgY.size
      refine ⟨⟨hsz4, fun j o hBj hj _ => (hA j (Array.getElem?_eq_some_iff.1 hj).1 (by omega)).trans hj⟩, ⟨hsz4, fun j hj h1 _ => hA j hj h1⟩, ⟨by rw [hst.out]; exact hS4, Nat.le_trans hsz hsz4⟩, ?_⟩
      have hB3 := hB.trans (hXY.mono hB.size)
      exact hB3.grown hgY hB3.size (fun k e => by have : w1.heap.size = k := Option.some.inj e; omega)
    refine wpAny_ready (rs := [0, 1]) (by kernel_rfl) (by simp) ?_
    refine AllReady.cons rfl (fun K hK => ?_) (AllReady.cons rfl (fun K hK => ?_) AllReady.nil)
    · refine step_load_us arr8 rfl (.tmp 3) rfl w1.heap.size rfl 79 st hS ?_
      refine hK _ _ ?_
      clear hK K
      refine wpAny_ready (rs := [1]) (by kernel_rfl) (by simp) ?_
      refine AllReady.cons rfl (fun K hK => ?_) AllReady.nil
      refine step_load_us arr16 rfl (.tmp 4) rfl Bx rfl 84 x kX ?_
      refine hK _ _ ?_
      clear hK K
      refine wpAny_ready (rs := [2]) (by kernel_rfl) (by simp) ?_
      refine AllReady.cons rfl (fun K hK => ?_) AllReady.nil
      go_simp
      refine (schedule_any _ _).mono ?_
      rintro e Y2 ⟨rfl, hbY2⟩
      have hS2 := hS.below hbY2 hS.lt
      refine hK _ _ ?_
      clear hK K
      refine wpAny_ready (rs := [3]) (by kernel_rfl) (by simp) ?_
      refine AllReady.cons rfl (fun K hK => ?_) AllReady.nil
      go_simp
      refine (mix_any _ _ _).mono ?_
      rintro e Y3 ⟨rfl, hbY3⟩
      have hS3 := hS2.below hbY3 hS2.lt
      refine hK _ _ ?_
      clear hK K
      refine wpAny_ready (rs := [4]) (by kernel_rfl) (by simp) ?_
      refine AllReady.cons rfl (fun K hK => ?_) AllReady.nil
      refine step_store_us arr8 rfl (.tmp 3) (.tmp 16) rfl w1.heap.size rfl (mixed cb (sch x 48) st) rfl 79 st hS3 ?_
      intro Y4 hS4 hgY
      refine hK _ _ ?_
      clear hK K
      refine wpAny_done (by kernel_rfl) ?_ _
      exact hFin Y2 Y3 Y4 { tmps := #[], defers := [] } hbY2 hbY3 hS4 hgY
    · refine step_load_us arr16 rfl (.tmp 4) rfl Bx rfl 84 x kX ?_
      refine hK _ _ ?_
      clear hK K
      refine wpAny_ready (rs := [0, 2]) (by kernel_rfl) (by simp) ?_
      refine AllReady.cons rfl (fun K hK => ?_) (AllReady.cons rfl (fun K hK => ?_) AllReady.nil)
      · refine step_load_us arr8 rfl (.tmp 3) rfl w1.heap.size rfl 79 st hS ?_
        refine hK _ _ ?_
        clear hK K
        refine wpAny_ready (rs := [2]) (by kernel_rfl) (by simp) ?_
        refine AllReady.cons rfl (fun K hK => ?_) AllReady.nil
        go_simp
        refine (schedule_any _ _).mono ?_
        rintro e Y2 ⟨rfl, hbY2⟩
        have hS2 := hS.below hbY2 hS.lt
        refine hK _ _ ?_
        clear hK K
        refine wpAny_ready (rs := [3]) (by kernel_rfl) (by simp) ?_
        refine AllReady.cons rfl (fun K hK => ?_) AllReady.nil
        go_simp
        refine (mix_any _ _ _).mono ?_
        rintro e Y3 ⟨rfl, hbY3⟩
        have hS3 := hS2.below hbY3 hS2.lt
        refine hK _ _ ?_
        clear hK K
        refine wpAny_ready (rs := [4]) (by kernel_rfl) (by simp) ?_
        refine AllReady.cons rfl (fun K hK => ?_) AllReady.nil
        refine step_store_us arr8 rfl (.tmp 3) (.tmp 16) rfl w1.heap.size rfl (mixed cb (sch x 48) st) rfl 79 st hS3 ?_
        intro Y4 hS4 hgY
        refine hK _ _ ?_
        clear hK K
        refine wpAny_done (by kernel_rfl) ?_ _
        exact hFin Y2 Y3 Y4 { tmps := #[], defers := [] } hbY2 hbY3 hS4 hgY
      · go_simp
        refine (schedule_any _ _).mono ?_
        rintro e Y2 ⟨rfl, hbY2⟩
        have hS2 := hS.below hbY2 hS.lt
        refine hK _ _ ?_
        clear hK K
        refine wpAny_ready (rs := [0]) (by kernel_rfl) (by simp) ?_
        refine AllReady.cons rfl (fun K hK => ?_) AllReady.nil
        refine step_load_us arr8 rfl (.tmp 3) rfl w1.heap.size rfl 79 st hS2 ?_
        refine hK _ _ ?_
        clear hK K
        refine wpAny_ready (rs := [3]) (by kernel_rfl) (by simp) ?_
        refine AllReady.cons rfl (fun K hK => ?_) AllReady.nil
        go_simp
        refine (mix_any _ _ _).mono ?_
        rintro e Y3 ⟨rfl, hbY3⟩
        have hS3 := hS2.below hbY3 hS2.lt
        refine hK _ _ ?_
        clear hK K
        refine wpAny_ready (rs := [4]) (by kernel_rfl) (by simp) ?_
        refine AllReady.cons rfl (fun K hK => ?_) AllReady.nil
        refine step_store_us arr8 rfl (.tmp 3) (.tmp 16) rfl w1.heap.size rfl (mixed cb (sch x 48) st) rfl 79 st hS3 ?_
        intro Y4 hS4 hgY
        refine hK _ _ ?_
        clear hK K
        refine wpAny_done (by kernel_rfl) ?_ _
        exact hFin Y2 Y3 Y4 { tmps := #[], defers := [] } hbY2 hbY3 hS4 hgY
  · rintro D X hD ⟨⟨hS, hsz⟩, hB⟩ hK
    rw [show (blkWords p N).length = N by simp [blkWords]] at hS
    have hst : Hid (sumL cb sq l = sumTo (sts cb p sq N) 8) := HS
    generalize sts cb p sq N = st at *
    gi_wp2_with (with_reducible refine arrIn_load arr8 rfl (.tmp 3) rfl w1.heap.size rfl 79 st hS ?_)
    gi_loopw [5, 18] (fun v i wr => ∃ k : Nat, k ≤ 8 ∧ i = .int .i64 k ∧ wr.ownsRow w.heap.size 5 1 v (4 * k) ((sumTo st k).map bv) ∧ wr.heap[D]? = some (.deferred (some [])) ∧ Below w.heap.size w wr) (fun _ i _ => 8 - (intOf i).toNat)
    case atStart => exact ⟨0, by omega, rfl, World.ownsRow_nil _ _ _ _, hK, hB⟩
    clear hS hB hK hsz
    case round =>
      obtain ⟨k, hk, rfl, hown, hD', hB⟩ := hrel
      obtain ⟨va, vc, rfl⟩ := ownsRow_slice hown
      have hNW := hB.size
      by_cases hlt : k < 8
      · have hix := run_index_us 79 8 und8 st k hlt
        have hk0 : (k : Int) < 8 := by omega
        gi_wp2_with (first
          | (refine ⟨trivial, ?_⟩; gi_at_call 36; refine (callsIn_wide.2 (num_any _ 4 (by omega) (by omega) _)).mono ?_; rintro e w5 ⟨s4, rfl, hs4, hb5⟩; rw [show clamp 4 = 4 from rfl] at hs4; have hown5 := own_below4 hown hb5; have hNW5 := Nat.le_trans hNW hb5.size; obtain ⟨a4, c4, rfl⟩ := bsl_slice hs4)
          | (gi_at_builtin; refine wpListIn_append_b _ rfl _ _ 54 rfl w.heap.size 5 i0 (.int .u8 0) Try.underlying54 hi hz0 hz1 hz2 rfl _ (4 * k) ((sumTo st k).map bv) rfl hown5 _ _ rfl hs4 (by rw [octs_length]; omega) hNW5 ?_; intro v6 w6 hown6 hgrow6))
        have hD5 : w5.heap[D]? = some (.deferred (some [])) := (hb5.block D (Array.getElem?_eq_some_iff.1 hD').1).trans hD'
        have hD6 : w6.heap[D]? = some (.deferred (some [])) := (hgrow6.block D (Array.getElem?_eq_some_iff.1 hD5).1 (fun e => by
          obtain ⟨cur, fr, hc⟩ := ownsRow_block hown5 D e.symm
          rw [hD5] at hc; cases hc)).trans hD5
        rw [octs_length, ← List.map_append] at hown6
        have hB6 : Below w.heap.size w w6 := (chain hB hb5).grown hgrow6 hNW5 (fun j hj => (World.ownsRow.lt hown5 j hj).1)
        go_roundw
        case rel => exact ⟨k + 1, by omega, by simp, hown6, hD6, hB6⟩
        case measure => simp [intOf]; omega
      · obtain rfl : k = 8 := by omega
        gi_wp2_with fail
        have hB' := hB.trans (belowK_b (w := w) (Nat.le_refl _) _ D _ (.deferred none) (by omega) hD' rfl rfl)
        have hown3 := ownsRow_putObj hown (.deferred none) hD' rfl
        refine ⟨by simp, .inl ⟨_, _, rfl, run_takeDeferred hD', ?_⟩⟩
        refine ⟨.slice va (4 * 8) vc, ?_, ?_⟩
        · simp [results, Try.f28, go_sem]
        · exact ⟨_, rfl, by rw [hst.out, sumTo_length]; exact hown3, hB'⟩
theorem sum_any (l : List UInt8) (sv : Value) (w : World) (hreach : l.length ≤ 140737488353000) (hsv : BSl 0 w.heap.size w sv l) :
    Calls Try.prog 28 #[sv] w (ByO (sumL cb sq l) w) := callsIn_wide.1 (sum_in 10 (by omega) l sv w hreach hsv)
end Go.Proofs.Ythbpidekfocioaa
