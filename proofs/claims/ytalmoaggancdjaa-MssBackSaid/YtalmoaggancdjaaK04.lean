/-
  hash.schedule: a block's words, then those made of earlier ones.
  The reference's Num and Int.
  The reference's block: the state behind a block.
  slices.Values over slices of octets: each.
  blob.Cat: all, one behind the other.
-/
import Derived.IntWalk
import Derived.Outline
import Derived.Deep.QuietTactic
import Derived.BigQuiet
import Derived.StillTailTactics
import Derived.RegionTactic
import Derived.Laws.OwnMore
import Derived.Test.YtalmoaggancdjaaK03
namespace Go.Proofs.Ytalmoaggancdjaa
open Go.RowKit

/-- What is made of an early word, and of a late one. -/
def sg0 (x : Int) : Int := bits .xor .u32 (bits .xor .u32 (rot x 7) (rot x 18)) (x / 8)
def sg1 (x : Int) : Int := bits .xor .u32 (bits .xor .u32 (rot x 17) (rot x 19)) (x / 1024)
/-- The word at place t, of earlier ones. -/
def nw (f : Nat → Int) (t : Nat) : Int := (sg1 (f (t - 2)) + f (t - 7) + sg0 (f (t - 15)) + f (t - 16)) % 4294967296
/-- Behind k rounds. -/
def sch (f : Nat → Int) : Nat → Nat → Int
  | 0 => fun t => if t < 16 then f t else 0
  | k + 1 => updI (sch f k) (k + 16) (nw (sch f k) (k + 16))

set_option maxRecDepth 100000 in
set_option maxHeartbeats 4000000 in
theorem schedule_any (f : Nat → Int) (w : World) : Calls Try.prog 76 #[uv f 16] w fun e W' => e = .returned (uv (sch f 48) 64) ∧ Below w.heap.size w W' := by
  have hmx : Try.prog.follows .mixedOrders = true := by kernel_rfl
  go_enter Try.func76, Try.ntmps76
  go_wp2
  generalize hW0 : World.alloc _ _ = W0
  have kS : Blk W0 w.heap.size 105 (us f 16) := by rw [← hW0]; exact ((Blk.new' rfl).alloc _).alloc _
  have kR : Blk W0 (w.heap.size + 1) 97 (us (fun _ => 0) 64) := by rw [← hW0, us0_64]; exact (Blk.new' (by simp)).alloc _
  have kW : Blk W0 (w.heap.size + 1 + 1) 97 (us (fun _ => 0) 64) := by rw [← hW0, us0_64]; exact Blk.new' (by simp)
  have d0 : Below w.heap.size w W0 := by rw [← hW0]; exact chainA (chainA (chain0 _ _) _) _
  clear hW0
  refine wp_region_any hmx ?_
  change wpAny _ _ _ _ _ _ _ (World.drew _)
  refine wpAny_take (i := 0) (v := ?_) rfl (by kernel_rfl) (by kernel_rfl) (by kernel_rfl) (fun _ _ _ h => h) (Or.inl ⟨rfl, ?_⟩) ?_
  rotate_left
  · intro w'; go_simp; with_reducible rfl
  refine wpAny_take (i := 1) (v := ?_) rfl (by kernel_rfl) (by kernel_rfl) (by kernel_rfl) (fun _ _ _ h => h) (Or.inl ⟨rfl, ?_⟩) ?_
  rotate_left
  · intro w'; go_simp; with_reducible rfl
  refine wpAny_ready (rs := [2]) (by kernel_rfl) (by simp) ?_
  refine AllReady.cons rfl (fun K hK => ?_) AllReady.nil
  refine step_copy_splice rfl (.tmp 8) (.tmp 9) 123 123 rfl 95 (by kernel_rfl) (by kernel_rfl) (some ⟨w.heap.size + 1 + 1, 0, none⟩) (some ⟨w.heap.size, 0, none⟩) 64 64 16 16 rfl rfl (w.heap.size + 1 + 1) 0 (us (fun _ => 0) 64) 97 kW (us f 16) (by rw [us_length]; rfl)
    (fun _ => ⟨rfl, _, rfl, fun j v hj => ?_⟩) (by rw [us_length, us_length]; omega) (us_one _ _) (w.heap.size + 1 + 1) W0 ((Below.refl _ _).drew) (Nat.le_refl _) ?_
  · have h16 : j < 16 := by have := (List.getElem?_eq_some_iff.1 hj).1; rwa [us_length] at this
    have hc : W0.cell? ⟨w.heap.size, 0 + j, none⟩ = some v := by rw [Nat.zero_add]; exact (kS.cell j).trans hj
    cases j <;> exact hc
  intro w4 hg4 hb4
  refine hK _ _ ?_
  clear hK K
  refine wpAny_done (by kernel_rfl) ?_ _
  have hg5 := hg4.out
  rw [us_splice _ _ (by omega)] at hg5
  have k4 : Blk w4 (w.heap.size + 1 + 1) 97 (us (sch f 0) 64) := hg5
  have kR4 := kR.below hb4 (by omega)
  have d4 : Below w.heap.size w w4 := d0.trans (hb4.mono (by omega))
  clear hg4 hg5 hb4 kS kR kW d0
  go_wp2
  go_loopw [11] (fun i wr => ∃ k : Nat, k ≤ 48 ∧ i = .int .i64 k ∧ Blk wr (w.heap.size + 1 + 1) 97 (us (sch f k) 64) ∧ Blk wr (w.heap.size + 1) 97 (us (fun _ => 0) 64) ∧ Below w.heap.size w wr) (fun i _ => 48 - (intOf i).toNat)
  case atStart => exact ⟨0, by omega, rfl, k4, kR4, d4⟩
  case round =>
    obtain ⟨k, hk, rfl, kW, kR, hB⟩ := hrel
    by_cases hlt : k < 48
    · obtain ⟨T, hT⟩ : ∃ T, T = k + 16 := ⟨_, rfl⟩
      have c2 := (kW.cell (T - 2)).trans (us_at _ (by omega))
      have c15 := (kW.cell (T - 15)).trans (us_at _ (by omega))
      have c7 := (kW.cell (T - 7)).trans (us_at _ (by omega))
      have c16 := (kW.cell (T - 16)).trans (us_at _ (by omega))
      have hf := kW.frozen T
      have cT := (kW.cell T).trans (us_at _ (by omega))
      have hk0 : (k : Int) < 48 := by omega
      have hT2 : (T : Int) < 64 := by omega
      have hT3 : 16 ≤ (T : Int) := by omega
      have HT := Lib.hid hT
      clear hT
      go_wp2
      rw [show (k : Int) + 16 = (T : Int) by have := HT.out; omega]
      have l2 : IntKind.i64.wrap ((T : Int) - 2) = (T : Int) - 2 := IntWalk.i64_in _ (by omega)
      have l15 : IntKind.i64.wrap ((T : Int) - 15) = (T : Int) - 15 := IntWalk.i64_in _ (by omega)
      have b2 : 0 ≤ (T : Int) - 2 := by omega
      have b2' : (T : Int) - 2 < 64 := by omega
      have b15 : 0 ≤ (T : Int) - 15 := by omega
      have b15' : (T : Int) - 15 < 64 := by omega
      have n2 : ((T : Int) - 2).toNat = T - 2 := by omega
      have n15 : ((T : Int) - 15).toNat = T - 15 := by omega
      go_quiet (fail)
      clear l2 l15 b2 b2' b15 b15' n2 n15 c2 c15
      replace kW : Blk (wr.drewN nq) (w.heap.size + 1 + 1) 97 (us (sch f k) 64) := kW
      replace kR : Blk (wr.drewN nq) (w.heap.size + 1) 97 (us (fun _ => 0) 64) := kR
      replace hB : Below w.heap.size w (wr.drewN nq) := hB.trans ⟨rfl, rfl, rfl, Nat.le_refl _, fun _ _ => rfl⟩
      replace hf : (wr.drewN nq).frozen? ⟨w.heap.size + 1 + 1, T, none⟩ = false := hf
      replace c7 : (wr.drewN nq).cell? ⟨w.heap.size + 1 + 1, T - 7, none⟩ = some (.int .u32 (sch f k (T - 7))) := c7
      replace c16 : (wr.drewN nq).cell? ⟨w.heap.size + 1 + 1, T - 16, none⟩ = some (.int .u32 (sch f k (T - 16))) := c16
      replace cT : (wr.drewN nq).cell? ⟨w.heap.size + 1 + 1, T, none⟩ = some (.int .u32 (sch f k T)) := cT
      generalize wr.drewN nq = wq at *
      have HN := Lib.hid (show nw (sch f k) T = (bits .xor .u32 (bits .xor .u32 (rot (sch f k (T - 2)) 17) (rot (sch f k (T - 2)) 19)) (sch f k (T - 2) / 1024) + sch f k (T - 7) + bits .xor .u32 (bits .xor .u32 (rot (sch f k (T - 15)) 7) (rot (sch f k (T - 15)) 18)) (sch f k (T - 15) / 8) + sch f k (T - 16)) % 4294967296 from rfl)
      generalize sch f k T = xT at *
      generalize sch f k (T - 2) = x2 at *
      generalize sch f k (T - 15) = x15 at *
      generalize sch f k (T - 7) = x7 at *
      generalize sch f k (T - 16) = x16 at *
      go_wp2
      have l7 : IntKind.i64.wrap ((T : Int) - 7) = (T : Int) - 7 := IntWalk.i64_in _ (by omega)
      have l16 : IntKind.i64.wrap ((T : Int) - 16) = (T : Int) - 16 := IntWalk.i64_in _ (by omega)
      have b7 : 0 ≤ (T : Int) - 7 := by omega
      have b7' : (T : Int) - 7 < 64 := by omega
      have b16 : 0 ≤ (T : Int) - 16 := by omega
      have b16' : (T : Int) - 16 < 64 := by omega
      have b7n : 7 ≤ (T : Int) := by omega
      have n7 : ((T : Int) - 7).toNat = T - 7 := by omega
      have n16 : ((T : Int) - 16).toNat = T - 16 := by omega
      go_still_tail 29, (by kernel_rfl)
      still_call (rotr_still _ _ 17 t17 rfl _)
      repeat still_step
      still_call (rotr_still _ _ 19 t19 rfl _)
      repeat still_step
      still_call (rotr_still _ _ 7 t7 rfl _)
      repeat still_step
      still_call (rotr_still _ _ 18 t18 rfl _)
      repeat still_step
      refine wpStill_nil ?_
      change wpList _ _ _ _ _ wq.drew
      clear l7 l16
      go_wp2
      rw [← HN.out]
      have hT := HT.out
      subst hT
      have kW' := kW.set (k + 16) (.int .u32 (nw (sch f k) (k + 16)))
      rw [us_set] at kW'
      exact ⟨⟨k + 1, by omega, by simp, kW', kR.other _ _ (by omega), (hB.setCell (p := ⟨w.heap.size + 1 + 1, _, none⟩) (by simp; omega) _).drew⟩, by simp [intOf]; omega⟩
    · obtain rfl : k = 48 := by omega
      go_wp2_with (first | (with_reducible refine arr_load arr64 rfl (.tmp 3) rfl (w.heap.size + 1 + 1) rfl 97 (sch f 48) kW ?_) | (with_reducible refine arr_store arr64 rfl (.tmp 2) (.tmp 54) rfl (w.heap.size + 1) rfl (sch f 48) rfl 97 (fun _ => 0) kR ?_; intro w5 kR5 hg5))
      exact bodyPost_ret (v := uv (sch f 48) 64) (arr_result arr64 rfl _ _ (w.heap.size + 1) 97 (sch f 48) rfl kR5) rfl ⟨rfl, hB.grown hg5 hB.size (fun k e => by have : w.heap.size + 1 = k := Option.some.inj e; omega)⟩
end Go.Proofs.Ytalmoaggancdjaa

namespace Go.Proofs.Ytalmoaggancdjaa
open Go.RowKit

/-- The row with the lowest s - j octets laid. -/
def numR (x s j : Nat) : List Value := List.replicate j (bv 0) ++ (octs x (s - j)).map bv
theorem numR_at (x s : Nat) {j p : Nat} (h : p < j) : (numR x s j)[p]? = some (bv 0) := by
  unfold numR; rw [List.getElem?_append_left (by simpa using h)]; simp [h]
theorem numR_step (x s : Nat) {p : Nat} (h : p < s) : (numR x s (p + 1)).set p (bv (oct (x / 256 ^ (s - (p + 1))) 0)) = numR x s p := by
  unfold numR
  have e : s - p = (s - (p + 1)) + 1 := by omega
  rw [e, octs]
  have e2 : oct (x / 256 ^ (s - (p + 1))) 0 = oct x (s - (p + 1)) := by
    unfold oct
    rw [show 2 ^ ((s - (p + 1)) * 8) = 256 ^ (s - (p + 1)) by rw [Nat.mul_comm, Nat.pow_mul]]
    simp
  rw [e2, List.replicate_succ', List.append_assoc, List.set_append_right _ _ (by simp)]
  simp

set_option maxRecDepth 100000 in
set_option maxHeartbeats 4000000 in
theorem refNum_any (n size : Int) (hs : -9223372036854775808 ≤ size) (hs' : size ≤ 9223372036854775807) (w : World) :
    Calls Try.prog 64 #[.int .i64 n, .int .i64 size] w (ByW (octs (two n) (clamp size)) w) := by
  obtain ⟨i0, hi, hz0, hz1, hz2⟩ := info_parts Try.infoByte
  have hU : IntKind.u64.wrap n = (two n : Nat) := wrap_two n
  have hx : two n < M := by unfold two M; omega
  generalize two n = x at *
  have H8 := clamp_le size
  have hCC := clamp_cases size
  generalize clamp size = s at *
  go_enter Try.func64, Try.ntmps64
  rcases hCC with ⟨hc0, hC⟩ | ⟨hc0, hc8, hC⟩ | ⟨hc8, hC⟩
  all_goals
    have HC := Lib.hid hC
    clear hC
    go_wp2_with (at_make; refine wpList_make_full _ rfl _ _ 24 rfl w.heap.size 5 i0 (.int .u8 0) 1 Try.underlying24 hi hz0 hz1 .i64 .i64 _ _ s rfl rfl HC.out.symm HC.out.symm (by rw [hz2]; omega) (by unfold maxLen; omega) (Nat.le_refl _) ?_; intro w1 hown hgrow)
    have hown0 : w1.ownsRow w.heap.size 5 1 (.slice (some ⟨w.heap.size, 0, none⟩) s s) s (numR x s s) := by
      have e : (madeCells (Value.int .u8 0).cells (s * 1)).toList = numR x s s := by
        rw [Nat.mul_one]
        refine (toList_madeCells_one (.int .u8 0) s).trans ?_
        unfold numR
        simp [octs]
      rw [← e]; exact hown
    have hB0 : Below w.heap.size w w1 := (Below.refl _ w).grown hgrow (Nat.le_refl _) (fun k e => by cases e)
    have hs8 : (s : Int) ≤ 8 := by omega
    clear hown hgrow
    go_loopw [6, 7] (fun u i wr => ∃ j : Nat, j ≤ s ∧ i = .int .i64 ((j : Int) - 1) ∧ u = .int .u64 (x / 256 ^ (s - j) : Nat) ∧ wr.ownsRow w.heap.size 5 1 (.slice (some ⟨w.heap.size, 0, none⟩) s s) s (numR x s j) ∧ Below w.heap.size w wr) (fun _ i _ => ((intOf i) + 1).toNat)
    case atStart => exact ⟨s, Nat.le_refl _, by have := HC.out; congr 1; omega, by rw [Nat.sub_self, Nat.pow_zero, Nat.div_one], hown0, hB0⟩
    case round =>
      obtain ⟨j, hj, rfl, rfl, hown, hB⟩ := hrel
      rcases j with _ | p
      · have e0 : ((0 : Nat) : Int) - 1 = -1 := by omega
        rw [e0]
        go_wp2
        go_ret
        refine ⟨_, rfl, BSl.of_own (e := 5) (l := octs x s) ?_, hB⟩
        rw [octs_length]
        exact hown
      · have hps : p < s := by omega
        have e1 : ((p + 1 : Nat) : Int) - 1 = (p : Int) := by omega
        have hst := numR_step x s hps
        have HS := Lib.hid hst
        clear hst
        have hc := hown.cellAt p (by omega)
        rw [numR_at x s (Nat.lt_succ_self p)] at hc
        have hf := hown.frozenAt p
        have hd : x / 256 ^ (s - (p + 1)) / 256 = x / 256 ^ (s - p) := by
          rw [Nat.div_div_eq_div_mul, ← Nat.pow_succ, show (s - (p + 1)).succ = s - p by omega]
        have HD := Lib.hid hd
        clear hd
        have hy : x / 256 ^ (s - (p + 1)) ≤ 18446744073709551615 := Nat.le_trans (Nat.div_le_self _ _) (by unfold M at hx; omega)
        have hp8 : (p : Int) < (s : Int) := by omega
        generalize x / 256 ^ (s - (p + 1)) = y at *
        have hy' : (y : Int) ≤ 18446744073709551615 := by omega
        rw [e1]
        clear e1
        go_wp2
        have hv : Value.int .u8 ((y : Int) % 256) = bv (oct y 0) := by rw [oct_bv]; simp
        have hown2 := (hown.stored p (bv (oct y 0))).1
        rw [HS.out] at hown2
        rw [hv]
        exact ⟨⟨p, by omega, rfl, by rw [← HD.out]; simp, hown2, hB.setCell (p := ⟨w.heap.size, p, none⟩) (Nat.le_refl _) _⟩, by simp [intOf]⟩

set_option maxRecDepth 100000 in
set_option maxHeartbeats 4000000 in
theorem refInt_any (l : List UInt8) (sv : Value) (w : World) (hreach : l.length ≤ 140737488351232) (hsv : BSl 0 w.heap.size w sv l) :
    Calls Try.prog 98 #[sv] w fun e W' => e = .returned (.int .i64 (be (l.take 7) : Nat)) ∧ W' = w := by
  obtain ⟨a, cap, rfl, hcap, hcs⟩ := hsv
  go_enter Try.func98, Try.ntmps98
  go_wp2
  go_loop [3, 4] (fun n i => ∃ k : Nat, k ≤ l.length ∧ k ≤ 7 ∧ i = .int .i64 k ∧ n = .int .i64 (be (l.take k) : Nat)) (fun _ i => l.length - (intOf i).toNat)
  case atStart => exact ⟨0, by omega, by omega, rfl, rfl⟩
  case round =>
    obtain ⟨k, hk, hk7, rfl, rfl⟩ := hrel
    have hbl := be_lt' (l := l.take k) (k := 7) (by rw [List.length_take]; omega)
    by_cases hlt : k < l.length
    · by_cases h7 : k < 7
      · obtain ⟨x, hx⟩ : ∃ x, l[k]? = some x := ⟨_, List.getElem?_eq_getElem hlt⟩
        obtain ⟨b, off, rfl, ho⟩ : ∃ b off, a = some ⟨b, off, none⟩ ∧ Octs w b off l := by
          rcases hcs with h0 | ⟨b, off, h1, _, _, h2⟩
          · rw [h0] at hlt; simp at hlt
          · exact ⟨b, off, h1, h2⟩
        have hc := ho k x hx
        have hs : be (l.take (k + 1)) = be (l.take k) * 256 + x.toNat := by
          rw [List.take_add_one, hx]; exact be_snoc _ _
        have HS := Lib.hid hs
        have HX := Lib.hid hx
        have hb6 := be_lt' (l := l.take k) (k := 6) (by rw [List.length_take]; omega)
        have hb6' : ((be (l.take k) : Nat) : Int) ≤ 281474976710655 := by omega
        clear hs hx ho hcs hbl hb6
        have hxl : (x.toNat : Int) ≤ 255 := by have := x.toNat_lt; omega
        have hlt' : (k : Int) < (l.length : Int) := by omega
        have h7' : (k : Int) < 7 := by omega
        have hd1 : decide ((k : Int) < (l.length : Int)) = true := by simpa using hlt
        generalize hL : l.length = len at *
        have HL := Lib.hid hL
        clear hL
        generalize be (l.take k) = y at *
        go_wp2
        go_round
        case rel => exact ⟨k + 1, by omega, by omega, by simp, by rw [HS.out]; simp⟩
        case measure => simp [intOf]; omega
      · obtain rfl : k = 7 := by omega
        have hlt' : (7 : Int) < (l.length : Int) := by omega
        go_wp2
        go_ret
        exact ⟨rfl, rfl⟩
    · obtain rfl : k = l.length := by omega
      have e7 : be (l.take l.length) = be (l.take 7) := by rw [List.take_of_length_le hk7, List.take_length]
      rw [e7]
      have HE := Lib.hid e7
      clear e7
      have hL : ((l.length : Nat) : Int) ≤ 7 := by omega
      clear hbl
      generalize hY : be (l.take 7) = y at *
      have HY := Lib.hid hY
      clear hY
      go_wp2
      go_ret
      exact ⟨congrArg (fun z : Nat => Ending.returned (.int .i64 (z : Int))) HY.out.symm, rfl⟩

end Go.Proofs.Ytalmoaggancdjaa

namespace Go.Proofs.Ytalmoaggancdjaa
open Go.RowKit

/-- The words of a text, of four octets each. -/
def wd (l : List UInt8) (t : Nat) : Int := (be ((l.drop (4 * t)).take 4) : Nat)
/-- The reference's words behind t rounds. -/
def wst (f : Nat → Int) (t : Nat) : Nat → Int := if t ≤ 16 then (fun i => if i < t then f i else 0) else sch f (t - 16)
theorem wst_low {f : Nat → Int} {t : Nat} (h : t < 16) : us (updI (wst f t) t (f t)) 64 = us (wst f (t + 1)) 64 := us_congr fun k _ => by
  unfold wst updI
  rw [if_pos (show t ≤ 16 by omega), if_pos (show t + 1 ≤ 16 by omega)]
  by_cases e : k = t
  · subst e; simp
  · rw [if_neg e]
    show (if k < t then f k else 0) = if k < t + 1 then f k else 0
    by_cases e2 : k < t
    · rw [if_pos e2, if_pos (by omega)]
    · rw [if_neg e2, if_neg (by omega)]
theorem wst_high {f : Nat → Int} {t : Nat} (h : 16 ≤ t) : wst f t = sch f (t - 16) := by
  unfold wst
  by_cases e : t ≤ 16
  · have : t = 16 := by omega
    subst this
    rfl
  · rw [if_neg e]
theorem sch_succ {f : Nat → Int} {t : Nat} (h : 16 ≤ t) : sch f (t + 1 - 16) = updI (sch f (t - 16)) t (nw (sch f (t - 16)) t) := by
  obtain ⟨k, rfl⟩ : ∃ k, t = k + 16 := ⟨t - 16, by omega⟩
  rw [show k + 16 + 1 - 16 = k + 1 by omega, show k + 16 - 16 = k by omega]
  rfl

theorem sub_octs {W : World} {b off : Nat} {l : List UInt8} (h : Octs W b off l) (i n : Nat) : Octs W b (off + i) ((l.drop i).take n) := fun k x hx => by
  have hk : k < n := by
    have := (List.getElem?_eq_some_iff.1 hx).1
    rw [List.length_take] at this
    omega
  rw [List.getElem?_take_of_lt hk, List.getElem?_drop] at hx
  rw [Nat.add_assoc]
  exact h _ x hx
theorem sub_bsl {W : World} {b off cap hi : Nat} {l : List UInt8} (h : Octs W b off l) (hb : b < hi) (i n : Nat) (hl : i + n ≤ l.length) (hc : n ≤ cap) : BSl 0 hi W (.slice (some ⟨b, off + i, none⟩) n cap) ((l.drop i).take n) :=
  ⟨_, cap, by rw [show ((l.drop i).take n).length = n by simp; omega], by simp; omega, .inr ⟨b, _, rfl, Nat.zero_le _, hb, sub_octs h i n⟩⟩
theorem wd_be {l : List UInt8} (t : Nat) : ((be (((l.drop (4 * t)).take 4).take 7) : Nat) : Int) = wd l t ∧ 0 ≤ wd l t ∧ wd l t ≤ 4294967295 := by
  have hle : ((l.drop (4 * t)).take 4).length ≤ 4 := by simp; omega
  have := be_lt' hle
  rw [List.take_of_length_le (by omega)]
  unfold wd
  omega

theorem us8 (g : Nat → Int) : us g 8 = [.int .u32 (g 0), .int .u32 (g 1), .int .u32 (g 2), .int .u32 (g 3), .int .u32 (g 4), .int .u32 (g 5), .int .u32 (g 6), .int .u32 (g 7)] := rfl

set_option maxRecDepth 100000 in
set_option maxHeartbeats 8000000 in
theorem refBlock_any (f kk : Nat → Int) (l : List UInt8) (hl : l.length = 64) (b off cap : Nat) (hcap : 64 ≤ cap) (hcap' : cap ≤ 9223372036854775807) (w : World) (hb : b < w.heap.size) (ho : Octs w b off l) :
    Calls Try.prog 88 #[uv f 8, uv kk 64, .slice (some ⟨b, off, none⟩) 64 cap] w fun e W' => e = .returned (uv (mixed kk (sch (wd l) 48) f) 8) ∧ Below w.heap.size w W' := by
  have HL := Lib.hid hl
  clear hl
  go_enter Try.func88, Try.ntmps88
  go_wp2
  generalize hW0 : World.alloc _ _ = W0
  have kS : Blk W0 w.heap.size 96 (us f 8) := by rw [← hW0]; exact (((Blk.new' rfl).alloc _).alloc _).alloc _
  have kK : Blk W0 (w.heap.size + 1) 97 (us kk 64) := by rw [← hW0]; exact ((Blk.new' (by simp)).alloc _).alloc _
  have kR : Blk W0 (w.heap.size + 1 + 1) 96 (us (fun _ => 0) 8) := by rw [← hW0, us0_8]; exact (Blk.new' (by simp)).alloc _
  have kW : Blk W0 (w.heap.size + 1 + 1 + 1) 97 (us (fun _ => 0) 64) := by rw [← hW0, us0_64]; exact Blk.new' (by simp)
  have d0 : Below w.heap.size w W0 := by rw [← hW0]; exact chainA (chainA (chainA (chain0 _ _) _) _) _
  clear hW0
  go_loopw [8] (fun i wr => ∃ t : Nat, t ≤ 64 ∧ i = .int .i64 t ∧ Blk wr w.heap.size 96 (us f 8) ∧ Blk wr (w.heap.size + 1) 97 (us kk 64) ∧ Blk wr (w.heap.size + 1 + 1) 96 (us (fun _ => 0) 8) ∧
    Blk wr (w.heap.size + 1 + 1 + 1) 97 (us (wst (wd l) t) 64) ∧ Below w.heap.size w wr) (fun i _ => 64 - (intOf i).toNat)
  case atStart => exact ⟨0, by omega, rfl, kS, kK, kR, kW, d0⟩
  case round =>
    obtain ⟨t, ht, rfl, kS, kK, kR, kW, hB⟩ := hrel
    by_cases hlt : t < 64
    · by_cases h16 : t < 16
      · have hf := kW.frozen t
        have cT := (kW.cell t).trans (us_at _ (by omega))
        have i1 : (t : Int) < 64 := by omega
        have i2 : (t : Int) < 16 := by omega
        have i3 : (0 : Int) ≤ 4 * (t : Int) := by omega
        have i4 : 4 * (t : Int) + 4 ≤ (cap : Int) := by omega
        have i5 : 4 * (t : Int) ≤ 4 * (t : Int) + 4 := by omega
        have hne : ¬ cap = 4 * t := by omega
        have n1 : (4 * (t : Int)).toNat = 4 * t := by omega
        go_wp2_with fail
        refine (refInt_any ((l.drop (4 * t)).take 4) _ _ (by simp; omega) (sub_bsl (ho.below hB hb) (Nat.lt_of_lt_of_le hb hB.size) (4 * t) 4 (by rw [HL.out]; omega) (by omega))).mono ?_
        rintro e w' ⟨rfl, rfl⟩
        obtain ⟨hw, hw0, hw1⟩ := wd_be (l := l) t
        rw [hw]
        have HW := Lib.hid (wst_low (f := wd l) h16)
        clear hw
        generalize hx : wd l t = x at *
        have HX := Lib.hid hx
        clear hx i3 i4 i5 n1 hne
        go_wp2_with fail
        have kW' := kW.set t (.int .u32 x)
        rw [us_set, HW.out] at kW'
        exact ⟨⟨t + 1, by omega, by simp, kS.other _ _ (by omega), kK.other _ _ (by omega), kR.other _ _ (by omega), kW', hB.setCell (p := ⟨w.heap.size + 1 + 1 + 1, _, none⟩) (by simp; omega) _⟩, by simp [intOf]; omega⟩
      · have HS := Lib.hid (sch_succ (f := wd l) (t := t) (by omega))
        have HW := Lib.hid (wst_high (f := wd l) (t := t + 1) (by omega))
        rw [wst_high (by omega)] at kW
        generalize hF : sch (wd l) (t - 16) = F at *
        have HF := Lib.hid hF
        clear hF
        have c2 := (kW.cell (t - 2)).trans (us_at _ (by omega))
        have c15 := (kW.cell (t - 15)).trans (us_at _ (by omega))
        have c7 := (kW.cell (t - 7)).trans (us_at _ (by omega))
        have c16 := (kW.cell (t - 16)).trans (us_at _ (by omega))
        have cT := (kW.cell t).trans (us_at _ (by omega))
        have hf := kW.frozen t
        have hT2 : (t : Int) < 64 := by omega
        have hT3 : 16 ≤ (t : Int) := by omega
        have hT4 : ¬ (t : Int) < 16 := by omega
        go_wp2_with fail
        have l2 : IntKind.i64.wrap ((t : Int) - 2) = (t : Int) - 2 := IntWalk.i64_in _ (by omega)
        have l15 : IntKind.i64.wrap ((t : Int) - 15) = (t : Int) - 15 := IntWalk.i64_in _ (by omega)
        have b2 : 0 ≤ (t : Int) - 2 := by omega
        have b2' : (t : Int) - 2 < 64 := by omega
        have b15 : 0 ≤ (t : Int) - 15 := by omega
        have b15' : (t : Int) - 15 < 64 := by omega
        have n2 : ((t : Int) - 2).toNat = t - 2 := by omega
        have n15 : ((t : Int) - 15).toNat = t - 15 := by omega
        go_quiet (fail)
        clear l2 l15 b2 b2' b15 b15' n2 n15 c2 c15
        replace kS : Blk (wr.drewN nq) w.heap.size 96 (us f 8) := kS
        replace kK : Blk (wr.drewN nq) (w.heap.size + 1) 97 (us kk 64) := kK
        replace kW : Blk (wr.drewN nq) (w.heap.size + 1 + 1 + 1) 97 (us F 64) := kW
        replace kR : Blk (wr.drewN nq) (w.heap.size + 1 + 1) 96 (us (fun _ => 0) 8) := kR
        replace hB : Below w.heap.size w (wr.drewN nq) := hB.trans (below_drewN _ _)
        replace hf : (wr.drewN nq).frozen? ⟨w.heap.size + 1 + 1 + 1, t, none⟩ = false := hf
        replace c7 : (wr.drewN nq).cell? ⟨w.heap.size + 1 + 1 + 1, t - 7, none⟩ = some (.int .u32 (F (t - 7))) := c7
        replace c16 : (wr.drewN nq).cell? ⟨w.heap.size + 1 + 1 + 1, t - 16, none⟩ = some (.int .u32 (F (t - 16))) := c16
        replace cT : (wr.drewN nq).cell? ⟨w.heap.size + 1 + 1 + 1, t, none⟩ = some (.int .u32 (F t)) := cT
        generalize wr.drewN nq = wq at *
        have HN := Lib.hid (show nw F t = (bits .xor .u32 (bits .xor .u32 (rot (F (t - 2)) 17) (rot (F (t - 2)) 19)) (F (t - 2) / 1024) + F (t - 7) + bits .xor .u32 (bits .xor .u32 (rot (F (t - 15)) 7) (rot (F (t - 15)) 18)) (F (t - 15) / 8) + F (t - 16)) % 4294967296 from rfl)
        generalize F t = xT at *
        generalize F (t - 2) = x2 at *
        generalize F (t - 15) = x15 at *
        generalize F (t - 7) = x7 at *
        generalize F (t - 16) = x16 at *
        go_wp2
        have l7 : IntKind.i64.wrap ((t : Int) - 7) = (t : Int) - 7 := IntWalk.i64_in _ (by omega)
        have l16 : IntKind.i64.wrap ((t : Int) - 16) = (t : Int) - 16 := IntWalk.i64_in _ (by omega)
        have b7 : 0 ≤ (t : Int) - 7 := by omega
        have b7' : (t : Int) - 7 < 64 := by omega
        have b16 : 0 ≤ (t : Int) - 16 := by omega
        have b16' : (t : Int) - 16 < 64 := by omega
        have b7n : 7 ≤ (t : Int) := by omega
        have n7 : ((t : Int) - 7).toNat = t - 7 := by omega
        have n16 : ((t : Int) - 16).toNat = t - 16 := by omega
        go_still_tail 29, (by kernel_rfl)
        still_call (turn_still _ _ 17 t17 rfl _)
        repeat still_step
        still_call (turn_still _ _ 19 t19 rfl _)
        repeat still_step
        still_call (turn_still _ _ 7 t7 rfl _)
        repeat still_step
        still_call (turn_still _ _ 18 t18 rfl _)
        repeat still_step
        refine wpStill_nil ?_
        change wpList _ _ _ _ _ wq.drew
        clear l7 l16
        go_wp2
        rw [← HN.out]
        have kW' := kW.set t (.int .u32 (nw F t))
        rw [us_set, ← HS.out, ← HW.out] at kW'
        exact ⟨⟨t + 1, by omega, by simp, kS.other _ _ (by omega), kK.other _ _ (by omega), kR.other _ _ (by omega), kW', (hB.setCell (p := ⟨w.heap.size + 1 + 1 + 1, _, none⟩) (by simp; omega) _).drew⟩, by simp [intOf]; omega⟩
    · have hT : ¬ (t : Int) < 64 := by omega
      have ht' : t - 16 = 48 := by omega
      rw [wst_high (by omega), ht'] at kW
      generalize hm : sch (wd l) 48 = m at *
      have HMM := Lib.hid hm
      clear hm ht hlt ht'
      have q0 := (kS.cell 0).trans (us_at _ (by omega))
      have q1 := (kS.cell 1).trans (us_at _ (by omega))
      have q2 := (kS.cell 2).trans (us_at _ (by omega))
      have q3 := (kS.cell 3).trans (us_at _ (by omega))
      have q4 := (kS.cell 4).trans (us_at _ (by omega))
      have q5 := (kS.cell 5).trans (us_at _ (by omega))
      have q6 := (kS.cell 6).trans (us_at _ (by omega))
      have q7 := (kS.cell 7).trans (us_at _ (by omega))
      go_wp2_with fail
      go_quiet (fail)
      replace kS : Blk (wr.drewN nq) w.heap.size 96 (us f 8) := kS
      replace kK : Blk (wr.drewN nq) (w.heap.size + 1) 97 (us kk 64) := kK
      replace kW : Blk (wr.drewN nq) (w.heap.size + 1 + 1 + 1) 97 (us m 64) := kW
      replace kR : Blk (wr.drewN nq) (w.heap.size + 1 + 1) 96 (us (fun _ => 0) 8) := kR
      replace hB : Below w.heap.size w (wr.drewN nq) := hB.trans (below_drewN _ _)
      clear q0 q1 q2 q3 q4 q5 q6 q7
      generalize wr.drewN nq = wq at *
      go_wp2_with fail
      go_loopw [11, 12, 13, 14, 15, 16, 17, 18, 19] (fun a b c d e f' g h i wr => ∃ (k : Nat) (s : S8), k ≤ 64 ∧ Hid (s = rds kk m (s8 f) k) ∧ i = .int .i64 k ∧ a = .int .u32 s.a ∧ b = .int .u32 s.b ∧ c = .int .u32 s.c ∧ d = .int .u32 s.d ∧ e = .int .u32 s.e ∧ f' = .int .u32 s.f ∧ g = .int .u32 s.g ∧ h = .int .u32 s.h ∧
        Blk wr w.heap.size 96 (us f 8) ∧ Blk wr (w.heap.size + 1) 97 (us kk 64) ∧ Blk wr (w.heap.size + 1 + 1) 96 (us (fun _ => 0) 8) ∧ Blk wr (w.heap.size + 1 + 1 + 1) 97 (us m 64) ∧ Below w.heap.size w wr) (fun _ _ _ _ _ _ _ _ i _ => 64 - (intOf i).toNat)
      case atStart => exact ⟨0, s8 f, by omega, Lib.hid rfl, rfl, rfl, rfl, rfl, rfl, rfl, rfl, rfl, rfl, kS, kK, kR, kW, hB⟩
      clear kS kK kW kR hB
      case round =>
        obtain ⟨k, ⟨a, b', c, d, e, f', g, h⟩, hk, HS, rfl, rfl, rfl, rfl, rfl, rfl, rfl, rfl, rfl, kS, kK, kR, kW, hB⟩ := hrel
        dsimp only
        by_cases hlt : k < 64
        · have cM := (kW.cell k).trans (us_at _ hlt)
          have cK := (kK.cell k).trans (us_at _ hlt)
          have hk0 : (k : Int) < 64 := by omega
          go_wp2_with fail
          refine wp_region_still_lit (by kernel_rfl) (by kernel_rfl) ?_
          repeat still_step
          still_call (turn_still _ _ 6 t6 rfl _)
          repeat still_step
          still_call (turn_still _ _ 11 t11 rfl _)
          repeat still_step
          still_call (turn_still _ _ 25 t25 rfl _)
          repeat still_step
          refine wpStill_nil ?_
          generalize hx1 : IntKind.u32.wrap (IntKind.u32.wrap (IntKind.u32.wrap (IntKind.u32.wrap (h + _) + _) + kk k) + m k) = x1
          have HX1 : Hid (tmp1 ⟨a, b', c, d, e, f', g, h⟩ (kk k) (m k) = x1) := Lib.hid (by
            rw [← hx1]; simp only [tmp1, bs1, chs3, IntKind.wrap_u32, Int.emod_add_emod])
          clear hx1
          replace kS : Blk wr.drew w.heap.size 96 (us f 8) := kS
          replace kK : Blk wr.drew (w.heap.size + 1) 97 (us kk 64) := kK
          replace kR : Blk wr.drew (w.heap.size + 1 + 1) 96 (us (fun _ => 0) 8) := kR
          replace kW : Blk wr.drew (w.heap.size + 1 + 1 + 1) 97 (us m 64) := kW
          replace hB : Below w.heap.size w wr.drew := hB.drew
          change Exit.then _ _ _ _ wr.drew
          generalize wr.drew = wq at *
          clear cM cK
          go_wp2_with fail
          refine (turn_still _ _ 2 t2 rfl _).mono ?_
          rintro e' w' ⟨rfl, rfl⟩
          go_wp2_with fail
          refine (turn_still _ _ 13 t13 rfl _).mono ?_
          rintro e' w' ⟨rfl, rfl⟩
          go_wp2_with fail
          refine (turn_still _ _ 22 t22 rfl _).mono ?_
          rintro e' w' ⟨rfl, rfl⟩
          go_wp2_with fail
          exact ⟨⟨k + 1, rnd ⟨a, b', c, d, e, f', g, h⟩ (kk k) (m k), by omega, Lib.hid (by rw [HS.out]; rfl), by simp, by rw [← HX1.out]; rfl, rfl, rfl, rfl, by rw [← HX1.out]; rfl, rfl, rfl, rfl, kS, kK, kR, kW, hB⟩, by simp [intOf]; omega⟩
        · obtain rfl : k = 64 := by omega
          have q0 := (kS.cell 0).trans (us_at _ (by omega))
          have q1 := (kS.cell 1).trans (us_at _ (by omega))
          have q2 := (kS.cell 2).trans (us_at _ (by omega))
          have q3 := (kS.cell 3).trans (us_at _ (by omega))
          have q4 := (kS.cell 4).trans (us_at _ (by omega))
          have q5 := (kS.cell 5).trans (us_at _ (by omega))
          have q6 := (kS.cell 6).trans (us_at _ (by omega))
          have q7 := (kS.cell 7).trans (us_at _ (by omega))
          have hM : mixed kk m f = fun i => (f i + S8.at ⟨a, b', c, d, e, f', g, h⟩ i) % 4294967296 := by unfold mixed; rw [← HS.out]
          have HM := Lib.hid hM
          clear hM
          obtain ⟨r0, r1, r2, r3, r4, r5, r6, r7⟩ : wr.cell? ⟨w.heap.size + 1 + 1, 0, none⟩ = some (.int .u32 0) ∧ wr.cell? ⟨w.heap.size + 1 + 1, 1, none⟩ = some (.int .u32 0) ∧ wr.cell? ⟨w.heap.size + 1 + 1, 2, none⟩ = some (.int .u32 0) ∧ wr.cell? ⟨w.heap.size + 1 + 1, 3, none⟩ = some (.int .u32 0) ∧ wr.cell? ⟨w.heap.size + 1 + 1, 4, none⟩ = some (.int .u32 0) ∧ wr.cell? ⟨w.heap.size + 1 + 1, 5, none⟩ = some (.int .u32 0) ∧ wr.cell? ⟨w.heap.size + 1 + 1, 6, none⟩ = some (.int .u32 0) ∧ wr.cell? ⟨w.heap.size + 1 + 1, 7, none⟩ = some (.int .u32 0) :=
            ⟨kR.cell 0, kR.cell 1, kR.cell 2, kR.cell 3, kR.cell 4, kR.cell 5, kR.cell 6, kR.cell 7⟩
          have f0 := kR.frozen 0
          have f1 := kR.frozen 1
          have f2 := kR.frozen 2
          have f3 := kR.frozen 3
          have f4 := kR.frozen 4
          have f5 := kR.frozen 5
          have f6 := kR.frozen 6
          have f7 := kR.frozen 7
          go_wp2_with fail
          have kR5 := (((((((kR.set 0 (.int .u32 ((f 0 + a) % 4294967296))).set 1 (.int .u32 ((f 1 + b') % 4294967296))).set 2 (.int .u32 ((f 2 + c) % 4294967296))).set 3 (.int .u32 ((f 3 + d) % 4294967296))).set 4 (.int .u32 ((f 4 + e) % 4294967296))).set 5 (.int .u32 ((f 5 + f') % 4294967296))).set 6 (.int .u32 ((f 6 + g) % 4294967296))).set 7 (.int .u32 ((f 7 + h) % 4294967296))
          rw [us0_8] at kR5
          simp only [List.set_cons_zero, List.set_cons_succ] at kR5
          have hlist : [.int .u32 ((f 0 + a) % 4294967296), .int .u32 ((f 1 + b') % 4294967296), .int .u32 ((f 2 + c) % 4294967296), .int .u32 ((f 3 + d) % 4294967296), .int .u32 ((f 4 + e) % 4294967296), .int .u32 ((f 5 + f') % 4294967296), .int .u32 ((f 6 + g) % 4294967296), .int .u32 ((f 7 + h) % 4294967296)] = us (mixed kk m f) 8 := by rw [HM.out, us8]; simp only [S8.at]
          rw [hlist] at kR5
          have hB5 := (((((((hB.setCell (p := ⟨w.heap.size + 1 + 1, 0, none⟩) (by simp; omega) (.int .u32 ((f 0 + a) % 4294967296))).setCell (p := ⟨w.heap.size + 1 + 1, 1, none⟩) (by simp; omega) (.int .u32 ((f 1 + b') % 4294967296))).setCell (p := ⟨w.heap.size + 1 + 1, 2, none⟩) (by simp; omega) (.int .u32 ((f 2 + c) % 4294967296))).setCell (p := ⟨w.heap.size + 1 + 1, 3, none⟩) (by simp; omega) (.int .u32 ((f 3 + d) % 4294967296))).setCell (p := ⟨w.heap.size + 1 + 1, 4, none⟩) (by simp; omega) (.int .u32 ((f 4 + e) % 4294967296))).setCell (p := ⟨w.heap.size + 1 + 1, 5, none⟩) (by simp; omega) (.int .u32 ((f 5 + f') % 4294967296))).setCell (p := ⟨w.heap.size + 1 + 1, 6, none⟩) (by simp; omega) (.int .u32 ((f 6 + g) % 4294967296))).setCell (p := ⟨w.heap.size + 1 + 1, 7, none⟩) (by simp; omega) (.int .u32 ((f 7 + h) % 4294967296))
          exact bodyPost_ret (v := uv (mixed kk m f) 8) (arr_result arr8 rfl _ _ (w.heap.size + 1 + 1) 96 (mixed kk m f) rfl kR5) rfl ⟨by rw [HMM.out], hB5⟩
end Go.Proofs.Ytalmoaggancdjaa

namespace Go.Proofs.Ytalmoaggancdjaa
open Go.RowKit Go.Shelf
attribute [local go_sem] Oper.semAt_some

/-- A slice value with its octets, m at most, as they lie below n in w. -/
abbrev SX (m n : Nat) (w : World) := { x : Value × List UInt8 // BSl 0 n w x.1 x.2 ∧ x.2.length ≤ m }
abbrev sxEnc {o n : Nat} {w : World} (x : SX o n w) : Array Value := #[x.1.1]
/-- The row at b, off holds these slices. -/
def SRow {o n : Nat} {w : World} (W : World) (b off : Nat) (l : List (SX o n w)) : Prop := ∀ k x, l[k]? = some x → W.cell? ⟨b, off + k, none⟩ = some x.1.1
theorem SRow.below {o n : Nat} {w : World} {W W' : World} {m b off : Nat} {l : List (SX o n w)} (h : SRow W b off l) (hb : Below m W W') (hlt : b < m) : SRow W' b off l := fun k x hx => (hb.cell (p := ⟨b, _, none⟩) hlt).trans (h k x hx)
/-- sv holds these slices, in a block below m; or there are none. -/
def SSl {o n : Nat} {w : World} (m : Nat) (W : World) (sv : Value) (zs : List (SX o n w)) : Prop :=
  ∃ a cap, sv = .slice a zs.length cap ∧ (zs = [] ∨ ∃ b off, a = some ⟨b, off, none⟩ ∧ b < m ∧ SRow W b off zs)
theorem SSl.below {o n : Nat} {w : World} {m k : Nat} {W W' : World} {sv : Value} {zs : List (SX o n w)} (h : SSl m W sv zs) (hb : Below k W W') (hm : m ≤ k) : SSl m W' sv zs := by
  obtain ⟨a, cap, e, h0 | ⟨b, off, ha, hl, ho⟩⟩ := h
  · exact ⟨a, cap, e, .inl h0⟩
  · exact ⟨a, cap, e, .inr ⟨b, off, ha, hl, ho.below hb (by omega)⟩⟩
/-- All octets, one behind the other. -/
def flat {o n : Nat} {w : World} (l : List (SX o n w)) : List UInt8 := (l.map fun x => x.1.2).flatten
theorem flat_snoc {o n : Nat} {w : World} (l : List (SX o n w)) (x : SX o n w) : flat (l ++ [x]) = flat l ++ x.1.2 := by simp [flat]
theorem flat_le {o n : Nat} {w : World} (l : List (SX o n w)) : (flat l).length ≤ l.length * o := by
  induction l with
  | nil => simp [flat]
  | cons x l ih =>
    have e : flat (x :: l) = x.1.2 ++ flat l := by simp [flat]
    rw [e, List.length_append, List.length_cons, Nat.add_mul, Nat.one_mul]
    have := x.2.2
    omega

set_option maxRecDepth 100000 in
set_option maxHeartbeats 4000000 in
theorem valuesS1_in (F : Fence) (n : Nat) (h7 : F.fn 104) (hro : F.round = none) (hn : 1 ≤ n) (l Bs n₀ b off cap : Nat) {m₁ n₁ : Nat} {w₁ : World} (zs : List (SX m₁ n₁ w₁)) (hreach : zs.length ≤ 140737488351232) (hb : b < n₀) (J Jx : List (SX m₁ n₁ w₁) → World → Prop)
    (W : World)
    (hY : ∀ pre x W, J pre W → zs[pre.length]? = some x → YieldAt F (n - 1) Try.prog l (sxEnc x) W fun e W' =>
      (e = .returned (.bool true) ∧ J (pre ++ [x]) W' ∧ Below n₀ W W') ∨ (e = .returned (.bool false) ∧ Jx (pre ++ [x]) W'))
    (hBs : W.cell? ⟨Bs, 0, none⟩ = some (.slice (some ⟨b, off, none⟩) zs.length cap)) (hc : SRow W b off zs) (h0 : J [] W) :
    CallsIn F n Try.prog 104 #[.func (.yield l) #[] #[], .pointer (some ⟨Bs, 0, none⟩)] W fun e W' => (∃ v, e = .returned v) ∧
      ((∃ ys, ys = zs ∧ J ys W') ∨ (∃ pre, True ∧ Jx pre W')) := by
  refine callsIn_of_wp Try.func104 rfl h7 ?_ hro
  simp only [Try.ntmps104, List.size_toArray, List.length_cons, List.length_nil, Nat.reduceAdd, Nat.reduceSub, Array.replicate_succ, Array.replicate_zero, List.push_toArray, List.append_toArray, List.nil_append, List.cons_append]
  gi_wp2
  gi_loopw [7] (fun i wr => ∃ k : Nat, k ≤ zs.length ∧ i = .int .i64 k ∧ J (zs.take k) wr ∧ Below n₀ W wr) (fun i _ => zs.length - (intOf i).toNat)
  case atStart => exact ⟨0, Nat.zero_le _, rfl, h0, Below.refl _ _⟩
  case round =>
    obtain ⟨k, hk, rfl, hJs, hnx⟩ := hrel
    by_cases hlt : k < zs.length
    · obtain ⟨x, hx⟩ : ∃ x, zs[k]? = some x := ⟨_, List.getElem?_eq_getElem hlt⟩
      have c0 := (hc.below hnx hb) k x hx
      obtain ⟨⟨xa, xc, hxe, _⟩, _⟩ := x.2
      rw [hxe] at c0
      have hk0 : (k : Int) < (zs.length : Int) := by omega
      obtain ⟨fn, tmps, assign, body, hy, hR⟩ := hY (zs.take k) x wr hJs (by rw [List.length_take, Nat.min_eq_left (Nat.le_of_lt hlt)]; exact hx)
      have ht : zs.take (k + 1) = zs.take k ++ [x] := by rw [List.take_add_one, hx]; rfl
      rw [← ht] at hR
      have hE : sxEnc x = #[.slice xa x.1.2.length xc] := by show #[x.1.1] = _; rw [hxe]
      rw [hE] at hy
      clear ht hE hxe
      have HX := Lib.hid hx
      clear hx
      generalize hL : zs.length = len at *
      have HL := Lib.hid hL
      clear hL
      gi_wp2
      refine hR.mono ?_
      rintro e W3 (⟨rfl, hJ3, hk3⟩ | ⟨rfl, hJx3⟩)
      · gi_wp2
        go_roundw
        case rel => exact ⟨k + 1, by omega, by simp, hJ3, hnx.trans hk3⟩
        case measure => simp [intOf]; omega
      · gi_wp2
        refine bodyPost_ret (results_none rfl _ _ _) rfl ?_
        exact ⟨⟨_, rfl⟩, .inr ⟨_, trivial, hJx3⟩⟩
    · obtain rfl : k = zs.length := by omega
      gi_wp2
      go_end0
      rw [List.take_length] at hJs
      exact ⟨⟨_, rfl⟩, .inl ⟨_, rfl, hJs⟩⟩

set_option maxRecDepth 100000 in
set_option maxHeartbeats 1000000 in
/-- .. at a slice of none: no round. -/
theorem valuesS1_nil_in {m₁ n₁ : Nat} {w₁ : World} (F : Fence) (n : Nat) (h7 : F.fn 104) (hro : F.round = none) (l Bs : Nat) (a : Option Addr) (cap : Nat) (J : List (SX m₁ n₁ w₁) → World → Prop) (W : World) (hBs : W.cell? ⟨Bs, 0, none⟩ = some (.slice a 0 cap)) (h0 : J [] W) :
    CallsIn F n Try.prog 104 #[.func (.yield l) #[] #[], .pointer (some ⟨Bs, 0, none⟩)] W fun e W' => (∃ v, e = .returned v) ∧ J [] W' := by
  refine callsIn_of_wp Try.func104 rfl h7 ?_ hro
  simp only [Try.ntmps104, List.size_toArray, List.length_cons, List.length_nil, Nat.reduceAdd, Nat.reduceSub, Array.replicate_succ, Array.replicate_zero, List.push_toArray, List.append_toArray, List.nil_append, List.cons_append]
  gi_wp2
  gi_loopw [7] (fun i wr => i = .int .i64 0 ∧ J [] wr) (fun _ _ => 0)
  case atStart => exact ⟨rfl, h0⟩
  case round =>
    obtain ⟨rfl, hJs⟩ := hrel
    gi_wp2
    go_end0
    exact ⟨⟨_, rfl⟩, hJs⟩

set_option maxHeartbeats 1000000 in
theorem valuesS_in (F : Fence) (n : Nat) (h5 : F.fn 100) (hro : F.round = none) (a : Option Addr) (len cap : Nat) (w : World) :
    CallsIn F n Try.prog 100 #[.slice a len cap] w fun e w' => e = .returned (.func (.func 104) #[] #[.pointer (some ⟨w.heap.size, 0, none⟩)]) ∧ w' = w.alloc (.cells #[.slice a len cap] 39) := by
  refine callsIn_of_wp Try.func100 rfl h5 ?_ hro
  simp only [Try.ntmps100, List.size_toArray, List.length_cons, List.length_nil, Nat.reduceAdd, Nat.reduceSub, Array.replicate_succ, Array.replicate_zero, List.push_toArray, List.append_toArray, List.nil_append, List.cons_append]
  gi_wp2
  go_ret
  exact ⟨rfl, rfl⟩

theorem valuesS_stops (F : Fence) (n : Nat) (h7 : F.fn 104) (hro : F.round = none) (hn : 1 ≤ n) (Bs n₀ : Nat) (sv : Value) {m₁ n₁ : Nat} {w₁ : World} (zs : List (SX m₁ n₁ w₁)) (hreach : zs.length ≤ 140737488351232) (w : World) (hn₀ : n₀ ≤ w.heap.size)
    (hk : Boxed w Bs 39 sv) (hI : SSl n₀ w sv zs) :
    SeqStopsK F n Try.prog 104 #[.pointer (some ⟨Bs, 0, none⟩)] sxEnc (Below n₀) (fun ys => ys = zs) (fun _ => True) zs.length w := fun l J Jx W hW hJ _ hY h0 => by
  have hc' := (hW.cell (p := ⟨Bs, 0, none⟩) hk.lt).trans hk.cell
  obtain ⟨a, cap, rfl, rfl | ⟨b, off, rfl, hb, hcs⟩⟩ := hI.below hW hn₀
  · exact (valuesS1_nil_in F n h7 hro l Bs a cap J W hc' h0).mono fun e W' ⟨he, hj⟩ => ⟨he, .inl ⟨_, rfl, hj⟩⟩
  · exact valuesS1_in F n h7 hro hn l Bs n₀ b off cap zs hreach hb J Jx W (fun pre x W hj hx => hY pre x W hj (List.getElem?_eq_some_iff.1 hx).1) hc' hcs h0

theorem valuesS_rel (m : Nat) (hm : 1 ≤ m) (Bs n₀ : Nat) (sv : Value) {m₁ n₁ : Nat} {w₁ : World} (zs : List (SX m₁ n₁ w₁)) (hreach : zs.length ≤ 140737488351232) (w : World) (hn₀ : n₀ ≤ w.heap.size)
    (hk : Boxed w Bs 39 sv) (hI : SSl n₀ w sv zs) :
    SeqRel Fence.wide m Try.prog 104 #[.pointer (some ⟨Bs, 0, none⟩)] zs.length (fun k x _ => ∃ y, zs[k]? = some y ∧ x = sxEnc y) (fun _ => Below n₀) w := fun l J W hW _ _ _ hY h0 => by
  have hc' := (hW.cell (p := ⟨Bs, 0, none⟩) hk.lt).trans hk.cell
  obtain ⟨a, cap, rfl, rfl | ⟨b, off, rfl, hb, hcs⟩⟩ := hI.below hW hn₀
  · exact (valuesS1_nil_in (m₁ := m₁) (n₁ := n₁) (w₁ := w₁) Fence.wide m trivial rfl l Bs a cap (fun _ => J 0) W hc' h0).mono fun e W' ⟨he, hj⟩ => ⟨he, hj⟩
  · refine (valuesS1_in Fence.wide m trivial rfl hm l Bs n₀ b off cap zs hreach hb (fun pre X => pre = zs.take pre.length ∧ J pre.length X) (fun _ _ => False) W (fun pre x W1 hj hx => ?_) hc' hcs ⟨rfl, h0⟩).mono ?_
    · refine (hY pre.length (sxEnc x) W1 (List.getElem?_eq_some_iff.1 hx).1 ⟨x, hx, rfl⟩ hj.2).mono fun e W' h => .inl ⟨h.1, ⟨?_, by rw [List.length_append]; exact h.2.1⟩, h.2.2⟩
      rw [List.length_append, List.length_singleton, List.take_add_one, hx, ← hj.1]; rfl
    · rintro e W' ⟨he, ⟨ys, rfl, _, hj⟩ | ⟨_, _, h⟩⟩
      · exact ⟨he, hj⟩
      · exact h.elim

end Go.Proofs.Ytalmoaggancdjaa

namespace Go.Proofs.Ytalmoaggancdjaa
open Go.RowKit Go.Shelf
attribute [local go_sem] Oper.semAt_some

theorem flat_prefix {o n : Nat} {w : World} (zs : List (SX o n w)) (k : Nat) : (flat (zs.take k)).length ≤ (flat zs).length := by
  have h : flat zs = flat (zs.take k) ++ flat (zs.drop k) := by
    unfold flat
    rw [← List.flatten_append, ← List.map_append, List.take_append_drop]
  rw [h, List.length_append]
  omega
theorem flat_take {o n : Nat} {w : World} (zs : List (SX o n w)) {k : Nat} {x : SX o n w} (hx : zs[k]? = some x) : flat (zs.take (k + 1)) = flat (zs.take k) ++ x.1.2 := by
  rw [List.take_add_one, hx]
  exact flat_snoc _ _

/-- Between two rounds. -/
def CatI {o n : Nat} {w₁ : World} (N : Nat) (w : World) (zs : List (SX o n w₁)) (k : Nat) (W : World) : Prop :=
  (∃ v, Boxed W N 24 v ∧ W.ownsRow N 5 1 v (flat (zs.take k)).length ((flat (zs.take k)).map bv) ∧ True) ∧ Below N w W
theorem catI_own {o n : Nat} {w₁ : World} {N : Nat} {w : World} {B : Nat} (zs : List (SX o n w₁)) (h : N ≤ w.heap.size) (hB : N ≤ B) : OwnFrom B (CatI (o := o) (n := n) (w₁ := w₁) N w zs) :=
  OwnFrom.and (Own.from (holdsRow_own N N 24 5 1 (fun k : Nat => (flat (zs.take k)).length) (fun k => (flat (zs.take k)).map bv) (fun _ _ => True)) _) (ownFrom_below h hB)

set_option maxRecDepth 100000 in
set_option maxHeartbeats 4000000 in
theorem cat_in (m : Nat) (hm : 3 ≤ m) {o : Nat} (sv : Value) (w : World) (zs : List (SX o w.heap.size w)) (hreach : zs.length ≤ 140737488351232) (ho : (flat zs).length ≤ 140737488355328) (hsv : SSl w.heap.size w sv zs) :
    CallsIn Fence.wide m Try.prog 90 #[sv] w (ByW (flat zs) w) := by
  have h1 : 1 ≤ m := by omega
  have hsv0 := hsv
  obtain ⟨a, cap, rfl, hcs⟩ := hsv
  clear hcs
  refine callsIn_of_wp_marks Try.func90 rfl trivial ?_ rfl
  simp only [Try.ntmps90, List.size_toArray, List.length_cons, List.length_nil, Nat.reduceAdd, Nat.reduceSub, Array.replicate_succ, Array.replicate_zero, List.push_toArray, List.append_toArray, List.nil_append, List.cons_append]
  obtain ⟨i0, hi, hz0, hz1, hz2⟩ := info_parts Try.infoByte
  gi_wp2_with (refine ⟨trivial, ?_⟩; gi_at_call 100; refine (valuesS_in Fence.wide (m - 1) trivial rfl _ _ _ _).mono ?_; rintro e w' ⟨rfl, rfl⟩)
  generalize hW5 : World.alloc _ _ = W5
  have k0 : Boxed W5 w.heap.size 24 (.slice none 0 0) := by rw [← hW5]; exact (Boxed.new _ _ _).alloc _
  have k2 : Boxed W5 (w.heap.size + 1) 39 (.slice a zs.length cap) := by rw [← hW5]; exact Blk.new' (vs := [_]) (by simp)
  have hB0 : Below w.heap.size w W5 := by rw [← hW5]; exact chainA (chain0 _ _) _
  have hz : W5.heap.size = w.heap.size + 2 := by rw [← hW5]; simp
  clear hW5
  refine wpIn_rangeFunc_relA rfl h1 (gf := 104) (lb := #[.pointer (some ⟨w.heap.size + 1, 0, none⟩)]) rfl trivial (enters_of Try.func104 (by kernel_rfl) rfl)
    (valuesS_rel (m - 1) (by omega) (w.heap.size + 1) w.heap.size _ zs hreach W5 (by omega) k2 (hsv0.below hB0 (Nat.le_refl _))) (fun h k => h.trans k) (fun X o o' h2 h3 h4 => belowK_b (w := w) (Nat.le_refl _) _ _ o o' (by omega) h2 h3 h4) (fun X => Below.refl _ X) (Below.refl _ _) (fun _ => rfl)
    (CatI w.heap.size w zs) (catI_own zs (Nat.le_refl _) (by omega))
    ⟨⟨_, k0, World.ownsRow_nil _ _ _ _, trivial⟩, hB0⟩ (fun _ _ _ _ _ _ h _ _ => h) ?_ ?_ ?_ ?_
  rotate_left
  · intro l k x W K _ hK
    gi_wp2
    exact hK
  · rintro r k x W hlt ⟨⟨v, kv, hown, _⟩, hB⟩ hx
    have ko := kv.cell
    have kf := kv.frozen
    have hNW : w.heap.size ≤ W.heap.size := hB.size
    have hxs := x.2.1.below hB (Nat.le_refl _)
    have hfs := flat_take zs hx
    have hle := flat_prefix zs (k + 1)
    rw [hfs, List.length_append] at hle
    have HF := Lib.hid hfs
    clear hfs hx
    obtain ⟨⟨sx, l⟩, _⟩ := x
    dsimp only at hxs hle HF
    generalize zs.take k = pre at *
    gi_wp2_with (gi_at_builtin; refine wpListIn_append_b _ rfl _ _ 24 rfl w.heap.size 5 i0 (.int .u8 0) Try.underlying24 hi hz0 hz1 hz2 rfl v (flat pre).length ((flat pre).map bv) rfl hown sx l rfl hxs (by omega) hNW ?_; intro v' w1 hown' hgrow; obtain ⟨a', c', rfl⟩ := ownsRow_slice hown'; have kv1 := kv.kept hgrow (kv.not_row (by decide) hown); have ko1 := kv1.cell; have kf1 := kv1.frozen)
    have kv3 := kv1.set (.slice a' ((flat pre).length + l.length) c')
    have hrow3 := hown'.kept (grownBy_setCell' w1 w.heap.size (.slice a' ((flat pre).length + l.length) c')) (.inr (kv1.not_row (by decide) hown').symm)
    have hsp : Spares 5 W w1 := (Spares.of_below (Below.refl _ W)).grown hgrow (fun r e => .inr (ownsRow_block hown r e))
    have hbw := ((Below.refl w.heap.size W).grown hgrow hNW (fun j hj => (World.ownsRow.lt hown j hj).1)).setCell (p := ⟨w.heap.size, 0, none⟩) (Nat.le_refl _) (.slice a' ((flat pre).length + l.length) c')
    refine ⟨(hsp.others.trans (KeepsOthers.setCell _ _ _)).from _, hbw, ⟨_, kv3, ?_, trivial⟩, hB.trans hbw⟩
    rw [HF.out, List.map_append, List.length_append]
    exact hrow3
  · rintro D W hD ⟨⟨v, kv, hown, _⟩, hB⟩ hK
    rw [List.take_length] at hown
    have ko := kv.cell
    have HZ := Lib.hid hz
    clear hz
    gi_wp2
    have hB' := hB.trans (belowK_b (w := w) (Nat.le_refl _) _ D _ (.deferred none) (by have := HZ.out; omega) hK rfl rfl)
    have hown3 := ownsRow_putObj hown (.deferred none) hK rfl
    refine ⟨by simp, .inl ⟨_, _, rfl, run_takeDeferred hK, ?_⟩⟩
    refine ⟨v, ?_, ?_⟩
    · simp [results, Try.f90, go_sem]
    · exact ⟨v, rfl, BSl.of_own hown3, hB'⟩

theorem cat_any {o : Nat} (sv : Value) (w : World) (zs : List (SX o w.heap.size w)) (hreach : zs.length ≤ 140737488351232) (ho : (flat zs).length ≤ 140737488355328) (hsv : SSl w.heap.size w sv zs) :
    Calls Try.prog 90 #[sv] w (ByW (flat zs) w) := callsIn_wide.1 (cat_in 3 (by omega) sv w zs hreach ho hsv)

/-- .. with a bound on each. -/
theorem cat_anyO {o : Nat} (sv : Value) (w : World) (zs : List (SX o w.heap.size w)) (hreach : zs.length ≤ 140737488351232) (ho : zs.length * o ≤ 140737488355328) (hsv : SSl w.heap.size w sv zs) :
    Calls Try.prog 90 #[sv] w (ByW (flat zs) w) := cat_any sv w zs hreach (Nat.le_trans (flat_le zs) ho) hsv

end Go.Proofs.Ytalmoaggancdjaa
