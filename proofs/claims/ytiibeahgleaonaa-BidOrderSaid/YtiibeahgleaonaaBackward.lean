/-
  slices.Backward over a number's four words: each with its place, the highest first.
-/
import Derived.Test.YtiibeahgleaonaaBlkW
import Derived.Test.YtiibeahgleaonaaBase
import Derived.Test.YtiibeahgleaonaaKeep2
namespace Go.Proofs.Ytiibeahgleaonaa
open Go.RowKit Go.Shelf
attribute [local go_sem] Oper.semAt_some

theorem downs_at {a0 a1 a2 a3 : Nat} (ha : Ok4 a0 a1 a2 a3) {k : Nat} (hk : k < 4) : (downs ha)[k]? = some (pw (3 - k) (word a0 a1 a2 a3 (3 - k)) (by omega) (word_lt ha.h0 ha.h1 ha.h2 ha.h3 _)) := by
  have : k = 0 ∨ k = 1 ∨ k = 2 ∨ k = 3 := by omega
  rcases this with rfl | rfl | rfl | rfl <;> rfl
set_option maxRecDepth 100000 in
set_option maxHeartbeats 4000000 in
theorem backward1_stops (F : Fence) (m : Nat) (h : F.fn 71) (hro : F.round = none) (hm : 1 ≤ m) {a0 a1 a2 a3 : Nat} (ha : Ok4 a0 a1 a2 a3) (Ba Bs : Nat) (w : World) (hb : BlkW w Ba a0 a1 a2 a3) (hs : Boxed w Bs 112 (.slice (some ⟨Ba, 0, none⟩) 4 4)) :
    SeqStopsK F m Try.prog 71 #[.pointer (some ⟨Bs, 0, none⟩)] pwEnc (KeepB2 Ba Bs) (fun ys => ys = downs ha) (fun _ => True) 4 w := fun l J Jx W hW _ _ hY h0 => by
  have hb' : Blk W Ba 24 (ws (word a0 a1 a2 a3)) := hb.below hW hb.lt
  have hs' : Boxed W Bs 112 (.slice (some ⟨Ba, 0, none⟩) 4 4) := (hW.block Bs hs.lt).trans hs
  clear hb hs
  have hsc := hs'.cell
  refine callsIn_of_wp Try.func71 rfl h ?_ hro
  simp only [Try.ntmps71, List.size_toArray, List.length_cons, List.length_nil, Nat.reduceAdd, Nat.reduceSub, Array.replicate_succ, Array.replicate_zero, List.push_toArray, List.append_toArray, List.nil_append, List.cons_append]
  gi_wp2
  clear hsc
  gi_loopw [3] (fun i wr => ∃ k : Nat, k ≤ 4 ∧ i = .int .i64 (3 - (k : Int)) ∧ Blk wr Ba 24 (ws (word a0 a1 a2 a3)) ∧ Boxed wr Bs 112 (.slice (some ⟨Ba, 0, none⟩) 4 4) ∧ J ((downs ha).take k) wr) (fun i _ => ((intOf i) + 1).toNat)
  case atStart => exact ⟨0, by omega, rfl, hb', hs', h0⟩
  case round =>
    obtain ⟨k, hk, rfl, hbr, hsr, hJs⟩ := hrel
    by_cases hlt : k < 4
    · have hdk := downs_at ha hlt
      obtain ⟨fn, tmps, assign, body, hy, hR⟩ := hY _ (pw (3 - k) (word a0 a1 a2 a3 (3 - k)) (by omega) (word_lt ha.h0 ha.h1 ha.h2 ha.h3 _)) wr hJs (by simp [downs]; omega)
      have ht : (downs ha).take (k + 1) = (downs ha).take k ++ [pw (3 - k) (word a0 a1 a2 a3 (3 - k)) (by omega) (word_lt ha.h0 ha.h1 ha.h2 ha.h3 _)] := by rw [List.take_add_one, hdk]; rfl
      rw [← ht] at hR
      clear ht hdk
      have hcx := hbr.cell (3 - k)
      rw [ws_at _ (by omega)] at hcx
      have hp : (3 : Int) - k = ((3 - k : Nat) : Int) := by omega
      have hpl : 3 - k ≤ 3 := by omega
      change (Instr.yield l #[.int .i64 ((3 - k : Nat) : Int), .int .u64 ((word a0 a1 a2 a3 (3 - k) : Nat) : Int)]).run _ _ = _ at hy
      rw [hp]
      have HP := Lib.hid hp
      clear hp
      generalize word a0 a1 a2 a3 (3 - k) = x at *
      generalize 3 - k = p at *
      have hsc := hsr.cell
      gi_wp2
      refine hR.mono ?_
      clear hy
      rintro e W3 (⟨rfl, hJ3, hk3⟩ | ⟨rfl, hJx3⟩)
      · have hb3 : Blk W3 Ba 24 (ws (word a0 a1 a2 a3)) := hk3.1.trans hbr
        have hs3 : Boxed W3 Bs 112 (.slice (some ⟨Ba, 0, none⟩) 4 4) := hk3.2.trans hsr
        clear hcx hsc
        gi_wp2
        have hq : (3 : Int) - ((k + 1 : Nat) : Int) = (p : Int) - 1 := by have := HP.out; omega
        go_roundw
        case rel => exact ⟨k + 1, by omega, by rw [hq], hb3, hs3, hJ3⟩
        case measure => simp [intOf]
      · gi_wp2
        refine bodyPost_ret (results_none rfl _ _ _) rfl ?_
        exact ⟨⟨_, rfl⟩, .inr ⟨_, trivial, hJx3⟩⟩
    · obtain rfl : k = 4 := by omega
      gi_wp2
      go_end0
      exact ⟨⟨_, rfl⟩, .inl ⟨_, rfl, hJs⟩⟩

set_option maxHeartbeats 1000000 in
theorem backward_in (F : Fence) (m : Nat) (h : F.fn 61) (hro : F.round = none) (sv : Value) (hsv : ∃ a l c, sv = .slice a l c) (w : World) :
    CallsIn F m Try.prog 61 #[sv] w fun e w' => e = .returned (.func (.func 71) #[] #[.pointer (some ⟨w.heap.size, 0, none⟩)]) ∧ w' = w.alloc (.cells #[sv] 112) := by
  obtain ⟨a, l, c, rfl⟩ := hsv
  refine callsIn_of_wp Try.func61 rfl h ?_ hro
  simp only [Try.ntmps61, List.size_toArray, List.length_cons, List.length_nil, Nat.reduceAdd, Nat.reduceSub, Array.replicate_succ, Array.replicate_zero, List.push_toArray, List.append_toArray, List.nil_append, List.cons_append]
  gi_wp2
  go_ret
  exact ⟨rfl, rfl⟩

end Go.Proofs.Ytiibeahgleaonaa
