/-
  More than was asked for may not be.
-/
import Derived.Test.YtiibeahgleaonaaBidChk
namespace Go.Proofs.Ytiibeahgleaonaa
open Go.RowKit Go.Shelf

theorem num8_any (x : Int) (w : World) : Calls Try.prog 10 #[.int .i64 x] w fun e W' => e = .returned (.int .i64 x) ∧ w = W' := by
  go_enter Try.func10, Try.ntmps10
  go_wp2
  go_ret
  exact ⟨rfl, rfl⟩
def liveA : Ak := ⟨0, 0, 0, 0, 5, 0, 0, 0, ⟨#[120]⟩⟩
def liveB : Bd := ⟨2, liveA, 6, 0, 0, 0, 0, ⟨#[]⟩⟩
theorem liveA_may : maybeA liveA := ⟨⟨by decide, by decide⟩, ⟨by decide, by decide⟩, ⟨by decide, by decide⟩, ⟨by decide, by decide⟩, by decide, by decide, by decide⟩
theorem liveB_not : ¬ maybeB liveB := fun h => absurd h.2.2.2.1 (by simp [liveB, liveA, val])
theorem ok4_little {n : Nat} (h : n < 100) : Ok4 n 0 0 0 := ⟨by unfold M; omega, by unfold M; omega, by unfold M; omega, by unfold M; omega⟩

set_option maxRecDepth 100000 in
set_option maxHeartbeats 2000000 in
theorem alive8_any (w : World) : Calls Try.prog 5 #[] w fun e W' => e = .returned (.bool true) ∧ Below w.heap.size w W' := by
  have H0 : Hid (∀ W, Calls Try.prog 16 #[akv liveA] W fun e W' => e = .returned (.int .i64 0) ∧ Below W.heap.size W W') := Lib.hid fun W => by
    have := checkAsk_any liveA W
    rw [errA_zero liveA_may] at this
    exact this
  have H1 : Hid (∀ W, Calls Try.prog 19 #[bdv liveB] W fun e W' => e = .returned (.int .i64 39) ∧ Below W.heap.size W W') := Lib.hid fun W => by
    have := check_any liveB ⟨ok4_little (by decide), ok4_little (by decide)⟩ W
    rw [errB_bad liveB_not] at this
    exact this
  have kB := Blk.new w 26 [.int .i64 0, .int .i64 0, .int .i64 0, .int .i64 0, .int .u64 5, .int .u64 0, .int .u64 0, .int .u64 0, .string ⟨#[120]⟩]
  have hB := chain0 w (.cells #[.int .i64 0, .int .i64 0, .int .i64 0, .int .i64 0, .int .u64 5, .int .u64 0, .int .u64 0, .int .u64 0, .string ⟨#[120]⟩] 26)
  go_enter Try.func5, Try.ntmps5
  go_wp2_with (first
    | (go_at_call 16; refine (H0.out _).mono ?_; rintro e W1 ⟨rfl, hb⟩; replace kB := kB.below hb kB.lt; replace hB := chain hB hb; obtain ⟨c0, c1, c2, c3, c4, c5, c6, c7, c8⟩ := Blk.c9 kB; clear hb)
    | (go_at_call 19; refine (H1.out _).mono ?_; rintro e W2 ⟨rfl, hb2⟩; replace hB := chain hB hb2))
  go_ret
  exact ⟨rfl, hB⟩
end Go.Proofs.Ytiibeahgleaonaa
