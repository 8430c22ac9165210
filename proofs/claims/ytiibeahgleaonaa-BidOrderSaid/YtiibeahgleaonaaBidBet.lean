/-
  Which bid is better: bid's Better.
-/
import Derived.Test.YtiibeahgleaonaaBidM
import Derived.Test.YtiibeahgleaonaaWideCmp
import Derived.Test.YtiibeahgleaonaaBlkC
import Derived.Outline
namespace Go.Proofs.Ytiibeahgleaonaa
open Go.RowKit Go.Shelf

set_option maxRecDepth 100000 in
set_option maxHeartbeats 2000000 in
theorem better_any (a b : Bd) (ha : OkB a) (hb : OkB b) (w : World) :
    Calls Try.prog 18 #[bdv a, bdv b] w fun e W' => e = .returned (.bool (betB a b)) ∧ Below w.heap.size w W' := by
  have HV := Lib.hid (fun W => cmp_any ha.b hb.b W)
  have kA := (Blk.new w 51 (bdc a)).alloc (.cells (bdc b).toArray 51)
  have kB : Blk ((w.alloc (.cells (bdc a).toArray 51)).alloc (.cells (bdc b).toArray 51)) (w.heap.size + 1) 51 (bdc b) := Blk.new' (by simp)
  have hB := chainA (chain0 w (.cells (bdc a).toArray 51)) (.cells (bdc b).toArray 51)
  rcases Nat.lt_trichotomy (val a.b0 a.b1 a.b2 a.b3) (val b.b0 b.b1 b.b2 b.b3) with h | h | h
  · have hc : cmpN (val a.b0 a.b1 a.b2 a.b3) (val b.b0 b.b1 b.b2 b.b3) = -1 := if_pos h
    have HX : Hid (betB a b = false) := Lib.hid (decide_eq_false (by omega))
    rw [hc] at HV
    clear h hc
    go_enter Try.func18, Try.ntmps18
    go_wp2_with (go_at_call 39; refine (HV.out _).mono ?_; rintro e W1 ⟨rfl, hb1⟩; replace hB := chain hB hb1)
    go_ret
    exact ⟨by rw [HX.out]; rfl, hB⟩
  · have hc : cmpN (val a.b0 a.b1 a.b2 a.b3) (val b.b0 b.b1 b.b2 b.b3) = 0 := by unfold cmpN; rw [if_neg (by omega), if_neg (by omega)]
    rw [hc] at HV
    by_cases hr : a.ro < b.ro
    · have HX : Hid (betB a b = true) := Lib.hid (decide_eq_true (Or.inr ⟨h, hr⟩))
      clear h hc
      go_enter Try.func18, Try.ntmps18
      go_wp2_with (go_at_call 39; refine (HV.out _).mono ?_; rintro e W1 ⟨rfl, hb1⟩; replace hB := chain hB hb1; replace kA := kA.below hb1 kA.lt; replace kB := kB.below hb1 kB.lt; have ca := (kA.cell 0).trans rfl; have cb := (kB.cell 0).trans rfl)
      go_ret
      exact ⟨by rw [HX.out]; rfl, hB⟩
    · have HX : Hid (betB a b = false) := Lib.hid (decide_eq_false (by omega))
      have hd : decide (a.ro < b.ro) = false := by simpa using hr
      clear h hc
      go_enter Try.func18, Try.ntmps18
      go_wp2_with (go_at_call 39; refine (HV.out _).mono ?_; rintro e W1 ⟨rfl, hb1⟩; replace hB := chain hB hb1; replace kA := kA.below hb1 kA.lt; replace kB := kB.below hb1 kB.lt; have ca := (kA.cell 0).trans rfl; have cb := (kB.cell 0).trans rfl)
      go_ret
      exact ⟨by rw [HX.out]; rfl, hB⟩
  · have hc : cmpN (val a.b0 a.b1 a.b2 a.b3) (val b.b0 b.b1 b.b2 b.b3) = 1 := by unfold cmpN; rw [if_neg (by omega), if_pos h]
    have HX : Hid (betB a b = true) := Lib.hid (decide_eq_true (Or.inl h))
    rw [hc] at HV
    clear h hc
    go_enter Try.func18, Try.ntmps18
    go_wp2_with (go_at_call 39; refine (HV.out _).mono ?_; rintro e W1 ⟨rfl, hb1⟩; replace hB := chain hB hb1)
    go_ret
    exact ⟨by rw [HX.out]; rfl, hB⟩
end Go.Proofs.Ytiibeahgleaonaa
