/-
  The walk of BidOrder: of any three none is better than itself, and what is better than one that is better than a third is better than that.
-/
import Derived.Test.YtiibeahgleaonaaBidBet
import Derived.Test.YtiibeahgleaonaaBidAlive
import Derived.Test.YtiibeahgleaonaaBidLoad
namespace Go.Proofs.Ytiibeahgleaonaa
open Go.RowKit Go.Shelf

set_option maxRecDepth 100000 in
set_option maxHeartbeats 4000000 in
theorem bidOrder_any (a b c : Bd) (ha : OkB a) (hb : OkB b) (hc : OkB c) (w : World) :
    Calls Try.prog 4 #[bdv a, bdv b, bdv c] w fun e W' => e = .returned (.bool true) ∧ Below w.heap.size w W' := by
  have hAA := better_any a a ha ha
  have hAB := better_any a b ha hb
  have hBA := better_any b a hb ha
  have hBC := better_any b c hb hc
  have hAC := better_any a c ha hc
  rw [betB_self] at hAA
  have H1 : Hid (betB a b = true → betB b a = false) := Lib.hid betB_asym
  have H2 : Hid (betB a b = true → betB b c = true → betB a c = true) := Lib.hid betB_trans
  generalize betB a b = ab at *
  generalize betB b a = ba at *
  generalize betB b c = bc at *
  generalize betB a c = ac at *
  have HAA := Lib.hid hAA
  clear hAA
  have kA := ((Blk.new w 51 (bdc a)).alloc (.cells (bdc b).toArray 51)).alloc (.cells (bdc c).toArray 51)
  have kB : Blk (((w.alloc (.cells (bdc a).toArray 51)).alloc (.cells (bdc b).toArray 51)).alloc (.cells (bdc c).toArray 51)) (w.heap.size + 1) 51 (bdc b) := (Blk.new' (by simp)).alloc _
  have kC : Blk (((w.alloc (.cells (bdc a).toArray 51)).alloc (.cells (bdc b).toArray 51)).alloc (.cells (bdc c).toArray 51)) (w.heap.size + 2) 51 (bdc c) := Blk.new' (by simp)
  have hB := chainA (chainA (chain0 w (.cells (bdc a).toArray 51)) (.cells (bdc b).toArray 51)) (.cells (bdc c).toArray 51)
  cases ab with
  | false =>
    have HAB := Lib.hid hAB
    clear hAB hBA hBC hAC H1 H2
    go_enter Try.func4, Try.ntmps4
    go_wp2_with (first
      | (refine wpList_loadIf 51 (.tmp 3) rfl _ rfl rfl (bdv a) (load_bid kA) ?_)
      | (refine wpList_loadIf 51 (.tmp 4) rfl _ rfl rfl (bdv b) (load_bid kB) ?_)
      | (refine wpList_loadIf 51 (.tmp 5) rfl _ rfl rfl (bdv c) (load_bid kC) ?_)
      | (go_at_call 5; (with_reducible refine (alive8_any _).mono ?_); rintro e W1 ⟨rfl, hb⟩; skip; replace kA := kA.below hb kA.lt; replace kB := kB.below hb kB.lt; replace kC := kC.below hb kC.lt; replace hB := chain hB hb; skip; clear hb)
      | (go_at_call 18; (with_reducible refine (HAA.out _).mono ?_); rintro e W1 ⟨rfl, hb⟩; skip; replace kA := kA.below hb kA.lt; replace kB := kB.below hb kB.lt; replace kC := kC.below hb kC.lt; replace hB := chain hB hb; skip; clear hb)
      | (go_at_call 18; (with_reducible refine (HAB.out _).mono ?_); rintro e W1 ⟨rfl, hb⟩; skip; replace kA := kA.below hb kA.lt; replace kB := kB.below hb kB.lt; replace kC := kC.below hb kC.lt; replace hB := chain hB hb; skip; clear hb))
    go_ret
    exact ⟨rfl, hB⟩
  | true =>
    obtain rfl := H1.out rfl
    have HAB := Lib.hid hAB
    have HBA := Lib.hid hBA
    cases bc with
    | false =>
      have HBC := Lib.hid hBC
      clear hAB hBA hBC hAC H1 H2
      go_enter Try.func4, Try.ntmps4
      go_wp2_with (first
        | (refine wpList_loadIf 51 (.tmp 3) rfl _ rfl rfl (bdv a) (load_bid kA) ?_)
        | (refine wpList_loadIf 51 (.tmp 4) rfl _ rfl rfl (bdv b) (load_bid kB) ?_)
        | (refine wpList_loadIf 51 (.tmp 5) rfl _ rfl rfl (bdv c) (load_bid kC) ?_)
        | (go_at_call 5; (with_reducible refine (alive8_any _).mono ?_); rintro e W1 ⟨rfl, hb⟩; skip; replace kA := kA.below hb kA.lt; replace kB := kB.below hb kB.lt; replace kC := kC.below hb kC.lt; replace hB := chain hB hb; skip; clear hb)
        | (go_at_call 18; (with_reducible refine (HAA.out _).mono ?_); rintro e W1 ⟨rfl, hb⟩; skip; replace kA := kA.below hb kA.lt; replace kB := kB.below hb kB.lt; replace kC := kC.below hb kC.lt; replace hB := chain hB hb; skip; clear hb)
        | (go_at_call 18; (with_reducible refine (HAB.out _).mono ?_); rintro e W1 ⟨rfl, hb⟩; skip; replace kA := kA.below hb kA.lt; replace kB := kB.below hb kB.lt; replace kC := kC.below hb kC.lt; replace hB := chain hB hb; skip; clear hb)
        | (go_at_call 18; (with_reducible refine (HBA.out _).mono ?_); rintro e W1 ⟨rfl, hb⟩; skip; replace kA := kA.below hb kA.lt; replace kB := kB.below hb kB.lt; replace kC := kC.below hb kC.lt; replace hB := chain hB hb; skip; clear hb)
        | (go_at_call 18; (with_reducible refine (HBC.out _).mono ?_); rintro e W1 ⟨rfl, hb⟩; skip; replace kA := kA.below hb kA.lt; replace kB := kB.below hb kB.lt; replace kC := kC.below hb kC.lt; replace hB := chain hB hb; skip; clear hb))
      go_ret
      exact ⟨rfl, hB⟩
    | true =>
      obtain rfl := H2.out rfl rfl
      have HBC := Lib.hid hBC
      have HAC := Lib.hid hAC
      clear hAB hBA hBC hAC H1 H2
      go_enter Try.func4, Try.ntmps4
      go_wp2_with (first
        | (refine wpList_loadIf 51 (.tmp 3) rfl _ rfl rfl (bdv a) (load_bid kA) ?_)
        | (refine wpList_loadIf 51 (.tmp 4) rfl _ rfl rfl (bdv b) (load_bid kB) ?_)
        | (refine wpList_loadIf 51 (.tmp 5) rfl _ rfl rfl (bdv c) (load_bid kC) ?_)
        | (go_at_call 5; (with_reducible refine (alive8_any _).mono ?_); rintro e W1 ⟨rfl, hb⟩; skip; replace kA := kA.below hb kA.lt; replace kB := kB.below hb kB.lt; replace kC := kC.below hb kC.lt; replace hB := chain hB hb; skip; clear hb)
        | (go_at_call 18; (with_reducible refine (HAA.out _).mono ?_); rintro e W1 ⟨rfl, hb⟩; skip; replace kA := kA.below hb kA.lt; replace kB := kB.below hb kB.lt; replace kC := kC.below hb kC.lt; replace hB := chain hB hb; skip; clear hb)
        | (go_at_call 18; (with_reducible refine (HAB.out _).mono ?_); rintro e W1 ⟨rfl, hb⟩; skip; replace kA := kA.below hb kA.lt; replace kB := kB.below hb kB.lt; replace kC := kC.below hb kC.lt; replace hB := chain hB hb; skip; clear hb)
        | (go_at_call 18; (with_reducible refine (HBA.out _).mono ?_); rintro e W1 ⟨rfl, hb⟩; skip; replace kA := kA.below hb kA.lt; replace kB := kB.below hb kB.lt; replace kC := kC.below hb kC.lt; replace hB := chain hB hb; skip; clear hb)
        | (go_at_call 18; (with_reducible refine (HBC.out _).mono ?_); rintro e W1 ⟨rfl, hb⟩; skip; replace kA := kA.below hb kA.lt; replace kB := kB.below hb kB.lt; replace kC := kC.below hb kC.lt; replace hB := chain hB hb; skip; clear hb)
        | (go_at_call 18; (with_reducible refine (HAC.out _).mono ?_); rintro e W1 ⟨rfl, hb⟩; skip; replace kA := kA.below hb kA.lt; replace kB := kB.below hb kB.lt; replace kC := kC.below hb kC.lt; replace hB := chain hB hb; skip; clear hb))
      go_ret
      exact ⟨rfl, hB⟩
end Go.Proofs.Ytiibeahgleaonaa
