/-
  The walk of WideDivides: it answers true at every wide number and every word.
-/
import Derived.Test.YteimghegjdjjfaaWideAlive
import Derived.Test.YteimghegjdjjfaaWideDiv
import Derived.Test.YteimghegjdjjfaaRefAdd
import Derived.Test.YteimghegjdjjfaaRefMul
namespace Go.Proofs.Yteimghegjdjjfaa
open Go.RowKit Go.Shelf

set_option maxRecDepth 100000 in
set_option maxHeartbeats 4000000 in
theorem dividesZero_any {a0 a1 a2 a3 : Nat} (w : World) :
    Calls Try.prog 4 #[wv a0 a1 a2 a3, .int .u64 0] w fun e W' => e = .returned (.bool true) ∧ Below w.heap.size w W' := by
  have heq := run_equalIn_wide
  have hrefl := wEq_refl
  go_enter Try.func4, Try.ntmps4
  go_wp2_with fail
  refine (alive_any _).mono ?_
  rintro e w1 ⟨rfl, hb1⟩
  have kA : BlkW w1 w.heap.size a0 a1 a2 a3 := (Blk.new' rfl).below hb1 (by simp)
  have d1 := chain (chain0 w _) hb1
  clear hb1
  obtain ⟨x0, x1, x2, x3⟩ := kA.c4
  go_wp2_with fail
  refine (divZero_any _ _ _ _ _).mono ?_
  clear x0 x1 x2 x3
  rintro e w2 ⟨rfl, hb2⟩
  have d2 := chain d1 hb2
  clear hb2 d1
  have lA := kA.lt
  go_wp2
  go_ret
  exact ⟨rfl, chainA d2 _⟩

set_option maxRecDepth 100000 in
set_option maxHeartbeats 4000000 in
theorem dividesPos_any {a0 a1 a2 a3 m : Nat} (ha : Ok4 a0 a1 a2 a3) (hm : m < M) (hp : 0 < m) (w : World) :
    Calls Try.prog 4 #[wv a0 a1 a2 a3, .int .u64 (m : Int)] w fun e W' => e = .returned (.bool true) ∧ Below w.heap.size w W' := by
  have heq := run_equalIn_wide
  have hrefl := wEq_refl
  have hm0 : ((m : Int) == 0) = false := beq_eq_false_iff_ne.mpr (by omega)
  go_enter Try.func4, Try.ntmps4
  go_wp2_with fail
  refine (alive_any _).mono ?_
  rintro e w1 ⟨rfl, hb1⟩
  have kA : BlkW w1 w.heap.size a0 a1 a2 a3 := (Blk.new' rfl).below hb1 (by simp)
  have d1 := chain (chain0 w _) hb1
  clear hb1
  obtain ⟨x0, x1, x2, x3⟩ := kA.c4
  go_wp2_with fail
  refine (div_any ha hm hp _).mono ?_
  clear x0 x1 x2 x3
  rintro e w2 ⟨q0, q1, q2, q3, r, hq, hr, hv, rfl, hb2⟩
  replace kA := kA.below hb2 kA.lt
  have d2 := chain d1 hb2
  clear hb2 d1
  have lA := kA.lt
  have hrm : (r : Int) < (m : Int) := by omega
  have HV := Lib.hid hv
  clear hv
  go_wp2_with fail
  refine (refMul_any hq hm _).mono ?_
  have hA := val_lt ha
  rintro e w3 (⟨_, p0, p1, p2, p3, hp4, hpv, rfl, hb3⟩ | ⟨hge, _⟩)
  case inr => have := HV.out; omega
  replace kA := (kA.alloc _).below hb3 (by simp; omega)
  have d3 := chain (chainA d2 _) hb3
  clear hb3 d2
  replace lA := kA.lt
  have HP := Lib.hid hpv
  clear hpv hA
  go_wp2_with fail
  have hr1 : Ok4 r 0 0 0 := Ok4.one (by omega)
  refine (refAdd_any hp4 hr1 _).mono ?_
  have hA := val_lt ha
  have hs : val p0 p1 p2 p3 + val r 0 0 0 = val a0 a1 a2 a3 := by rw [HP.out, val_one]; exact HV.out
  rintro e w4 (⟨_, s0, s1, s2, s3, hs4, hsv, rfl, hb4⟩ | ⟨hge, _⟩)
  case inr => omega
  obtain ⟨rfl, rfl, rfl, rfl⟩ := val_inj hs4 ha (by rw [hsv, hs])
  clear hsv hs hA hs4
  replace kA := (kA.alloc _).below hb4 (by simp; omega)
  have d4 := chain (chainA d3 _) hb4
  clear hb4 d3
  obtain ⟨x0, x1, x2, x3⟩ := kA.c4
  replace lA := kA.lt
  go_wp2
  go_ret
  exact ⟨rfl, chainA d4 _⟩
end Go.Proofs.Yteimghegjdjjfaa
