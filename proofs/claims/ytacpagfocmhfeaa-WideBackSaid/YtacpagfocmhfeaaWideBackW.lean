/-
  The walk of WideBack: it answers true at every pair of wide numbers.
-/
import Derived.Test.YtacpagfocmhfeaaWideAlive
namespace Go.Proofs.Ytacpagfocmhfeaa
open Go.RowKit Go.Shelf

set_option maxRecDepth 100000 in
set_option maxHeartbeats 4000000 in
theorem back_any {a0 a1 a2 a3 b0 b1 b2 b3 : Nat} (ha : Ok4 a0 a1 a2 a3) (hb : Ok4 b0 b1 b2 b3) (w : World) :
    Calls Try.prog 5 #[wv a0 a1 a2 a3, wv b0 b1 b2 b3] w fun e W' => e = .returned (.bool true) ∧ Below w.heap.size w W' := by
  have heq := run_equalIn_wide
  have hrefl := wEq_refl
  go_enter Try.func5, Try.ntmps5
  go_wp2_with fail
  refine (alive_any _).mono ?_
  rintro e w1 ⟨rfl, hb1⟩
  have kA : BlkW w1 w.heap.size a0 a1 a2 a3 := ((Blk.new' rfl).alloc _).below hb1 (by simp; omega)
  have kB : BlkW w1 (w.heap.size + 1) b0 b1 b2 b3 := (Blk.new' (by simp)).below hb1 (by simp)
  have d1 := chain (chainA (chain0 w _) _) hb1
  clear hb1
  obtain ⟨x0, x1, x2, x3⟩ := kA.c4
  obtain ⟨y0, y1, y2, y3⟩ := kB.c4
  go_wp2_with fail
  refine (add_any ha hb _).mono ?_
  clear x0 x1 x2 x3 y0 y1 y2 y3
  rintro e w2 (⟨hlt, s0, s1, s2, s3, hs, hv, rfl, hb2⟩ | ⟨hge, rfl, hb2⟩)
  · replace kA := kA.below hb2 kA.lt
    replace kB := kB.below hb2 kB.lt
    have d2 := chain d1 hb2
    clear hb2 d1
    obtain ⟨x0, x1, x2, x3⟩ := kA.c4
    obtain ⟨y0, y1, y2, y3⟩ := kB.c4
    have lA := kA.lt
    have lB := kB.lt
    have HV := Lib.hid hv
    clear hv
    go_wp2_with fail
    refine (add_any hb ha _).mono ?_
    clear x0 x1 x2 x3 y0 y1 y2 y3
    rintro e w3 (⟨_, t0, t1, t2, t3, ht, hv, rfl, hb3⟩ | ⟨hge, rfl, hb3⟩)
    case inr => have := HV.out; omega
    obtain ⟨rfl, rfl, rfl, rfl⟩ := val_inj ht hs (by rw [hv, HV.out]; omega)
    clear hv ht
    replace kA := (kA.alloc _).below hb3 (by simp; omega)
    replace kB := (kB.alloc _).below hb3 (by simp; omega)
    have kS : BlkW w3 w2.heap.size t0 t1 t2 t3 := (Blk.new' rfl).below hb3 (by simp)
    have d3 := chain (chainA d2 _) hb3
    clear hb3 d2
    obtain ⟨x0, x1, x2, x3⟩ := kA.c4
    obtain ⟨y0, y1, y2, y3⟩ := kB.c4
    obtain ⟨z0, z1, z2, z3⟩ := kS.c4
    replace lA := kA.lt
    replace lB := kB.lt
    have lS := kS.lt
    go_wp2_with fail
    refine (sub_any hs hb _).mono ?_
    clear x0 x1 x2 x3 y0 y1 y2 y3 z0 z1 z2 z3
    rintro e w4 (⟨_, d0, d1', d2', d3', hd, hv, rfl, hb4⟩ | ⟨hlt', rfl, hb4⟩)
    case inr => have := HV.out; omega
    obtain ⟨rfl, rfl, rfl, rfl⟩ := val_inj hd ha (by rw [hv, HV.out]; omega)
    clear hv hd
    replace kA := (kA.alloc _).below hb4 (by simp; omega)
    have d4 := chain (chainA d3 _) hb4
    clear hb4 d3
    obtain ⟨x0, x1, x2, x3⟩ := kA.c4
    replace lA := kA.lt
    go_wp2_with fail
    go_ret
    exact ⟨rfl, chainA d4 _⟩
  · replace kA := kA.below hb2 kA.lt
    replace kB := kB.below hb2 kB.lt
    have d2 := chain d1 hb2
    clear hb2 d1
    obtain ⟨x0, x1, x2, x3⟩ := kA.c4
    obtain ⟨y0, y1, y2, y3⟩ := kB.c4
    have lA := kA.lt
    have lB := kB.lt
    have HV := Lib.hid hge
    clear hge
    go_wp2_with fail
    refine (add_any hb ha _).mono ?_
    clear x0 x1 x2 x3 y0 y1 y2 y3
    rintro e w3 (⟨hlt, _⟩ | ⟨_, rfl, hb3⟩)
    case inl => have := HV.out; omega
    have kS : BlkW w3 w2.heap.size 0 0 0 0 := (Blk.new' rfl).below hb3 (by simp)
    have d3 := chain (chainA d2 _) hb3
    clear hb3 d2
    obtain ⟨z0, z1, z2, z3⟩ := kS.c4
    have lS := kS.lt
    go_wp2_with fail
    go_ret
    exact ⟨rfl, chainA d3 _⟩

end Go.Proofs.Ytacpagfocmhfeaa
