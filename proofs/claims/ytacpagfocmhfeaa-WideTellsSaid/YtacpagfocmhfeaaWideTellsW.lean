/-
  The walk of WideTells: it answers true at every two wide numbers and every word.
-/
import Derived.Test.YtacpagfocmhfeaaWideAlive
import Derived.Test.YtacpagfocmhfeaaWideMul
import Derived.Test.YtacpagfocmhfeaaWideCmp
import Derived.Test.YtacpagfocmhfeaaRefAdd
import Derived.Test.YtacpagfocmhfeaaRefSub
import Derived.Test.YtacpagfocmhfeaaRefMul
import Derived.Test.YtacpagfocmhfeaaRefBits
namespace Go.Proofs.Ytacpagfocmhfeaa
open Go.RowKit Go.Shelf

theorem mul_any {a0 a1 a2 a3 m : Nat} (ha : Ok4 a0 a1 a2 a3) (hm : m < M) (w : World) :
    Calls Try.prog 9 #[wv a0 a1 a2 a3, .int .u64 (m : Int)] w (AddW (val a0 a1 a2 a3 * m) w) := callsIn_wide.1 (mul_in 3 (by omega) ha hm w)

/-- One answer. -/
theorem addW_det (N : Nat) : ∃ (s0 s1 s2 s3 : Nat) (p : Bool), ∀ w e W', AddW N w e W' → e = .returned (.tuple #[wv s0 s1 s2 s3, .bool p]) ∧ Below w.heap.size w W' := by
  by_cases h : N < M4
  · refine ⟨N % M, N / M % M, N / M / M % M, N / M / M / M % M, true, ?_⟩
    have hq : Ok4 (N % M) (N / M % M) (N / M / M % M) (N / M / M / M % M) := ⟨Nat.mod_lt _ M_pos, Nat.mod_lt _ M_pos, Nat.mod_lt _ M_pos, Nat.mod_lt _ M_pos⟩
    have hv : val (N % M) (N / M % M) (N / M / M % M) (N / M / M / M % M) = N := by
      unfold val M4 M at *
      omega
    rintro w e W' (⟨_, s0, s1, s2, s3, hs, he, rfl, hb⟩ | ⟨hge, _⟩)
    · obtain ⟨rfl, rfl, rfl, rfl⟩ := val_inj hs hq (by rw [he, hv])
      exact ⟨rfl, hb⟩
    · omega
  · refine ⟨0, 0, 0, 0, false, ?_⟩
    rintro w e W' (⟨hlt, _⟩ | ⟨_, rfl, hb⟩)
    · omega
    · exact ⟨rfl, hb⟩
theorem subW_det (A B : Nat) : ∃ (s0 s1 s2 s3 : Nat) (p : Bool), ∀ w e W', A < M4 → SubW A B w e W' → e = .returned (.tuple #[wv s0 s1 s2 s3, .bool p]) ∧ Below w.heap.size w W' := by
  obtain ⟨s0, s1, s2, s3, p, h⟩ := addW_det (A - B)
  by_cases hl : B ≤ A
  · refine ⟨s0, s1, s2, s3, p, ?_⟩
    rintro w e W' hA (⟨_, t0, t1, t2, t3, ht, he, h1, hb⟩ | ⟨hge, _⟩)
    · exact h w e W' (.inl ⟨by omega, t0, t1, t2, t3, ht, he, h1, hb⟩)
    · omega
  · refine ⟨0, 0, 0, 0, false, ?_⟩
    rintro w e W' _ (⟨hlt, _⟩ | ⟨_, rfl, hb⟩)
    · omega
    · exact ⟨rfl, hb⟩

theorem four_below {n B : Nat} {W W' : World} {v0 v1 v2 v3 : Value} (h : Below n W W') (hl : B < n) (c0 : W.cell? ⟨B, 0, none⟩ = some v0) (c1 : W.cell? ⟨B, 1, none⟩ = some v1) (c2 : W.cell? ⟨B, 2, none⟩ = some v2) (c3 : W.cell? ⟨B, 3, none⟩ = some v3) :
    W'.cell? ⟨B, 0, none⟩ = some v0 ∧ W'.cell? ⟨B, 1, none⟩ = some v1 ∧ W'.cell? ⟨B, 2, none⟩ = some v2 ∧ W'.cell? ⟨B, 3, none⟩ = some v3 :=
  ⟨(h.cell (p := ⟨B, 0, none⟩) hl).trans c0, (h.cell (p := ⟨B, 1, none⟩) hl).trans c1, (h.cell (p := ⟨B, 2, none⟩) hl).trans c2, (h.cell (p := ⟨B, 3, none⟩) hl).trans c3⟩

set_option maxRecDepth 100000 in
set_option maxHeartbeats 16000000 in
theorem tells_any {a0 a1 a2 a3 b0 b1 b2 b3 m : Nat} (ha : Ok4 a0 a1 a2 a3) (hb : Ok4 b0 b1 b2 b3) (hm : m < M) (w : World) :
    Calls Try.prog 3 #[wv a0 a1 a2 a3, wv b0 b1 b2 b3, .int .u64 (m : Int)] w fun e W' => e = .returned (.bool true) ∧ Below w.heap.size w W' := by
  have heq := run_equalIn_wide
  have hrefl := wEq_refl
  obtain ⟨s0, s1, s2, s3, p, hS⟩ := addW_det (val a0 a1 a2 a3 + val b0 b1 b2 b3)
  obtain ⟨d0, d1, d2, d3, q, hD⟩ := subW_det (val a0 a1 a2 a3) (val b0 b1 b2 b3)
  obtain ⟨m0, m1, m2, m3, r, hP⟩ := addW_det (val a0 a1 a2 a3 * m)
  have HS := Lib.hid hS
  have HD := Lib.hid (fun w e W' => hD w e W' (val_lt ha))
  have HP := Lib.hid hP
  clear hS hD hP
  go_enter Try.func3, Try.ntmps3
  go_wp2_with fail
  refine (add_any ha hb _).mono ?_
  intro e w1 h
  obtain ⟨rfl, hb1⟩ := HS.out _ _ _ h
  clear h
  have kA : BlkW w1 w.heap.size a0 a1 a2 a3 := ((Blk.new' rfl).alloc _).below hb1 (by simp; omega)
  have kB : BlkW w1 (w.heap.size + 1) b0 b1 b2 b3 := (Blk.new' (by simp)).below hb1 (by simp)
  have c1 := chain (chainA (chain0 w _) _) hb1
  have lA := kA.lt
  have lB := kB.lt
  clear hb1
  obtain ⟨x0, x1, x2, x3⟩ := kA.c4
  obtain ⟨y0, y1, y2, y3⟩ := kB.c4
  go_wp2_with fail
  refine (sub_any ha hb _).mono ?_
  clear x0 x1 x2 x3 y0 y1 y2 y3
  intro e w2 h
  obtain ⟨rfl, hb2⟩ := HD.out _ _ _ h
  clear h
  replace kA := (kA.alloc _).below hb2 (by simp; omega)
  replace kB := (kB.alloc _).below hb2 (by simp; omega)
  have kS : BlkW w2 w1.heap.size s0 s1 s2 s3 := (Blk.new' rfl).below hb2 (by simp)
  have c2 := chain (chainA c1 _) hb2
  replace lA := kA.lt
  replace lB := kB.lt
  have lS := kS.lt
  clear hb2 c1
  obtain ⟨x0, x1, x2, x3⟩ := kA.c4
  go_wp2_with fail
  refine (mul_any ha hm _).mono ?_
  clear x0 x1 x2 x3
  intro e w3 h
  obtain ⟨rfl, hb3⟩ := HP.out _ _ _ h
  clear h
  replace kA := (kA.alloc _).below hb3 (by simp; omega)
  replace kB := (kB.alloc _).below hb3 (by simp; omega)
  replace kS := (kS.alloc _).below hb3 (by simp; omega)
  have kD : BlkW w3 w2.heap.size d0 d1 d2 d3 := (Blk.new' rfl).below hb3 (by simp)
  have c3 := chain (chainA c2 _) hb3
  replace lA := kA.lt
  replace lB := kB.lt
  replace lS := kS.lt
  have lD := kD.lt
  clear hb3 c2
  obtain ⟨x0, x1, x2, x3⟩ := kA.c4
  obtain ⟨y0, y1, y2, y3⟩ := kB.c4
  go_wp2_with fail
  refine (refAdd_any ha hb _).mono ?_
  clear x0 x1 x2 x3 y0 y1 y2 y3
  intro e w4 h
  obtain ⟨rfl, hb4⟩ := HS.out _ _ _ h
  clear h
  replace kA := (kA.alloc _).below hb4 (by simp; omega)
  replace kB := (kB.alloc _).below hb4 (by simp; omega)
  replace kS := (kS.alloc _).below hb4 (by simp; omega)
  replace kD := (kD.alloc _).below hb4 (by simp; omega)
  have kM : BlkW w4 w3.heap.size m0 m1 m2 m3 := (Blk.new' rfl).below hb4 (by simp)
  have c4 := chain (chainA c3 _) hb4
  replace lA := kA.lt
  replace lB := kB.lt
  replace lS := kS.lt
  replace lD := kD.lt
  have lM := kM.lt
  clear hb4 c3
  obtain ⟨x0, x1, x2, x3⟩ := kA.c4
  obtain ⟨y0, y1, y2, y3⟩ := kB.c4
  go_wp2_with fail
  refine (refSub_any ha hb _).mono ?_
  clear x0 x1 x2 x3 y0 y1 y2 y3
  intro e w5 h
  obtain ⟨rfl, hb5⟩ := HD.out _ _ _ h
  clear h
  replace kA := (kA.alloc _).below hb5 (by simp; omega)
  replace kB := (kB.alloc _).below hb5 (by simp; omega)
  replace kS := (kS.alloc _).below hb5 (by simp; omega)
  replace kD := (kD.alloc _).below hb5 (by simp; omega)
  replace kM := (kM.alloc _).below hb5 (by simp; omega)
  have kX : BlkW w5 w4.heap.size s0 s1 s2 s3 := (Blk.new' rfl).below hb5 (by simp)
  have c5 := chain (chainA c4 _) hb5
  replace lA := kA.lt
  replace lB := kB.lt
  replace lS := kS.lt
  replace lD := kD.lt
  replace lM := kM.lt
  have lX := kX.lt
  clear hb5 c4
  obtain ⟨x0, x1, x2, x3⟩ := kA.c4
  go_wp2_with fail
  refine (refMul_any ha hm _).mono ?_
  clear x0 x1 x2 x3
  intro e w6 h
  obtain ⟨rfl, hb6⟩ := HP.out _ _ _ h
  clear h
  replace kA := (kA.alloc _).below hb6 (by simp; omega)
  replace kB := (kB.alloc _).below hb6 (by simp; omega)
  replace kS := (kS.alloc _).below hb6 (by simp; omega)
  replace kD := (kD.alloc _).below hb6 (by simp; omega)
  replace kM := (kM.alloc _).below hb6 (by simp; omega)
  replace kX := (kX.alloc _).below hb6 (by simp; omega)
  have kY : BlkW w6 w5.heap.size d0 d1 d2 d3 := (Blk.new' rfl).below hb6 (by simp)
  have c6 := chain (chainA c5 _) hb6
  replace lA := kA.lt
  replace lB := kB.lt
  replace lS := kS.lt
  replace lD := kD.lt
  replace lM := kM.lt
  replace lX := kX.lt
  have lY := kY.lt
  clear hb6 c5
  have kZ : BlkW (w6.alloc (.cells #[.int .u64 (m0 : Int), .int .u64 (m1 : Int), .int .u64 (m2 : Int), .int .u64 (m3 : Int)] 24)) w6.heap.size m0 m1 m2 m3 := Blk.new' rfl
  replace kA := kA.alloc (.cells #[.int .u64 (m0 : Int), .int .u64 (m1 : Int), .int .u64 (m2 : Int), .int .u64 (m3 : Int)] 24)
  replace kB := kB.alloc (.cells #[.int .u64 (m0 : Int), .int .u64 (m1 : Int), .int .u64 (m2 : Int), .int .u64 (m3 : Int)] 24)
  replace kS := kS.alloc (.cells #[.int .u64 (m0 : Int), .int .u64 (m1 : Int), .int .u64 (m2 : Int), .int .u64 (m3 : Int)] 24)
  replace kD := kD.alloc (.cells #[.int .u64 (m0 : Int), .int .u64 (m1 : Int), .int .u64 (m2 : Int), .int .u64 (m3 : Int)] 24)
  replace kM := kM.alloc (.cells #[.int .u64 (m0 : Int), .int .u64 (m1 : Int), .int .u64 (m2 : Int), .int .u64 (m3 : Int)] 24)
  replace kX := kX.alloc (.cells #[.int .u64 (m0 : Int), .int .u64 (m1 : Int), .int .u64 (m2 : Int), .int .u64 (m3 : Int)] 24)
  replace kY := kY.alloc (.cells #[.int .u64 (m0 : Int), .int .u64 (m1 : Int), .int .u64 (m2 : Int), .int .u64 (m3 : Int)] 24)
  have c7 : Below w.heap.size w (w6.alloc (.cells #[.int .u64 (m0 : Int), .int .u64 (m1 : Int), .int .u64 (m2 : Int), .int .u64 (m3 : Int)] 24)) := chainA c6 _
  go_wp2_with fail
  generalize w6.alloc (.cells #[.int .u64 (m0 : Int), .int .u64 (m1 : Int), .int .u64 (m2 : Int), .int .u64 (m3 : Int)] 24) = w7 at *
  replace lA := kA.lt
  replace lB := kB.lt
  replace lS := kS.lt
  replace lD := kD.lt
  replace lM := kM.lt
  replace lX := kX.lt
  replace lY := kY.lt
  have lZ := kZ.lt
  obtain ⟨xA0, xA1, xA2, xA3⟩ := kA.c4
  obtain ⟨xB0, xB1, xB2, xB3⟩ := kB.c4
  obtain ⟨xS0, xS1, xS2, xS3⟩ := kS.c4
  obtain ⟨xD0, xD1, xD2, xD3⟩ := kD.c4
  obtain ⟨xM0, xM1, xM2, xM3⟩ := kM.c4
  obtain ⟨xX0, xX1, xX2, xX3⟩ := kX.c4
  obtain ⟨xY0, xY1, xY2, xY3⟩ := kY.c4
  obtain ⟨xZ0, xZ1, xZ2, xZ3⟩ := kZ.c4
  clear kA kB kS kD kM kX kY kZ HS HD HP c6
  go_region_held3 (fun W => W.cell? ⟨w.heap.size, 0, none⟩ = some (.int .u64 (a0 : Int)) ∧ W.cell? ⟨w.heap.size, 1, none⟩ = some (.int .u64 (a1 : Int)) ∧ W.cell? ⟨w.heap.size, 2, none⟩ = some (.int .u64 (a2 : Int)) ∧ W.cell? ⟨w.heap.size, 3, none⟩ = some (.int .u64 (a3 : Int)) ∧ W.cell? ⟨w.heap.size + 1, 0, none⟩ = some (.int .u64 (b0 : Int)) ∧ W.cell? ⟨w.heap.size + 1, 1, none⟩ = some (.int .u64 (b1 : Int)) ∧ W.cell? ⟨w.heap.size + 1, 2, none⟩ = some (.int .u64 (b2 : Int)) ∧ W.cell? ⟨w.heap.size + 1, 3, none⟩ = some (.int .u64 (b3 : Int)) ∧ W.cell? ⟨w1.heap.size, 0, none⟩ = some (.int .u64 (s0 : Int)) ∧ W.cell? ⟨w1.heap.size, 1, none⟩ = some (.int .u64 (s1 : Int)) ∧ W.cell? ⟨w1.heap.size, 2, none⟩ = some (.int .u64 (s2 : Int)) ∧ W.cell? ⟨w1.heap.size, 3, none⟩ = some (.int .u64 (s3 : Int)) ∧ W.cell? ⟨w2.heap.size, 0, none⟩ = some (.int .u64 (d0 : Int)) ∧ W.cell? ⟨w2.heap.size, 1, none⟩ = some (.int .u64 (d1 : Int)) ∧ W.cell? ⟨w2.heap.size, 2, none⟩ = some (.int .u64 (d2 : Int)) ∧ W.cell? ⟨w2.heap.size, 3, none⟩ = some (.int .u64 (d3 : Int)) ∧ W.cell? ⟨w3.heap.size, 0, none⟩ = some (.int .u64 (m0 : Int)) ∧ W.cell? ⟨w3.heap.size, 1, none⟩ = some (.int .u64 (m1 : Int)) ∧ W.cell? ⟨w3.heap.size, 2, none⟩ = some (.int .u64 (m2 : Int)) ∧ W.cell? ⟨w3.heap.size, 3, none⟩ = some (.int .u64 (m3 : Int)) ∧ W.cell? ⟨w4.heap.size, 0, none⟩ = some (.int .u64 (s0 : Int)) ∧ W.cell? ⟨w4.heap.size, 1, none⟩ = some (.int .u64 (s1 : Int)) ∧ W.cell? ⟨w4.heap.size, 2, none⟩ = some (.int .u64 (s2 : Int)) ∧ W.cell? ⟨w4.heap.size, 3, none⟩ = some (.int .u64 (s3 : Int)) ∧ W.cell? ⟨w5.heap.size, 0, none⟩ = some (.int .u64 (d0 : Int)) ∧ W.cell? ⟨w5.heap.size, 1, none⟩ = some (.int .u64 (d1 : Int)) ∧ W.cell? ⟨w5.heap.size, 2, none⟩ = some (.int .u64 (d2 : Int)) ∧ W.cell? ⟨w5.heap.size, 3, none⟩ = some (.int .u64 (d3 : Int)) ∧ W.cell? ⟨w6.heap.size, 0, none⟩ = some (.int .u64 (m0 : Int)) ∧ W.cell? ⟨w6.heap.size, 1, none⟩ = some (.int .u64 (m1 : Int)) ∧ W.cell? ⟨w6.heap.size, 2, none⟩ = some (.int .u64 (m2 : Int)) ∧ W.cell? ⟨w6.heap.size, 3, none⟩ = some (.int .u64 (m3 : Int)))
    (first | go_keep | (refine ⟨?_, ?_, ?_, ?_, ?_, ?_, ?_, ?_, ?_, ?_, ?_, ?_, ?_, ?_, ?_, ?_, ?_, ?_, ?_, ?_, ?_, ?_, ?_, ?_, ?_, ?_, ?_, ?_, ?_, ?_, ?_, ?_⟩ <;> assumption))
    (first | (go_at_call 13; refine (cmp_any ha hb _).mono ?_; rintro e W1 ⟨rfl, hb1⟩; have z1 := hb1.size; have cc : Below w.heap.size w W1 := chain (by first | assumption | exact Below.drew c7) hb1; (try simp only [World.size_drew] at z1); obtain ⟨u00, u01, u02, u03⟩ := four_below hb1 (B := w.heap.size) (by first | omega | (simp; omega)) (by assumption) (by assumption) (by assumption) (by assumption); obtain ⟨u10, u11, u12, u13⟩ := four_below hb1 (B := w.heap.size + 1) (by first | omega | (simp; omega)) (by assumption) (by assumption) (by assumption) (by assumption); obtain ⟨u20, u21, u22, u23⟩ := four_below hb1 (B := w1.heap.size) (by first | omega | (simp; omega)) (by assumption) (by assumption) (by assumption) (by assumption); obtain ⟨u30, u31, u32, u33⟩ := four_below hb1 (B := w2.heap.size) (by first | omega | (simp; omega)) (by assumption) (by assumption) (by assumption) (by assumption); obtain ⟨u40, u41, u42, u43⟩ := four_below hb1 (B := w3.heap.size) (by first | omega | (simp; omega)) (by assumption) (by assumption) (by assumption) (by assumption); obtain ⟨u50, u51, u52, u53⟩ := four_below hb1 (B := w4.heap.size) (by first | omega | (simp; omega)) (by assumption) (by assumption) (by assumption) (by assumption); obtain ⟨u60, u61, u62, u63⟩ := four_below hb1 (B := w5.heap.size) (by first | omega | (simp; omega)) (by assumption) (by assumption) (by assumption) (by assumption); obtain ⟨u70, u71, u72, u73⟩ := four_below hb1 (B := w6.heap.size) (by first | omega | (simp; omega)) (by assumption) (by assumption) (by assumption) (by assumption)) | (go_at_call 14; refine (refCmp_any ha hb _).mono ?_; rintro e W1 ⟨rfl, hb1⟩; have z1 := hb1.size; have cc : Below w.heap.size w W1 := chain (by first | assumption | exact Below.drew c7) hb1; (try simp only [World.size_drew] at z1); obtain ⟨u00, u01, u02, u03⟩ := four_below hb1 (B := w.heap.size) (by first | omega | (simp; omega)) (by assumption) (by assumption) (by assumption) (by assumption); obtain ⟨u10, u11, u12, u13⟩ := four_below hb1 (B := w.heap.size + 1) (by first | omega | (simp; omega)) (by assumption) (by assumption) (by assumption) (by assumption); obtain ⟨u20, u21, u22, u23⟩ := four_below hb1 (B := w1.heap.size) (by first | omega | (simp; omega)) (by assumption) (by assumption) (by assumption) (by assumption); obtain ⟨u30, u31, u32, u33⟩ := four_below hb1 (B := w2.heap.size) (by first | omega | (simp; omega)) (by assumption) (by assumption) (by assumption) (by assumption); obtain ⟨u40, u41, u42, u43⟩ := four_below hb1 (B := w3.heap.size) (by first | omega | (simp; omega)) (by assumption) (by assumption) (by assumption) (by assumption); obtain ⟨u50, u51, u52, u53⟩ := four_below hb1 (B := w4.heap.size) (by first | omega | (simp; omega)) (by assumption) (by assumption) (by assumption) (by assumption); obtain ⟨u60, u61, u62, u63⟩ := four_below hb1 (B := w5.heap.size) (by first | omega | (simp; omega)) (by assumption) (by assumption) (by assumption) (by assumption); obtain ⟨u70, u71, u72, u73⟩ := four_below hb1 (B := w6.heap.size) (by first | omega | (simp; omega)) (by assumption) (by assumption) (by assumption) (by assumption)) | (go_at_call 15; refine (bits_any ha _).mono ?_; rintro e W1 ⟨rfl, hb1⟩; have z1 := hb1.size; have cc : Below w.heap.size w W1 := chain (by first | assumption | exact Below.drew c7) hb1; (try simp only [World.size_drew] at z1); obtain ⟨u00, u01, u02, u03⟩ := four_below hb1 (B := w.heap.size) (by first | omega | (simp; omega)) (by assumption) (by assumption) (by assumption) (by assumption); obtain ⟨u10, u11, u12, u13⟩ := four_below hb1 (B := w.heap.size + 1) (by first | omega | (simp; omega)) (by assumption) (by assumption) (by assumption) (by assumption); obtain ⟨u20, u21, u22, u23⟩ := four_below hb1 (B := w1.heap.size) (by first | omega | (simp; omega)) (by assumption) (by assumption) (by assumption) (by assumption); obtain ⟨u30, u31, u32, u33⟩ := four_below hb1 (B := w2.heap.size) (by first | omega | (simp; omega)) (by assumption) (by assumption) (by assumption) (by assumption); obtain ⟨u40, u41, u42, u43⟩ := four_below hb1 (B := w3.heap.size) (by first | omega | (simp; omega)) (by assumption) (by assumption) (by assumption) (by assumption); obtain ⟨u50, u51, u52, u53⟩ := four_below hb1 (B := w4.heap.size) (by first | omega | (simp; omega)) (by assumption) (by assumption) (by assumption) (by assumption); obtain ⟨u60, u61, u62, u63⟩ := four_below hb1 (B := w5.heap.size) (by first | omega | (simp; omega)) (by assumption) (by assumption) (by assumption) (by assumption); obtain ⟨u70, u71, u72, u73⟩ := four_below hb1 (B := w6.heap.size) (by first | omega | (simp; omega)) (by assumption) (by assumption) (by assumption) (by assumption)) | (go_at_call 16; refine (refBits_any ha _).mono ?_; rintro e W1 ⟨rfl, hb1⟩; have z1 := hb1.size; have cc : Below w.heap.size w W1 := chain (by first | assumption | exact Below.drew c7) hb1; (try simp only [World.size_drew] at z1); obtain ⟨u00, u01, u02, u03⟩ := four_below hb1 (B := w.heap.size) (by first | omega | (simp; omega)) (by assumption) (by assumption) (by assumption) (by assumption); obtain ⟨u10, u11, u12, u13⟩ := four_below hb1 (B := w.heap.size + 1) (by first | omega | (simp; omega)) (by assumption) (by assumption) (by assumption) (by assumption); obtain ⟨u20, u21, u22, u23⟩ := four_below hb1 (B := w1.heap.size) (by first | omega | (simp; omega)) (by assumption) (by assumption) (by assumption) (by assumption); obtain ⟨u30, u31, u32, u33⟩ := four_below hb1 (B := w2.heap.size) (by first | omega | (simp; omega)) (by assumption) (by assumption) (by assumption) (by assumption); obtain ⟨u40, u41, u42, u43⟩ := four_below hb1 (B := w3.heap.size) (by first | omega | (simp; omega)) (by assumption) (by assumption) (by assumption) (by assumption); obtain ⟨u50, u51, u52, u53⟩ := four_below hb1 (B := w4.heap.size) (by first | omega | (simp; omega)) (by assumption) (by assumption) (by assumption) (by assumption); obtain ⟨u60, u61, u62, u63⟩ := four_below hb1 (B := w5.heap.size) (by first | omega | (simp; omega)) (by assumption) (by assumption) (by assumption) (by assumption); obtain ⟨u70, u71, u72, u73⟩ := four_below hb1 (B := w6.heap.size) (by first | omega | (simp; omega)) (by assumption) (by assumption) (by assumption) (by assumption)) | (go_at_call 17; refine (of_any _ m rfl _).mono ?_; rintro e W1 ⟨rfl, hb1⟩; have z1 := hb1.size; have cc : Below w.heap.size w W1 := chain (by first | assumption | exact Below.drew c7) hb1; (try simp only [World.size_drew] at z1); obtain ⟨u00, u01, u02, u03⟩ := four_below hb1 (B := w.heap.size) (by first | omega | (simp; omega)) (by assumption) (by assumption) (by assumption) (by assumption); obtain ⟨u10, u11, u12, u13⟩ := four_below hb1 (B := w.heap.size + 1) (by first | omega | (simp; omega)) (by assumption) (by assumption) (by assumption) (by assumption); obtain ⟨u20, u21, u22, u23⟩ := four_below hb1 (B := w1.heap.size) (by first | omega | (simp; omega)) (by assumption) (by assumption) (by assumption) (by assumption); obtain ⟨u30, u31, u32, u33⟩ := four_below hb1 (B := w2.heap.size) (by first | omega | (simp; omega)) (by assumption) (by assumption) (by assumption) (by assumption); obtain ⟨u40, u41, u42, u43⟩ := four_below hb1 (B := w3.heap.size) (by first | omega | (simp; omega)) (by assumption) (by assumption) (by assumption) (by assumption); obtain ⟨u50, u51, u52, u53⟩ := four_below hb1 (B := w4.heap.size) (by first | omega | (simp; omega)) (by assumption) (by assumption) (by assumption) (by assumption); obtain ⟨u60, u61, u62, u63⟩ := four_below hb1 (B := w5.heap.size) (by first | omega | (simp; omega)) (by assumption) (by assumption) (by assumption) (by assumption); obtain ⟨u70, u71, u72, u73⟩ := four_below hb1 (B := w6.heap.size) (by first | omega | (simp; omega)) (by assumption) (by assumption) (by assumption) (by assumption)) | (go_at_call 18; refine (alive_any _).mono ?_; rintro e W1 ⟨rfl, hb1⟩; have z1 := hb1.size; have cc : Below w.heap.size w W1 := chain (by first | assumption | exact Below.drew c7) hb1; (try simp only [World.size_drew] at z1); obtain ⟨u00, u01, u02, u03⟩ := four_below hb1 (B := w.heap.size) (by first | omega | (simp; omega)) (by assumption) (by assumption) (by assumption) (by assumption); obtain ⟨u10, u11, u12, u13⟩ := four_below hb1 (B := w.heap.size + 1) (by first | omega | (simp; omega)) (by assumption) (by assumption) (by assumption) (by assumption); obtain ⟨u20, u21, u22, u23⟩ := four_below hb1 (B := w1.heap.size) (by first | omega | (simp; omega)) (by assumption) (by assumption) (by assumption) (by assumption); obtain ⟨u30, u31, u32, u33⟩ := four_below hb1 (B := w2.heap.size) (by first | omega | (simp; omega)) (by assumption) (by assumption) (by assumption) (by assumption); obtain ⟨u40, u41, u42, u43⟩ := four_below hb1 (B := w3.heap.size) (by first | omega | (simp; omega)) (by assumption) (by assumption) (by assumption) (by assumption); obtain ⟨u50, u51, u52, u53⟩ := four_below hb1 (B := w4.heap.size) (by first | omega | (simp; omega)) (by assumption) (by assumption) (by assumption) (by assumption); obtain ⟨u60, u61, u62, u63⟩ := four_below hb1 (B := w5.heap.size) (by first | omega | (simp; omega)) (by assumption) (by assumption) (by assumption) (by assumption); obtain ⟨u70, u71, u72, u73⟩ := four_below hb1 (B := w6.heap.size) (by first | omega | (simp; omega)) (by assumption) (by assumption) (by assumption) (by assumption)))
  go_wp2
  go_ret
  exact ⟨rfl, cc⟩
end Go.Proofs.Ytacpagfocmhfeaa
