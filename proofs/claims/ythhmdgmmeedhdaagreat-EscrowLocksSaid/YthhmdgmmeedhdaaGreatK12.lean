/-
  escrow: a deed is tried: what was demanded and did not hold is told; the state is as it was; escrow: a transaction is applied; The program's order of things and the page's come to the same; The reference's writer of fields; The reference's writer: a number, a text, a wide number
-/
import Derived.Defers
import Derived.Recover
import Derived.Deep.RegionHeld3
import Derived.Outline
import Derived.Test.YthhmdgmmeedhdaaGreatK11
namespace Go.Proofs.YthhmdgmmeedhdaaGreat
open Go.RowKit Go.Shelf
section
variable {P : Program} {ops : Array Oper} {Q : Exit → Act → World → Prop}
theorem wpFrom_defer {k : Nat} {a : Act} {w : World} {d : Deferred} (hr : runAt P ops k a w = some (true, none, .ok (.defer d) w)) (h : wpFrom P ops Q (k + 1) { a with defers := d :: a.defers } w) : wpFrom P ops Q k a w := by
  obtain ⟨o, ho⟩ := some_of hr
  unfold runAt at hr
  rw [ho] at hr
  have e := Option.some.inj hr
  have h1 : Region.wanted o (yielded ops a.tmps) = true := congrArg Prod.fst e
  have h2 : o.dst = none := congrArg (fun x => x.2.1) e
  have h3 : (execOp a.eval o).run P w = .ok (.defer d) w := congrArg (fun x => x.2.2) e
  refine wpFrom_step ho fun K hK => ?_
  rw [if_pos h1]
  unfold Oper.wp
  rw [h3]
  have : K (({ a with defers := d :: a.defers } : Act).put o.dst undef) w := by rw [h2]; exact hK _ _ h
  exact this
end
theorem wp_act {P : Program} {c : Code} {Q : Exit → Act → World → Prop} {a a' : Act} {w : World} (h : a = a') (hw : c.wp P Q a' w) : c.wp P Q a w := by rw [h]; exact hw
theorem sto_er {W : World} {B : Nat} {T : TypeId} {x : Value} (h : Blk W B T [x]) (c : Int) : (Instr.storeAt 42 (.pointer (some ⟨B, 0, none⟩)) (.int .i64 c)).run Tryz.prog W = .ok () (W.setRow B [.int .i64 c].toArray) :=
  sto_part _ h 0 _ _ [.int .i64 c] rfl (by kernel_rfl) (Nat.le_refl _) rfl rfl
theorem catch_idle (p q r : Value) (w : World) :
    CallsD Tryz.prog 57 #[p, q, r] .returning w fun e u' W' => e = .returned (.tuple #[]) ∧ u' = .returning ∧ W' = w := by
  refine callsD_of_wpS Tryz.func57 rfl fun c₀ cs hu => ?_
  apply wpS_seq
  apply wpS_region
  simp [wpOpsS, go_sem, recoverD, hu, Tryz.ntmps57, Exit.thenS]
  apply wpS_seq
  apply wpS_seq
  apply wpS_region
  simp [wpOpsS, go_sem, Exit.thenS]
  refine wpS_cond (t := true) (by simp [Act.eval, Array.replicate]) ?_
  simp only [if_true]
  refine wpS_of_wp (wp_ret ?_)
  cases c₀
  simp_all [bodyPostS, results, Tryz.results57, Exit.thenS]
def CatchR (s : Es) (c : Int) (P Q R : Nat) (w : World) (W' : World) : Prop := ∃ v', Blk W' Q 34 (stc s v') ∧ Blk W' R 42 [.int .i64 c] ∧ OwnL w.heap.size W' v' s.lk ∧ Below P w W'
set_option maxRecDepth 100000 in
set_option maxHeartbeats 4000000 in
theorem catch_any (c : Int) (s : Es) (v : Value) {P Q R lo hi : Nat} (hPQ : P < Q) (hQR : Q < R) (w : World) (hP : Blk w P 34 (stc s v)) (hQ : BlkN w Q) {x : Value} (hR : Blk w R 42 [x]) (hl : RSl lkc lo hi w v s.lk) (hhi : hi ≤ w.heap.size) (hr : s.lk.length * 40 ≤ 140737488355328) :
    CallsD Tryz.prog 57 #[.pointer (some ⟨P, 0, none⟩), .pointer (some ⟨Q, 0, none⟩), .pointer (some ⟨R, 0, none⟩)] (.panicking [{ v := .iface 106 (.int .i64 c), recovered := false }]) w fun e u' W' => e = .returned (.tuple #[]) ∧ u' = .panicking [{ v := .iface 106 (.int .i64 c), recovered := true }] ∧ CatchR s c P Q R w W' := by
  obtain ⟨vs, hvs, hQ⟩ := hQ
  refine callsD_of_wpS Tryz.func57 rfl fun c₀ cs hu => ?_
  apply wpS_seq
  apply wpS_region
  simp [wpOpsS, go_sem, recoverD, hu, Tryz.ntmps57, Exit.thenS]
  refine wpS_of_wp ?_
  refine wp_act (a' := { tmps := #[.pointer (some ⟨P, 0, none⟩), .pointer (some ⟨Q, 0, none⟩), .pointer (some ⟨R, 0, none⟩), .iface 106 (.int .i64 c), undef, undef, .iface 106 (.int .i64 c), undef, undef, undef, undef, undef, undef, undef, undef, undef, undef, undef, undef, undef], defers := [] }) (by kernel_rfl) ?_
  go_upto_region 1 with fail
  refine wp_region_from ?_
  refine tF 2 [.val 0 (some 7) (.iface 106 (.int .i64 c)), .val 1 (some 8) (.bool false)] trivial ?_
  refine dF ?_
  try simp only [puts, Tk.put, Act.put, List.setIfInBounds_toArray, List.set_cons_zero, List.set_cons_succ]
  go_upto_region 2 with fail
  refine wp_region_from ?_
  refine tF 7 [.val 0 (some 10) (.iface 106 (.int .i64 c)), .val 1 (some 11) (.tuple #[.int .i64 c, .bool true]), .val 2 (some 9) (.tuple #[.int .i64 c, .bool true]), .val 3 (some 12) (.int .i64 c), .val 4 (some 13) (.bool true), .val 5 (some 4) (.int .i64 c), .val 6 (some 5) (.bool true)] trivial ?_
  refine dF ?_
  try simp only [puts, Tk.put, Act.put, List.setIfInBounds_toArray, List.set_cons_zero, List.set_cons_succ]
  go_upto_region 3 with fail
  refine wp_region_from ?_
  refine tF 2 [.val 0 (some 14) (.bool true), .val 1 (some 15) (.bool false)] trivial ?_
  refine dF ?_
  try simp only [puts, Tk.put, Act.put, List.setIfInBounds_toArray, List.set_cons_zero, List.set_cons_succ]
  go_upto_region 5 with fail
  refine wp_region_from ?_
  refine tF 1 [.load 0 (some 17) 34 (pt P 0) (stv s v)] ⟨ld_st hP, trivial⟩ ?_
  refine cF (some 18) 27 #[stv s v] ((own_any s v w hl hhi hr).mono ?_)
  rintro e W1 ⟨v1, rfl, hO, hb⟩
  refine tF 3 [.val 2 (some 19) (.int .i64 c)] trivial ?_
  have hQ1 := hQ.below hb hQ.lt
  have hR1 := hR.below hb hR.lt
  have hQl := hQ.lt
  have hRl := hR.lt
  have hg1 := grownBy_row W1 Q (stc s v1).toArray
  have hO1 := hO.grown hQl hg1
  have hQ2 := hQ1.row (stc s v1)
  have hR2 := hR1.rowO (stc s v1).toArray (show R ≠ Q by omega)
  have hB0 : Below P w W1 := hb.mono (by omega)
  have hB1 := hB0.grown hg1 (show P ≤ W1.heap.size from Nat.le_trans (by omega) hb.size) (fun e he => by cases he; omega)
  refine sF (w' := W1.setRow Q (stc s v1).toArray) 34 (pt Q 0) (stv s v1) (sto_st hQ1 hvs s hO.one.1) ?_
  generalize W1.setRow Q (stc s v1).toArray = W2 at *
  have hg2 := grownBy_row W2 R [.int .i64 c].toArray
  have hO2 := hO1.grown hRl hg2
  have hQ3 := hQ2.rowO [.int .i64 c].toArray (show Q ≠ R by omega)
  have hR3 := hR2.row [.int .i64 c]
  have hB2 := hB1.grown hg2 (Nat.le_trans (Nat.le_of_lt hP.lt) hB1.size) (fun e he => by cases he; omega)
  refine sF (w' := W2.setRow R [.int .i64 c].toArray) 42 (pt R 0) (.int .i64 c) (sto_er hR2 c) ?_
  generalize W2.setRow R [.int .i64 c].toArray = W3 at *
  refine dF ?_
  try simp only [puts, Tk.put, Act.put, List.setIfInBounds_toArray, List.set_cons_zero, List.set_cons_succ]
  clear hg1 hg2
  go_wp2_with fail
  exact ⟨rfl, _, rfl, _, by kernel_rfl, rfl, rfl, v1, hQ3, hR3, hO2, hB2⟩
def AttR (s : Es) (p : Es × Int) (w : World) (e : Ending) (W' : World) : Prop := ∃ v', e = .returned (.tuple #[stv (if p.2 = 0 then p.1 else s) v', .int .i64 p.2]) ∧ OwnL w.heap.size W' v' (if p.2 = 0 then p.1 else s).lk ∧ Below w.heap.size w W'
theorem res_att {fn : Func} {p q : Tmp} (h : fn.results = #[.cell p 34, .cell q 42]) (tmps : Array Value) {w : World} {g r : Nat} {T U : TypeId} {s : Es} {v : Value} {c : Int} (hp : tmps.getD p undef = .pointer (some ⟨g, 0, none⟩)) (hq : tmps.getD q undef = .pointer (some ⟨r, 0, none⟩)) (hg : Blk w g T (stc s v)) (hr : Blk w r U [.int .i64 c]) :
    (results fn tmps).run Tryz.prog w = .ok (.tuple #[stv s v, .int .i64 c]) w := by
  have hp' : tmps[p]?.getD undef = .pointer (some ⟨g, 0, none⟩) := by simpa using hp
  have hq' : tmps[q]?.getD undef = .pointer (some ⟨r, 0, none⟩) := by simpa using hq
  have hc := hr.cell 0
  have hagg : (isAgg 42).run Tryz.prog w = .ok false w := by kernel_rfl
  have h2 : (loadVar 42 ⟨r, 0, none⟩).run Tryz.prog w = .ok (.int .i64 c) w := by
    simp [loadVar, Sem.run_bind, hagg, hc]
  simp [results, h, hp', hq', asAddr, h2, run_loadVar_row w g T 34 (stc s v).toArray (0, 0) _ hg Tryz.underlying34 rfl (by rw [List.size_toArray, stc_len]; exact info_st)]
set_option maxRecDepth 100000 in
set_option maxHeartbeats 4000000 in
theorem attempt1_any (cap : Value) (s : Es) (v : Value) (p : Es × Int) (w : World) {lo : Nat} (hl : RSl lkc lo w.heap.size w v s.lk) (hr : s.lk.length * 40 ≤ 140737488355328)
    (hd : ∀ (W : World) (v1 : Value) (B b0 : Nat), Below w.heap.size w W → w.heap.size ≤ B → B < b0 → b0 ≤ W.heap.size → Blk W B 34 (stc s v1) → OwnL b0 W v1 s.lk → Calls Tryz.prog 29 #[.pointer (some ⟨B, 0, none⟩), cap] W (EndL W B b0 p)) :
    Calls Tryz.prog 28 #[stv s v, .func (.func 29) #[] #[cap]] w (AttR s p w) := by
  have HD := Lib.hid hd
  have HL := Lib.hid hl
  clear hd hl
  have hM := Mem.start w
  go_enter_defers Tryz.func28, Tryz.ntmps28
  go_upto_region 0 with fail
  refine wp_region_fromM (fun W => Mem w none [] W) hM ?_
  clear hM
  rintro Y1 hM
  refine rF (some 2) (pt Y1.heap.size 0) (Y1.alloc (.cells (stc s v).toArray 34)) ?_
  replace hM := hM.alloc 34 (stc s v)
  generalize World.alloc _ _ = Y2 at *
  generalize hNe : Y1.heap.size = P at *
  clear hNe
  have hP0 := (hM.at 0 rfl).lt
  refine rF (some 4) (pt Y2.heap.size 0) (Y2.alloc (.cells (stc zS nilV).toArray 34)) ?_
  replace hM := hM.alloc 34 (stc zS nilV)
  generalize World.alloc _ _ = Y3 at *
  generalize hNe : Y2.heap.size = Q at *
  clear hNe
  have hQ0 := (hM.at 0 rfl).lt
  refine rF (some 5) (pt Y3.heap.size 0) (Y3.alloc (.cells ([.int .i64 0]).toArray 42)) ?_
  replace hM := hM.alloc 42 ([.int .i64 0])
  generalize World.alloc _ _ = Y4 at *
  generalize hNe : Y3.heap.size = R at *
  clear hNe
  refine dF ?_
  try simp only [Act.put, List.setIfInBounds_toArray, List.set_cons_zero, List.set_cons_succ]
  have hQP : P < Q := (List.pairwise_cons.1 (List.pairwise_cons.1 hM.2.1).2).1 _ (List.mem_singleton.2 rfl)
  have hRQ : Q < R := (List.pairwise_cons.1 hM.2.1).1 _ (List.mem_cons_self ..)
  clear hP0 hQ0
  go_upto_region 1 with fail
  refine wp_region_fromM (fun W => Mem w none [(R, 42, [.int .i64 0]), (Q, 34, stc zS nilV), (P, 34, stc s v)] W) hM ?_
  clear hM
  rintro Y5 hM
  refine tF 1 [.val 0 (some 6) (.func (.func 57) #[] #[.pointer (some ⟨P, 0, none⟩), .pointer (some ⟨Q, 0, none⟩), .pointer (some ⟨R, 0, none⟩)])] trivial ?_
  refine wpFrom_defer (d := { target := .fn (.func 57) #[.pointer (some ⟨P, 0, none⟩), .pointer (some ⟨Q, 0, none⟩), .pointer (some ⟨R, 0, none⟩)], args := #[] }) (by kernel_rfl) ?_
  refine dF ?_
  try simp only [puts, Tk.put, Act.put, List.setIfInBounds_toArray, List.set_cons_zero, List.set_cons_succ]
  go_upto_region 2 with fail
  refine wp_region_fromM (fun W => Mem w none [(R, 42, [.int .i64 0]), (Q, 34, stc zS nilV), (P, 34, stc s v)] W) hM ?_
  clear hM
  rintro Y6 hM
  refine tF 1 [.load 0 (some 7) 34 (pt P 0) (stv (s) (v))] ⟨ld_st (hM.at 2 rfl), trivial⟩ ?_
  refine cF (some 8) 27 #[stv (s) (v)] ((own_any s v _ (HL.out.below hM.b (Nat.le_refl _)) hM.size hr).mono ?_)
  rintro e W1 ⟨v1, rfl, hO, hb⟩
  have hRl := (hM.at 0 rfl).lt
  replace hM := hM.below hb
  have hb1 := hb.size
  clear hb
  have hg1 := grownBy_row W1 Q (stc s v1).toArray
  replace hO := hO.grown (Nat.lt_trans hRQ hRl) hg1
  refine sF (w' := W1.setRow Q (stc s v1).toArray) 34 (pt Q 0) (stv s v1) (sto_st (hM.at 1 rfl) (stc_len _ _) s hO.one.1) ?_
  replace hM := hM.set 1 (cs' := stc s v1) rfl rfl
  generalize World.setRow _ _ _ = Y7 at *
  refine dF ?_
  try simp only [puts, Tk.put, Act.put, List.setIfInBounds_toArray, List.set_cons_zero, List.set_cons_succ]
  have hbw := Nat.le_trans hb1 hg1.size
  clear hg1 hb1
  go_upto_region 3 with fail
  refine wp_region_fromM (fun W => Mem w none [(R, 42, [.int .i64 0]), (Q, 34, stc s v1), (P, 34, stc s v)] W ∧ OwnL Y6.heap.size W v1 s.lk ∧ Y6.heap.size ≤ W.heap.size) ⟨hM, hO, hbw⟩ ?_
  clear hM hO hbw
  rintro Y8 ⟨hM, hO, hbw⟩
  refine tF 1 [.val 0 (some 9) (.func (.func 29) #[] #[cap])] trivial ?_
  generalize hb0 : Y6.heap.size = b0 at *
  clear hb0
  refine cF (some 10) 29 #[.pointer (some ⟨Q, 0, none⟩), cap] ((HD.out Y8 v1 Q b0 hM.b (hM.ge 1 rfl (by simp)) (Nat.lt_trans hRQ hRl) hbw (hM.at 1 rfl) hO).mono ?_)
  rintro e W2 h
  have hPb := Turn.blk (k := P) (b0 := b0) (B := Q) h.1 (by omega) (by omega) (hM.at 2 rfl)
  have hRb := Turn.blk (k := R) (b0 := b0) (B := Q) h.1 hRl (by omega) (hM.at 0 rfl)
  have hge := hM.ge 2 rfl (by simp)
  have hBl : Below w.heap.size w W2 := ⟨h.1.1.trans hM.b.os, h.1.2.1.trans hM.b.tape, h.1.2.2.1.trans hM.b.output, Nat.le_trans hM.b.size h.1.2.2.2.1, fun k hk => (h.1.2.2.2.2 k (by omega) (by omega)).trans (hM.b.block k hk)⟩
  rcases h.two with ⟨h0, rfl, _, v', hB, hO'⟩ | ⟨h0, rfl, _, hN⟩
  case inr =>
    refine leaves_cons (f := 57) (args := #[.pointer (some ⟨P, 0, none⟩), .pointer (some ⟨Q, 0, none⟩), .pointer (some ⟨R, 0, none⟩)]) (by simp) (by kernel_rfl) ?_
    refine (catch_any p.2 s v hQP hRQ W2 hPb hN hRb (HL.out.below hBl (Nat.le_refl _)) hBl.size hr).mono ?_
    rintro e u' W3 ⟨rfl, rfl, v2, hQ3, hR3, hO3, hB3⟩
    refine ⟨_, res_att rfl _ rfl rfl hQ3 hR3, v2, ?_, ?_, ?_⟩
    · rw [if_neg h0]
    · rw [if_neg h0]; exact hO3.low hBl.size
    · exact hBl.trans (hB3.mono hge) 
  refine dF ?_
  try simp only [puts, Tk.put, Act.put, List.setIfInBounds_toArray, List.set_cons_zero, List.set_cons_succ]
  clear h hO hM
  go_upto_region 4 with fail
  refine wp_region_from ?_
  refine tF 1 [.load 0 (some 11) 34 (pt Q 0) (stv p.1 v')] ⟨ld_st hB, trivial⟩ ?_
  have hg1 := grownBy_row W2 Q (stc p.1 v').toArray
  have hB1 := hB.row (stc p.1 v')
  have hRb1 := hRb.rowO (stc p.1 v').toArray (show R ≠ Q by omega)
  have hO1 := hO'.grown (show Q < b0 by omega) hg1
  have hBl1 := hBl.grown hg1 hBl.size (fun e he => by cases he; omega)
  refine sF (w' := W2.setRow Q (stc p.1 v').toArray) 34 (pt Q 0) (stv p.1 v') (sto_st hB (stc_len _ _) p.1 hO'.one.1) ?_
  generalize W2.setRow Q (stc p.1 v').toArray = W3 at *
  have hg2 := grownBy_row W3 R [.int .i64 0].toArray
  have hB2 := hB1.rowO [.int .i64 0].toArray (show Q ≠ R by omega)
  have hRb2 := hRb1.row [.int .i64 0]
  have hO2 := hO1.grown hRl hg2
  have hBl2 := hBl1.grown hg2 hBl1.size (fun e he => by cases he; omega)
  refine sF (w' := W3.setRow R [.int .i64 0].toArray) 42 (pt R 0) (.int .i64 0) (sto_er hRb1 0) ?_
  generalize W3.setRow R [.int .i64 0].toArray = W4 at *
  refine dF ?_
  try simp only [puts, Tk.put, Act.put, List.setIfInBounds_toArray, List.set_cons_zero, List.set_cons_succ]
  have H0 := Lib.hid h0
  clear h0 hg1 hg2
  go_wp2_with fail
  refine leaves_cons (f := 57) (args := #[.pointer (some ⟨P, 0, none⟩), .pointer (some ⟨Q, 0, none⟩), .pointer (some ⟨R, 0, none⟩)]) (by simp) (by kernel_rfl) ?_
  refine (catch_idle _ _ _ W4).mono ?_
  rintro e u' W5 ⟨rfl, rfl, rfl⟩
  refine ⟨_, res_att rfl _ rfl rfl hB2 hRb2, v', ?_, ?_, hBl2⟩
  · rw [if_pos H0.out, H0.out]
  · rw [if_pos H0.out]; exact hO2.low (by omega)
set_option maxRecDepth 100000 in
set_option maxHeartbeats 4000000 in
theorem attempt2_any (cap : Value) (s : Es) (v : Value) (p : Es × Int) (w : World) {lo : Nat} (hl : RSl lkc lo w.heap.size w v s.lk) (hr : s.lk.length * 40 ≤ 140737488355328)
    (hd : ∀ (W : World) (v1 : Value) (B b0 : Nat), Below w.heap.size w W → w.heap.size ≤ B → B < b0 → b0 ≤ W.heap.size → Blk W B 34 (stc s v1) → OwnL b0 W v1 s.lk → Calls Tryz.prog 31 #[.pointer (some ⟨B, 0, none⟩), cap] W (EndL W B b0 p)) :
    Calls Tryz.prog 28 #[stv s v, .func (.func 31) #[] #[cap]] w (AttR s p w) := by
  have HD := Lib.hid hd
  have HL := Lib.hid hl
  clear hd hl
  have hM := Mem.start w
  go_enter_defers Tryz.func28, Tryz.ntmps28
  go_upto_region 0 with fail
  refine wp_region_fromM (fun W => Mem w none [] W) hM ?_
  clear hM
  rintro Y1 hM
  refine rF (some 2) (pt Y1.heap.size 0) (Y1.alloc (.cells (stc s v).toArray 34)) ?_
  replace hM := hM.alloc 34 (stc s v)
  generalize World.alloc _ _ = Y2 at *
  generalize hNe : Y1.heap.size = P at *
  clear hNe
  have hP0 := (hM.at 0 rfl).lt
  refine rF (some 4) (pt Y2.heap.size 0) (Y2.alloc (.cells (stc zS nilV).toArray 34)) ?_
  replace hM := hM.alloc 34 (stc zS nilV)
  generalize World.alloc _ _ = Y3 at *
  generalize hNe : Y2.heap.size = Q at *
  clear hNe
  have hQ0 := (hM.at 0 rfl).lt
  refine rF (some 5) (pt Y3.heap.size 0) (Y3.alloc (.cells ([.int .i64 0]).toArray 42)) ?_
  replace hM := hM.alloc 42 ([.int .i64 0])
  generalize World.alloc _ _ = Y4 at *
  generalize hNe : Y3.heap.size = R at *
  clear hNe
  refine dF ?_
  try simp only [Act.put, List.setIfInBounds_toArray, List.set_cons_zero, List.set_cons_succ]
  have hQP : P < Q := (List.pairwise_cons.1 (List.pairwise_cons.1 hM.2.1).2).1 _ (List.mem_singleton.2 rfl)
  have hRQ : Q < R := (List.pairwise_cons.1 hM.2.1).1 _ (List.mem_cons_self ..)
  clear hP0 hQ0
  go_upto_region 1 with fail
  refine wp_region_fromM (fun W => Mem w none [(R, 42, [.int .i64 0]), (Q, 34, stc zS nilV), (P, 34, stc s v)] W) hM ?_
  clear hM
  rintro Y5 hM
  refine tF 1 [.val 0 (some 6) (.func (.func 57) #[] #[.pointer (some ⟨P, 0, none⟩), .pointer (some ⟨Q, 0, none⟩), .pointer (some ⟨R, 0, none⟩)])] trivial ?_
  refine wpFrom_defer (d := { target := .fn (.func 57) #[.pointer (some ⟨P, 0, none⟩), .pointer (some ⟨Q, 0, none⟩), .pointer (some ⟨R, 0, none⟩)], args := #[] }) (by kernel_rfl) ?_
  refine dF ?_
  try simp only [puts, Tk.put, Act.put, List.setIfInBounds_toArray, List.set_cons_zero, List.set_cons_succ]
  go_upto_region 2 with fail
  refine wp_region_fromM (fun W => Mem w none [(R, 42, [.int .i64 0]), (Q, 34, stc zS nilV), (P, 34, stc s v)] W) hM ?_
  clear hM
  rintro Y6 hM
  refine tF 1 [.load 0 (some 7) 34 (pt P 0) (stv (s) (v))] ⟨ld_st (hM.at 2 rfl), trivial⟩ ?_
  refine cF (some 8) 27 #[stv (s) (v)] ((own_any s v _ (HL.out.below hM.b (Nat.le_refl _)) hM.size hr).mono ?_)
  rintro e W1 ⟨v1, rfl, hO, hb⟩
  have hRl := (hM.at 0 rfl).lt
  replace hM := hM.below hb
  have hb1 := hb.size
  clear hb
  have hg1 := grownBy_row W1 Q (stc s v1).toArray
  replace hO := hO.grown (Nat.lt_trans hRQ hRl) hg1
  refine sF (w' := W1.setRow Q (stc s v1).toArray) 34 (pt Q 0) (stv s v1) (sto_st (hM.at 1 rfl) (stc_len _ _) s hO.one.1) ?_
  replace hM := hM.set 1 (cs' := stc s v1) rfl rfl
  generalize World.setRow _ _ _ = Y7 at *
  refine dF ?_
  try simp only [puts, Tk.put, Act.put, List.setIfInBounds_toArray, List.set_cons_zero, List.set_cons_succ]
  have hbw := Nat.le_trans hb1 hg1.size
  clear hg1 hb1
  go_upto_region 3 with fail
  refine wp_region_fromM (fun W => Mem w none [(R, 42, [.int .i64 0]), (Q, 34, stc s v1), (P, 34, stc s v)] W ∧ OwnL Y6.heap.size W v1 s.lk ∧ Y6.heap.size ≤ W.heap.size) ⟨hM, hO, hbw⟩ ?_
  clear hM hO hbw
  rintro Y8 ⟨hM, hO, hbw⟩
  refine tF 1 [.val 0 (some 9) (.func (.func 31) #[] #[cap])] trivial ?_
  generalize hb0 : Y6.heap.size = b0 at *
  clear hb0
  refine cF (some 10) 31 #[.pointer (some ⟨Q, 0, none⟩), cap] ((HD.out Y8 v1 Q b0 hM.b (hM.ge 1 rfl (by simp)) (Nat.lt_trans hRQ hRl) hbw (hM.at 1 rfl) hO).mono ?_)
  rintro e W2 h
  have hPb := Turn.blk (k := P) (b0 := b0) (B := Q) h.1 (by omega) (by omega) (hM.at 2 rfl)
  have hRb := Turn.blk (k := R) (b0 := b0) (B := Q) h.1 hRl (by omega) (hM.at 0 rfl)
  have hge := hM.ge 2 rfl (by simp)
  have hBl : Below w.heap.size w W2 := ⟨h.1.1.trans hM.b.os, h.1.2.1.trans hM.b.tape, h.1.2.2.1.trans hM.b.output, Nat.le_trans hM.b.size h.1.2.2.2.1, fun k hk => (h.1.2.2.2.2 k (by omega) (by omega)).trans (hM.b.block k hk)⟩
  rcases h.two with ⟨h0, rfl, _, v', hB, hO'⟩ | ⟨h0, rfl, _, hN⟩
  case inr =>
    refine leaves_cons (f := 57) (args := #[.pointer (some ⟨P, 0, none⟩), .pointer (some ⟨Q, 0, none⟩), .pointer (some ⟨R, 0, none⟩)]) (by simp) (by kernel_rfl) ?_
    refine (catch_any p.2 s v hQP hRQ W2 hPb hN hRb (HL.out.below hBl (Nat.le_refl _)) hBl.size hr).mono ?_
    rintro e u' W3 ⟨rfl, rfl, v2, hQ3, hR3, hO3, hB3⟩
    refine ⟨_, res_att rfl _ rfl rfl hQ3 hR3, v2, ?_, ?_, ?_⟩
    · rw [if_neg h0]
    · rw [if_neg h0]; exact hO3.low hBl.size
    · exact hBl.trans (hB3.mono hge) 
  refine dF ?_
  try simp only [puts, Tk.put, Act.put, List.setIfInBounds_toArray, List.set_cons_zero, List.set_cons_succ]
  clear h hO hM
  go_upto_region 4 with fail
  refine wp_region_from ?_
  refine tF 1 [.load 0 (some 11) 34 (pt Q 0) (stv p.1 v')] ⟨ld_st hB, trivial⟩ ?_
  have hg1 := grownBy_row W2 Q (stc p.1 v').toArray
  have hB1 := hB.row (stc p.1 v')
  have hRb1 := hRb.rowO (stc p.1 v').toArray (show R ≠ Q by omega)
  have hO1 := hO'.grown (show Q < b0 by omega) hg1
  have hBl1 := hBl.grown hg1 hBl.size (fun e he => by cases he; omega)
  refine sF (w' := W2.setRow Q (stc p.1 v').toArray) 34 (pt Q 0) (stv p.1 v') (sto_st hB (stc_len _ _) p.1 hO'.one.1) ?_
  generalize W2.setRow Q (stc p.1 v').toArray = W3 at *
  have hg2 := grownBy_row W3 R [.int .i64 0].toArray
  have hB2 := hB1.rowO [.int .i64 0].toArray (show Q ≠ R by omega)
  have hRb2 := hRb1.row [.int .i64 0]
  have hO2 := hO1.grown hRl hg2
  have hBl2 := hBl1.grown hg2 hBl1.size (fun e he => by cases he; omega)
  refine sF (w' := W3.setRow R [.int .i64 0].toArray) 42 (pt R 0) (.int .i64 0) (sto_er hRb1 0) ?_
  generalize W3.setRow R [.int .i64 0].toArray = W4 at *
  refine dF ?_
  try simp only [puts, Tk.put, Act.put, List.setIfInBounds_toArray, List.set_cons_zero, List.set_cons_succ]
  have H0 := Lib.hid h0
  clear h0 hg1 hg2
  go_wp2_with fail
  refine leaves_cons (f := 57) (args := #[.pointer (some ⟨P, 0, none⟩), .pointer (some ⟨Q, 0, none⟩), .pointer (some ⟨R, 0, none⟩)]) (by simp) (by kernel_rfl) ?_
  refine (catch_idle _ _ _ W4).mono ?_
  rintro e u' W5 ⟨rfl, rfl, rfl⟩
  refine ⟨_, res_att rfl _ rfl rfl hB2 hRb2, v', ?_, ?_, hBl2⟩
  · rw [if_pos H0.out, H0.out]
  · rw [if_pos H0.out]; exact hO2.low (by omega)
end Go.Proofs.YthhmdgmmeedhdaaGreat
namespace Go.Proofs.YthhmdgmmeedhdaaGreat
open Go.RowKit Go.Shelf
theorem AttR.ok {s : Es} {p : Es × Int} {w W' : World} {e : Ending} (h : AttR s p w e W') (hp : p.2 = 0) : ∃ v', e = .returned (.tuple #[stv p.1 v', .int .i64 0]) ∧ OwnL w.heap.size W' v' p.1.lk ∧ Below w.heap.size w W' := by
  obtain ⟨v', h1, h2, h3⟩ := h
  rw [if_pos hp, hp] at h1
  rw [if_pos hp] at h2
  exact ⟨v', h1, h2, h3⟩
theorem AttR.no {s : Es} {p : Es × Int} {w W' : World} {e : Ending} (h : AttR s p w e W') (hp : p.2 ≠ 0) : ∃ v', e = .returned (.tuple #[stv s v', .int .i64 p.2]) ∧ OwnL w.heap.size W' v' s.lk ∧ Below w.heap.size w W' := by
  obtain ⟨v', h1, h2, h3⟩ := h
  rw [if_neg hp] at h1 h2
  exact ⟨v', h1, h2, h3⟩
theorem chg_ok {s : Es} {t : Tr} (hs : OkE s) (h : (chgE s t).2 = 0) : errT t = 0 ∧ OkE (chgE s t).1 ∧ (chgE s t).1.lk = s.lk := by
  unfold chgE at h ⊢
  by_cases e1 : errT t ≠ 0
  · rw [if_pos e1] at h; exact absurd h e1
  · rw [if_neg e1] at h ⊢
    by_cases e2 : t.no ≠ s.no t.fr.toNat
    · rw [if_pos e2] at h; exact absurd h (show ¬ (20 : Int) = 0 by decide)
    · rw [if_neg e2] at h ⊢
      by_cases e3 : (takeB s.pu t.fr 0 1).2 ≠ 0
      · rw [if_pos e3] at h; exact absurd h (show ¬ (21 : Int) = 0 by decide)
      · rw [if_neg e3] at h ⊢
        by_cases e4 : ¬ s.bu + 1 < M4
        · rw [if_pos e4] at h; exact absurd h (show ¬ (21 : Int) = 0 by decide)
        · rw [if_neg e4]
          exact ⟨Decidable.not_not.1 e1, ⟨hs.t0, hs.t1, hs.d, okK_take hs.p _ _ _, hs.v, hs.h, Decidable.not_not.1 e4⟩, rfl⟩
theorem apply1_any (s : Es) (v : Value) (hs : OkE s) (t : Tr) {B b0 X : Nat} (w : World) (hBb : B < b0) (hb0 : b0 ≤ w.heap.size) (hB : Blk w B 34 (stc s v)) (ho : OwnL b0 w v s.lk) (hX : Blk w X 50 (txc t)) :
    Calls Tryz.prog 29 #[.pointer (some ⟨B, 0, none⟩), .pointer (some ⟨X, 0, none⟩)] w (EndL w B b0 (chgE s t)) := by
  go_enter Tryz.func29, Tryz.ntmps29
  go_upto_region 0 with fail
  refine wp_region_from ?_
  refine tF 2 [.val 0 (some 3) (pt B 0), .load 1 (some 4) 50 (pt X 0) (txv t)] ⟨ld_tx hX, trivial⟩ ?_
  refine cF (some 5) 30 #[pt B 0, txv t] ((charge_any s v hs t w hB).mono ?_)
  rintro e W1 h
  have fin : EndL w B b0 (chgE s t) e W1 := by
    by_cases h0 : (chgE s t).2 = 0
    · exact EndL.of (grownBy_refl w _) hb0 hBb (by rw [(chg_ok hs h0).2.2]; exact ho) h rfl
    · exact EndL.fail (grownBy_refl w _) hb0 h h0 rfl
  rcases h.two with ⟨h0, rfl, _, _⟩ | ⟨h0, rfl, _⟩
  case inr => exact And.intro rfl fin
  clear h h0
  refine dF ?_
  try simp only [puts, Tk.put, Act.put, List.setIfInBounds_toArray, List.set_cons_zero, List.set_cons_succ]
  go_wp2_with fail
  go_end0
  exact fin
theorem apply2_any (s : Es) (v : Value) (hs : OkE s) (t : Tr) (ht : OkT t) (he : errT t = 0) {B b0 X : Nat} (w : World) (hBb : B < b0) (hb0 : b0 ≤ w.heap.size) (hB : Blk w B 34 (stc s v)) (ho : OwnL b0 w v s.lk) (hr : (s.lk.length + 1) * 40 ≤ 140737488355328) (hX : Blk w X 50 (txc t)) :
    Calls Tryz.prog 31 #[.pointer (some ⟨B, 0, none⟩), .pointer (some ⟨X, 0, none⟩)] w (EndL w B b0 (doP s t)) := by
  go_enter Tryz.func31, Tryz.ntmps31
  go_upto_region 0 with fail
  refine wp_region_from ?_
  refine tF 2 [.val 0 (some 3) (pt B 0), .load 1 (some 4) 50 (pt X 0) (txv t)] ⟨ld_tx hX, trivial⟩ ?_
  refine cF (some 5) 32 #[pt B 0, txv t] ((do_any s v hs t ht he w hBb hb0 hB ho hr).mono ?_)
  rintro e W1 h
  have fin := h
  rcases h.two with ⟨h0, rfl, _, _⟩ | ⟨h0, rfl, _⟩
  case inr => exact And.intro rfl fin
  clear h h0
  refine dF ?_
  try simp only [puts, Tk.put, Act.put, List.setIfInBounds_toArray, List.set_cons_zero, List.set_cons_succ]
  go_wp2_with fail
  go_end0
  exact fin
def applyP (s : Es) (t : Tr) : Es × Int × Bool :=
  if (chgE s t).2 ≠ 0 then (s, (chgE s t).2, false) else if (doP (chgE s t).1 t).2 ≠ 0 then ((chgE s t).1, (doP (chgE s t).1 t).2, true) else ((doP (chgE s t).1 t).1, 0, true)
def ApplyR (p : Es × Int × Bool) (w : World) (e : Ending) (W' : World) : Prop := ∃ v', e = .returned (.tuple #[stv p.1 v', .int .i64 p.2.1, .bool p.2.2]) ∧ OwnL w.heap.size W' v' p.1.lk ∧ Below w.heap.size w W'
theorem res_app {fn : Func} {p q r : Tmp} (h : fn.results = #[.cell p 34, .tmp q, .tmp r]) (tmps : Array Value) {w : World} {g : Nat} {T : TypeId} {s : Es} {v a b : Value} (hp : tmps.getD p undef = .pointer (some ⟨g, 0, none⟩)) (hq : tmps.getD q undef = a) (hr : tmps.getD r undef = b) (hg : Blk w g T (stc s v)) :
    (results fn tmps).run Tryz.prog w = .ok (.tuple #[stv s v, a, b]) w := by
  have hp' : tmps[p]?.getD undef = .pointer (some ⟨g, 0, none⟩) := by simpa using hp
  have hq' : tmps[q]?.getD undef = a := by simpa using hq
  have hr' : tmps[r]?.getD undef = b := by simpa using hr
  simp [results, h, hp', hq', hr', asAddr, run_loadVar_row w g T 34 (stc s v).toArray (0, 0) _ hg Tryz.underlying34 rfl (by rw [List.size_toArray, stc_len]; exact info_st)]
theorem OwnL.row {b B : Nat} {W : World} {v : Value} {l : List Lk} (h : OwnL b W v l) (hne : ∀ k, v.ownBlock = some k → k ≠ B) (cs : Array Value) : OwnL b (W.setRow B cs) v l := by
  refine h.kept (grownBy_row W B cs) ?_
  cases hv : v.ownBlock with
  | none => exact .inl rfl
  | some k => exact .inr fun e => hne k hv (Option.some.inj e)
set_option maxRecDepth 100000 in
set_option maxHeartbeats 4000000 in
theorem esc_apply_any (s : Es) (v : Value) (hs : OkE s) (t : Tr) (ht : OkT t) (w : World) {lo hi : Nat} (hl : RSl lkc lo hi w v s.lk) (hhi : hi ≤ w.heap.size) (hr : (s.lk.length + 1) * 40 ≤ 140737488355328) :
    Calls Tryz.prog 12 #[stv s v, txv t] w (ApplyR (applyP s t) w) := by
  have HL := Lib.hid hl
  clear hl
  have hM := Mem.start w
  go_enter Tryz.func12, Tryz.ntmps12
  go_upto_region 0 with fail
  refine wp_region_fromM (fun W => Mem w none [] W) hM ?_
  clear hM
  rintro Y1 hM
  refine rF (some 2) (pt Y1.heap.size 0) (Y1.alloc (.cells (stc s v).toArray 34)) ?_
  replace hM := hM.alloc 34 (stc s v)
  generalize World.alloc _ _ = Y2 at *
  generalize hNe : Y1.heap.size = P at *
  clear hNe
  refine rF (some 3) (pt Y2.heap.size 0) (Y2.alloc (.cells (txc t).toArray 50)) ?_
  replace hM := hM.alloc 50 (txc t)
  generalize World.alloc _ _ = Y3 at *
  generalize hNe : Y2.heap.size = X at *
  clear hNe
  refine rF (some 4) (pt Y3.heap.size 0) (Y3.alloc (.cells (stc zS nilV).toArray 34)) ?_
  replace hM := hM.alloc 34 (stc zS nilV)
  generalize World.alloc _ _ = Y4 at *
  generalize hNe : Y3.heap.size = R at *
  clear hNe
  refine tF 5 [.val 3 (some 5) (.int .i64 0), .val 4 (some 6) (.bool false)] trivial ?_
  refine dF ?_
  try simp only [puts, Tk.put, Act.put, List.setIfInBounds_toArray, List.set_cons_zero, List.set_cons_succ]
  by_cases hc : (chgE s t).2 = 0
  case neg =>
    have HC := Lib.hid hc
    clear hc
    go_upto_region 1 with fail
    refine wp_region_fromM (fun W => Mem w none [(R, 34, stc zS nilV), (X, 50, txc t), (P, 34, stc s v)] W) hM ?_
    clear hM
    rintro Y5 hM
    refine tF 2 [.load 0 (some 11) 34 (pt P 0) (stv (s) (v)), .val 1 (some 12) (.func (.func 29) #[] #[.pointer (some ⟨X, 0, none⟩)])] ⟨ld_st (hM.at 2 rfl), trivial⟩ ?_
    refine cF (some 13) 28 #[stv (s) (v), .func (.func 29) #[] #[.pointer (some ⟨X, 0, none⟩)]] ((((attempt1_any (.pointer (some ⟨X, 0, none⟩)) s v (chgE s t) Y5 ((HL.out.below hM.b hhi).wide (Nat.le_trans hhi hM.size)) (by omega) (fun W v1 B b0 hW hB1 hBb hb0 hB ho => apply1_any s v1 hs t W hBb hb0 hB ho ((hM.at 1 rfl).below hW (hM.at 1 rfl).lt))).mono fun _ _ h => h.no HC.out)).mono ?_)
    rintro e W1 ⟨v1, rfl, hO, hb⟩
    have hRY := (hM.at 0 rfl).lt
    have hk1 := fun k hk => hO.lt k hk
    replace hO := hO.low hM.size
    replace hM := hM.below hb
    clear hb
    replace hO := hO.alloc (.cells (stc zS nilV).toArray 34)
    refine tF 6 [.val 3 (some 10) (.tuple #[stv (s) v1, .int .i64 (chgE s t).2]), .val 4 (some 14) (stv (s) v1), .val 5 (some 15) (.int .i64 (chgE s t).2)] trivial ?_
    refine rF (some 7) (pt W1.heap.size 0) (W1.alloc (.cells (stc zS nilV).toArray 34)) ?_
    replace hM := hM.alloc 34 (stc zS nilV)
    generalize World.alloc _ _ = Y6 at *
    generalize hNe : W1.heap.size = N at *
    clear hNe
    have hO1 := OwnL.row hO (B := N) (fun k hk => by have := hk1 k hk; omega) (stc (s) v1).toArray
    refine sF (w' := Y6.setRow N (stc (s) v1).toArray) 34 (pt N 0) (stv (s) v1) (sto_st (hM.at 0 rfl) (stc_len _ _) (s) (OwnL.one hO).1) ?_
    replace hM := hM.set 0 (cs' := stc (s) v1) rfl rfl
    generalize World.setRow _ _ _ = Y7 at *
    replace hO := hO1
    clear hO1
    refine tF 9 [.val 8 (some 8) (.int .i64 (chgE s t).2)] trivial ?_
    refine dF ?_
    try simp only [puts, Tk.put, Act.put, List.setIfInBounds_toArray, List.set_cons_zero, List.set_cons_succ]
    go_upto_region 2 with fail
    refine wp_region_fromM (fun W => Mem w none [(N, 34, stc (s) v1), (R, 34, stc zS nilV), (X, 50, txc t), (P, 34, stc s v)] W ∧ OwnL w.heap.size W v1 (s).lk) ⟨hM, hO⟩ ?_
    clear hM hO
    rintro Y8 ⟨hM, hO⟩
    refine tF 2 [.val 0 (some 16) (.int .i64 (chgE s t).2), .alt 1 (some 17) (.bool ((chgE s t).2 != 0)) (.bool true)] ⟨congrArg Value.bool (bne_iff_ne.2 HC.out), trivial⟩ ?_
    refine dF ?_
    try simp only [puts, Tk.put, Act.put, List.setIfInBounds_toArray, List.set_cons_zero, List.set_cons_succ]
    go_upto_region 3 with fail
    refine wp_region_fromM (fun W => Mem w none [(N, 34, stc (s) v1), (R, 34, stc zS nilV), (X, 50, txc t), (P, 34, stc s v)] W ∧ OwnL w.heap.size W v1 (s).lk) ⟨hM, hO⟩ ?_
    clear hM hO
    rintro Y9 ⟨hM, hO⟩
    refine tF 2 [.load 0 (some 18) 34 (pt N 0) (stv (s) (v1)), .val 1 (some 19) (.int .i64 (chgE s t).2)] ⟨ld_st (hM.at 0 rfl), trivial⟩ ?_
    have hO1 := OwnL.row hO (B := R) (fun k hk => by have := hk1 k hk; omega) (stc s v1).toArray
    refine sF (w' := Y9.setRow R (stc s v1).toArray) 34 (pt R 0) (stv (s) (v1)) (sto_st (hM.at 1 rfl) (stc_len _ _) s (OwnL.one hO).1) ?_
    replace hM := hM.set 1 (cs' := stc s v1) rfl rfl
    generalize World.setRow _ _ _ = Y10 at *
    refine tF 5 [.val 3 (some 5) (.int .i64 (chgE s t).2), .val 4 (some 6) (.bool false)] trivial ?_
    refine dF ?_
    try simp only [puts, Tk.put, Act.put, List.setIfInBounds_toArray, List.set_cons_zero, List.set_cons_succ]
    have hO2 := hO1
    clear hk1
    go_wp2_with fail
    exact bodyPost_ret (v := .tuple #[stv s v1, .int .i64 (chgE s t).2, .bool false]) (res_app rfl _ rfl rfl rfl (hM.at 1 rfl)) rfl ⟨v1, by unfold applyP; rw [if_pos HC.out], by unfold applyP; rw [if_pos HC.out]; exact hO2, hM.b⟩
  have HC := Lib.hid hc
  clear hc
  go_upto_region 1 with fail
  refine wp_region_fromM (fun W => Mem w none [(R, 34, stc zS nilV), (X, 50, txc t), (P, 34, stc s v)] W) hM ?_
  clear hM
  rintro Y11 hM
  refine tF 2 [.load 0 (some 11) 34 (pt P 0) (stv (s) (v)), .val 1 (some 12) (.func (.func 29) #[] #[.pointer (some ⟨X, 0, none⟩)])] ⟨ld_st (hM.at 2 rfl), trivial⟩ ?_
  refine cF (some 13) 28 #[stv (s) (v), .func (.func 29) #[] #[.pointer (some ⟨X, 0, none⟩)]] ((((attempt1_any (.pointer (some ⟨X, 0, none⟩)) s v (chgE s t) Y11 ((HL.out.below hM.b hhi).wide (Nat.le_trans hhi hM.size)) (by omega) (fun W v1 B b0 hW hB1 hBb hb0 hB ho => apply1_any s v1 hs t W hBb hb0 hB ho ((hM.at 1 rfl).below hW (hM.at 1 rfl).lt))).mono fun _ _ h => h.ok HC.out)).mono ?_)
  rintro e W1 ⟨v1, rfl, hO, hb⟩
  have hRY := (hM.at 0 rfl).lt
  have hk1 := fun k hk => hO.lt k hk
  replace hO := hO.low hM.size
  replace hM := hM.below hb
  clear hb
  replace hO := hO.alloc (.cells (stc zS nilV).toArray 34)
  refine tF 6 [.val 3 (some 10) (.tuple #[stv ((chgE s t).1) v1, .int .i64 0]), .val 4 (some 14) (stv ((chgE s t).1) v1), .val 5 (some 15) (.int .i64 0)] trivial ?_
  refine rF (some 7) (pt W1.heap.size 0) (W1.alloc (.cells (stc zS nilV).toArray 34)) ?_
  replace hM := hM.alloc 34 (stc zS nilV)
  generalize World.alloc _ _ = Y12 at *
  generalize hNe : W1.heap.size = N at *
  clear hNe
  have hO1 := OwnL.row hO (B := N) (fun k hk => by have := hk1 k hk; omega) (stc ((chgE s t).1) v1).toArray
  refine sF (w' := Y12.setRow N (stc ((chgE s t).1) v1).toArray) 34 (pt N 0) (stv ((chgE s t).1) v1) (sto_st (hM.at 0 rfl) (stc_len _ _) ((chgE s t).1) (OwnL.one hO).1) ?_
  replace hM := hM.set 0 (cs' := stc ((chgE s t).1) v1) rfl rfl
  generalize World.setRow _ _ _ = Y13 at *
  replace hO := hO1
  clear hO1
  refine tF 9 [.val 8 (some 8) (.int .i64 0)] trivial ?_
  refine dF ?_
  try simp only [puts, Tk.put, Act.put, List.setIfInBounds_toArray, List.set_cons_zero, List.set_cons_succ]
  go_upto_region 2 with fail
  refine wp_region_fromM (fun W => Mem w none [(N, 34, stc ((chgE s t).1) v1), (R, 34, stc zS nilV), (X, 50, txc t), (P, 34, stc s v)] W ∧ OwnL w.heap.size W v1 ((chgE s t).1).lk) ⟨hM, hO⟩ ?_
  clear hM hO
  rintro Y14 ⟨hM, hO⟩
  refine tF 2 [.val 0 (some 16) (.int .i64 0), .val 1 (some 17) (.bool false)] trivial ?_
  refine dF ?_
  try simp only [puts, Tk.put, Act.put, List.setIfInBounds_toArray, List.set_cons_zero, List.set_cons_succ]
  obtain ⟨he, hs1, hlk⟩ := chg_ok hs HC.out
  by_cases hd : (doP (chgE s t).1 t).2 = 0
  case pos =>
    have HD := Lib.hid hd
    clear hd
    go_upto_region 4 with fail
    refine wp_region_fromM (fun W => Mem w none [(N, 34, stc ((chgE s t).1) v1), (R, 34, stc zS nilV), (X, 50, txc t), (P, 34, stc s v)] W ∧ OwnL w.heap.size W v1 ((chgE s t).1).lk) ⟨hM, hO⟩ ?_
    clear hM hO
    rintro Y15 ⟨hM, hO⟩
    refine tF 2 [.load 0 (some 21) 34 (pt N 0) (stv ((chgE s t).1) (v1)), .val 1 (some 22) (.func (.func 31) #[] #[.pointer (some ⟨X, 0, none⟩)])] ⟨ld_st (hM.at 0 rfl), trivial⟩ ?_
    refine cF (some 23) 28 #[stv ((chgE s t).1) (v1), .func (.func 31) #[] #[.pointer (some ⟨X, 0, none⟩)]] ((((attempt2_any (.pointer (some ⟨X, 0, none⟩)) (chgE s t).1 v1 (doP (chgE s t).1 t) Y15 (OwnL.rsl hO) (by rw [hlk]; omega) (fun W v2 B b0 hW hB1 hBb hb0 hB ho => apply2_any (chgE s t).1 v2 hs1 t ht he W hBb hb0 hB ho (by rw [hlk]; exact hr) ((hM.at 2 rfl).below hW (hM.at 2 rfl).lt))).mono fun _ _ h => h.ok HD.out)).mono ?_)
    rintro e W1 ⟨v2, rfl, hO, hb⟩
    have hRY2 := (hM.at 1 rfl).lt
    have hk2 := fun k hk => hO.lt k hk
    replace hO := hO.low hM.size
    replace hM := hM.below hb
    clear hb
    replace hO := hO.alloc (.cells (stc zS nilV).toArray 34)
    refine tF 6 [.val 3 (some 20) (.tuple #[stv ((doP (chgE s t).1 t).1) v2, .int .i64 0]), .val 4 (some 24) (stv ((doP (chgE s t).1 t).1) v2), .val 5 (some 25) (.int .i64 0)] trivial ?_
    refine rF (some 9) (pt W1.heap.size 0) (W1.alloc (.cells (stc zS nilV).toArray 34)) ?_
    replace hM := hM.alloc 34 (stc zS nilV)
    generalize World.alloc _ _ = Y16 at *
    generalize hNe : W1.heap.size = N2 at *
    clear hNe
    have hO1 := OwnL.row hO (B := N2) (fun k hk => by have := hk2 k hk; omega) (stc ((doP (chgE s t).1 t).1) v2).toArray
    refine sF (w' := Y16.setRow N2 (stc ((doP (chgE s t).1 t).1) v2).toArray) 34 (pt N2 0) (stv ((doP (chgE s t).1 t).1) v2) (sto_st (hM.at 0 rfl) (stc_len _ _) ((doP (chgE s t).1 t).1) (OwnL.one hO).1) ?_
    replace hM := hM.set 0 (cs' := stc ((doP (chgE s t).1 t).1) v2) rfl rfl
    generalize World.setRow _ _ _ = Y17 at *
    replace hO := hO1
    clear hO1
    refine tF 9 [.val 8 (some 8) (.int .i64 0)] trivial ?_
    refine dF ?_
    try simp only [puts, Tk.put, Act.put, List.setIfInBounds_toArray, List.set_cons_zero, List.set_cons_succ]
    go_upto_region 5 with fail
    refine wp_region_fromM (fun W => Mem w none [(N2, 34, stc ((doP (chgE s t).1 t).1) v2), (N, 34, stc ((chgE s t).1) v1), (R, 34, stc zS nilV), (X, 50, txc t), (P, 34, stc s v)] W ∧ OwnL w.heap.size W v2 ((doP (chgE s t).1 t).1).lk) ⟨hM, hO⟩ ?_
    clear hM hO
    rintro Y18 ⟨hM, hO⟩
    refine tF 2 [.load 0 (some 26) 34 (pt N2 0) (stv ((doP (chgE s t).1 t).1) (v2)), .val 1 (some 27) (.int .i64 0)] ⟨ld_st (hM.at 0 rfl), trivial⟩ ?_
    have hO1 := OwnL.row hO (B := R) (fun k hk => by have := hk2 k hk; omega) (stc ((doP (chgE s t).1 t).1) v2).toArray
    refine sF (w' := Y18.setRow R (stc ((doP (chgE s t).1 t).1) v2).toArray) 34 (pt R 0) (stv ((doP (chgE s t).1 t).1) (v2)) (sto_st (hM.at 2 rfl) (stc_len _ _) ((doP (chgE s t).1 t).1) (OwnL.one hO).1) ?_
    replace hM := hM.set 2 (cs' := stc ((doP (chgE s t).1 t).1) v2) rfl rfl
    generalize World.setRow _ _ _ = Y19 at *
    refine tF 5 [.val 3 (some 5) (.int .i64 0), .val 4 (some 6) (.bool true)] trivial ?_
    refine dF ?_
    try simp only [puts, Tk.put, Act.put, List.setIfInBounds_toArray, List.set_cons_zero, List.set_cons_succ]
    have hO2 := hO1
    clear hk1 hk2
    go_wp2_with fail
    exact bodyPost_ret (v := .tuple #[stv ((doP (chgE s t).1 t).1) v2, .int .i64 0, .bool true]) (res_app rfl _ rfl rfl rfl (hM.at 2 rfl)) rfl ⟨v2, by unfold applyP; rw [if_neg (not_not_intro HC.out), if_neg (not_not_intro HD.out)], by unfold applyP; rw [if_neg (not_not_intro HC.out), if_neg (not_not_intro HD.out)]; exact hO2, hM.b⟩
  have HD := Lib.hid hd
  clear hd
  go_upto_region 4 with fail
  refine wp_region_fromM (fun W => Mem w none [(N, 34, stc ((chgE s t).1) v1), (R, 34, stc zS nilV), (X, 50, txc t), (P, 34, stc s v)] W ∧ OwnL w.heap.size W v1 ((chgE s t).1).lk) ⟨hM, hO⟩ ?_
  clear hM hO
  rintro Y20 ⟨hM, hO⟩
  refine tF 2 [.load 0 (some 21) 34 (pt N 0) (stv ((chgE s t).1) (v1)), .val 1 (some 22) (.func (.func 31) #[] #[.pointer (some ⟨X, 0, none⟩)])] ⟨ld_st (hM.at 0 rfl), trivial⟩ ?_
  refine cF (some 23) 28 #[stv ((chgE s t).1) (v1), .func (.func 31) #[] #[.pointer (some ⟨X, 0, none⟩)]] ((((attempt2_any (.pointer (some ⟨X, 0, none⟩)) (chgE s t).1 v1 (doP (chgE s t).1 t) Y20 (OwnL.rsl hO) (by rw [hlk]; omega) (fun W v2 B b0 hW hB1 hBb hb0 hB ho => apply2_any (chgE s t).1 v2 hs1 t ht he W hBb hb0 hB ho (by rw [hlk]; exact hr) ((hM.at 2 rfl).below hW (hM.at 2 rfl).lt))).mono fun _ _ h => h.no HD.out)).mono ?_)
  rintro e W1 ⟨v2, rfl, hO, hb⟩
  have hRY2 := (hM.at 1 rfl).lt
  have hk2 := fun k hk => hO.lt k hk
  replace hO := hO.low hM.size
  replace hM := hM.below hb
  clear hb
  replace hO := hO.alloc (.cells (stc zS nilV).toArray 34)
  refine tF 6 [.val 3 (some 20) (.tuple #[stv ((chgE s t).1) v2, .int .i64 (doP (chgE s t).1 t).2]), .val 4 (some 24) (stv ((chgE s t).1) v2), .val 5 (some 25) (.int .i64 (doP (chgE s t).1 t).2)] trivial ?_
  refine rF (some 9) (pt W1.heap.size 0) (W1.alloc (.cells (stc zS nilV).toArray 34)) ?_
  replace hM := hM.alloc 34 (stc zS nilV)
  generalize World.alloc _ _ = Y21 at *
  generalize hNe : W1.heap.size = N2 at *
  clear hNe
  have hO1 := OwnL.row hO (B := N2) (fun k hk => by have := hk2 k hk; omega) (stc ((chgE s t).1) v2).toArray
  refine sF (w' := Y21.setRow N2 (stc ((chgE s t).1) v2).toArray) 34 (pt N2 0) (stv ((chgE s t).1) v2) (sto_st (hM.at 0 rfl) (stc_len _ _) ((chgE s t).1) (OwnL.one hO).1) ?_
  replace hM := hM.set 0 (cs' := stc ((chgE s t).1) v2) rfl rfl
  generalize World.setRow _ _ _ = Y22 at *
  replace hO := hO1
  clear hO1
  refine tF 9 [.val 8 (some 8) (.int .i64 (doP (chgE s t).1 t).2)] trivial ?_
  refine dF ?_
  try simp only [puts, Tk.put, Act.put, List.setIfInBounds_toArray, List.set_cons_zero, List.set_cons_succ]
  go_upto_region 5 with fail
  refine wp_region_fromM (fun W => Mem w none [(N2, 34, stc ((chgE s t).1) v2), (N, 34, stc ((chgE s t).1) v1), (R, 34, stc zS nilV), (X, 50, txc t), (P, 34, stc s v)] W ∧ OwnL w.heap.size W v2 ((chgE s t).1).lk) ⟨hM, hO⟩ ?_
  clear hM hO
  rintro Y23 ⟨hM, hO⟩
  refine tF 2 [.load 0 (some 26) 34 (pt N2 0) (stv ((chgE s t).1) (v2)), .val 1 (some 27) (.int .i64 (doP (chgE s t).1 t).2)] ⟨ld_st (hM.at 0 rfl), trivial⟩ ?_
  have hO1 := OwnL.row hO (B := R) (fun k hk => by have := hk2 k hk; omega) (stc ((chgE s t).1) v2).toArray
  refine sF (w' := Y23.setRow R (stc ((chgE s t).1) v2).toArray) 34 (pt R 0) (stv ((chgE s t).1) (v2)) (sto_st (hM.at 2 rfl) (stc_len _ _) ((chgE s t).1) (OwnL.one hO).1) ?_
  replace hM := hM.set 2 (cs' := stc ((chgE s t).1) v2) rfl rfl
  generalize World.setRow _ _ _ = Y24 at *
  refine tF 5 [.val 3 (some 5) (.int .i64 (doP (chgE s t).1 t).2), .val 4 (some 6) (.bool true)] trivial ?_
  refine dF ?_
  try simp only [puts, Tk.put, Act.put, List.setIfInBounds_toArray, List.set_cons_zero, List.set_cons_succ]
  have hO2 := hO1
  clear hk1 hk2
  go_wp2_with fail
  exact bodyPost_ret (v := .tuple #[stv ((chgE s t).1) v2, .int .i64 (doP (chgE s t).1 t).2, .bool true]) (res_app rfl _ rfl rfl rfl (hM.at 2 rfl)) rfl ⟨v2, by unfold applyP; rw [if_neg (not_not_intro HC.out), if_pos HD.out], by unfold applyP; rw [if_neg (not_not_intro HC.out), if_pos HD.out]; exact hO2, hM.b⟩
end Go.Proofs.YthhmdgmmeedhdaaGreat
namespace Go.Proofs.YthhmdgmmeedhdaaGreat
open Go.RowKit Go.Shelf
theorem take_or {b : Bk} {a s : Int} {n : Nat} (h : atS a s) : (takeB b a s n).2 = 0 ∨ (takeB b a s n).2 = 30 := by
  by_cases k : n ≤ b (slotS a s)
  · exact .inl (by rw [takeB_yes h k])
  · exact .inr (by rw [takeB_low h k])
theorem give_or {b : Bk} {a s : Int} {n : Nat} (h : atS a s) : (giveB b a s n).2 = 0 ∨ (giveB b a s n).2 = 38 := by
  by_cases k : b (slotS a s) + n < M4
  · exact .inl (by rw [giveB_yes h k])
  · exact .inr (by rw [giveB_over h k])
theorem n30 : (30 : Int) ≠ 0 := by decide
theorem n38 : (38 : Int) ≠ 0 := by decide
theorem n31 : (31 : Int) ≠ 0 := by decide
theorem grow_yes {s : Es} {a n : Nat} (h : s.he a + n < M4) : growE s a n = ({ s with he := updB s.he a (s.he a + n) }, 0) := if_pos h
theorem grow_no {s : Es} {a n : Nat} (h : ¬ s.he a + n < M4) : growE s a n = (s, 38) := if_neg h
theorem shrink_yes {s : Es} {a n : Nat} (h : n ≤ s.he a) : shrinkE s a n = ({ s with he := updB s.he a (s.he a - n) }, 0) := if_pos h
theorem shrink_no {s : Es} {a n : Nat} (h : ¬ n ≤ s.he a) : shrinkE s a n = (s, 38) := if_neg h
theorem unv_yes {s : Es} {r a : Int} {n : Nat} (h : (takeB s.va r a n).2 = 0) : unvE s r a n = ({ s with va := (takeB s.va r a n).1 }, 0) := if_neg (not_not_intro h)
theorem unv_no {s : Es} {r a : Int} {n : Nat} (h : (takeB s.va r a n).2 ≠ 0) : unvE s r a n = (s, 31) := if_pos h
def Eq0 (p q : Es × Int) : Prop := p.2 = q.2 ∧ (q.2 = 0 → p.1 = q.1)
theorem Eq0.of {p q : Es × Int} (h : p = q) : Eq0 p q := by subst h; exact ⟨rfl, fun _ => rfl⟩
theorem Eq0.bad {p q : Es × Int} {c : Int} (hc : c ≠ 0) (hp : p.2 = c) (hq : q.2 = c) : Eq0 p q := ⟨by rw [hp, hq], fun h => absurd (hq.symm.trans h) hc⟩
theorem pay_eq {s : Es} {t : Tr} (h : errT t = 0) (k : t.kd = 1) : Eq0 (payP s t) (plainE s t) := by
  obtain ⟨_, fr, _, az, hm, _⟩ := errT_all h
  have tt := errM_to (hm (by omega)) k
  have a1 : atS t.fr t.az := ⟨by omega, by omega⟩
  have a2 : atS t.iv.to t.az := ⟨by omega, by omega⟩
  unfold plainE
  rw [if_pos k]
  unfold payP
  rcases take_or (b := s.pu) (n := amT t) a1 with h1 | h1
  · rcases give_or (b := (takeB s.pu t.fr t.az (amT t)).1) (n := amT t) a2 with h2 | h2
    · rw [moveB_yes h1 h2, if_neg (by simp), if_neg (not_not_intro h1), if_neg (not_not_intro h2)]
      exact Eq0.of rfl
    · rw [moveB_over h1 (by rw [h2]; exact n38), if_pos (by show (giveB _ _ _ _).2 ≠ 0; rw [h2]; exact n38), if_neg (not_not_intro h1), if_pos (by rw [h2]; exact n38)]
      exact Eq0.bad n38 h2 rfl
  · rw [moveB_low (by rw [h1]; exact n30), if_pos (by show (takeB _ _ _ _).2 ≠ 0; rw [h1]; exact n30), if_pos (by rw [h1]; exact n30)]
    exact Eq0.bad n30 h1 rfl
theorem dep_eq {s : Es} {t : Tr} (h : errT t = 0) (k : t.kd = 2) : Eq0 (depE s t) (plainE s t) := by
  obtain ⟨_, fr, _, az, hm, _⟩ := errT_all h
  have ro := errM_ro (hm (by omega)) k
  have a1 : atS t.fr t.az := ⟨by omega, by omega⟩
  have a2 : atS t.iv.ro t.az := ⟨by omega, by omega⟩
  unfold plainE
  rw [if_neg (show ¬ t.kd = 1 by omega), if_pos k]
  unfold depE
  rcases take_or (b := s.pu) (n := amT t) a1 with h1 | h1
  · rw [if_neg (not_not_intro h1), if_neg (not_not_intro h1)]
    rcases give_or (b := s.va) (n := amT t) a2 with h2 | h2
    · rw [if_neg (not_not_intro h2)]
      by_cases h3 : s.he t.az.toNat + amT t < M4
      · rw [grow_yes (s := { s with pu := (takeB s.pu t.fr t.az (amT t)).1, va := (giveB s.va t.iv.ro t.az (amT t)).1 }) h3, if_neg (fun e => e.elim (fun e => e h2) (fun e => e h3))]
        exact Eq0.of rfl
      · rw [grow_no (s := { s with pu := (takeB s.pu t.fr t.az (amT t)).1, va := (giveB s.va t.iv.ro t.az (amT t)).1 }) h3, if_pos (.inr h3)]
        exact Eq0.bad n38 rfl rfl
    · rw [if_pos (by rw [h2]; exact n38), if_pos (.inl (by rw [h2]; exact n38))]
      exact Eq0.bad n38 h2 rfl
  · rw [if_pos (by rw [h1]; exact n30), if_pos (by rw [h1]; exact n30)]
    exact Eq0.bad n30 h1 rfl
theorem wdr_eq {s : Es} {t : Tr} (h : errT t = 0) (k1 : t.kd ≠ 1) (k2 : t.kd ≠ 2) : Eq0 (wdrE s t) (plainE s t) := by
  obtain ⟨_, fr, _, az, _, _⟩ := errT_all h
  have a1 : atS t.fr t.az := ⟨by omega, by omega⟩
  unfold plainE
  rw [if_neg k1, if_neg k2]
  unfold wdrE
  by_cases h0 : 2 ≤ t.fr ∧ t.fr ≤ 3
  · rw [if_neg (not_not_intro h0), if_neg (not_not_intro h0)]
    rcases take_or (b := s.va) (n := amT t) a1 with h1 | h1
    · rw [unv_yes h1, if_neg (by simp), if_neg (not_not_intro h1)]
      rcases give_or (b := s.pu) (n := amT t) a1 with h2 | h2
      · rw [if_neg (not_not_intro h2)]
        by_cases h3 : amT t ≤ s.he t.az.toNat
        · rw [shrink_yes (s := { s with va := (takeB s.va t.fr t.az (amT t)).1, pu := (giveB s.pu t.fr t.az (amT t)).1 }) h3, if_neg (fun e => e.elim (fun e => e h2) (fun e => e h3))]
          exact Eq0.of rfl
        · rw [shrink_no (s := { s with va := (takeB s.va t.fr t.az (amT t)).1, pu := (giveB s.pu t.fr t.az (amT t)).1 }) h3, if_pos (.inr h3)]
          exact Eq0.bad n38 rfl rfl
      · rw [if_pos (by rw [h2]; exact n38), if_pos (.inl (by rw [h2]; exact n38))]
        exact Eq0.bad n38 h2 rfl
    · have h1' : (takeB s.va t.fr t.az (amT t)).2 ≠ 0 := by rw [h1]; exact n30
      rw [unv_no h1', if_pos (show (31 : Int) ≠ 0 by decide), if_pos h1']
      exact Eq0.bad n31 rfl rfl
  · rw [if_pos h0, if_pos h0]
    exact Eq0.of rfl
theorem prep_eq {s : Es} {t : Tr} (hs : OkE s) (h : errF t = 0) : Eq0 (prepP s t) (prepE orcB s t) := by
  obtain ⟨⟨us, _, ro, se, re, _⟩, _, _⟩ := errF_all h
  unfold prepP prepE
  by_cases h0 : (placeE s.lk (keyB t.iv)).isSome
  · rw [if_pos h0, if_pos (show (placeE s.lk (orcB.ke t.iv)).isSome = true from h0)]
    exact Eq0.of rfl
  · rw [if_neg h0, if_neg (show ¬ (placeE s.lk (orcB.ke t.iv)).isSome = true from h0)]
    by_cases h1 : t.vr.x > s.tm ∧ t.vr.x ≤ s.tm + 1024
    · rw [if_neg (not_not_intro h1), if_neg (show ¬ (t.vr.x ≤ s.tm ∨ s.tm + 1024 < t.vr.x) by omega)]
      by_cases h2 : s.sd = 1
      · rw [if_pos (show s.sd > 0 by omega), if_pos h2]
        by_cases h3 : t.fr = t.iv.ro
        · rw [if_neg (not_not_intro h3), if_neg (not_not_intro h3), h3]
          have a1 : atS t.iv.ro t.iv.re := ⟨by omega, by omega⟩
          rcases take_or (b := s.va) (n := amV t) a1 with h4 | h4
          · rw [unv_yes h4, if_neg (by simp), if_neg (not_not_intro h4)]
            exact Eq0.of rfl
          · have h4' : (takeB s.va t.iv.ro t.iv.re (amV t)).2 ≠ 0 := by rw [h4]; exact n30
            rw [unv_no h4', if_pos (show (31 : Int) ≠ 0 by decide), if_pos h4']
            exact Eq0.bad n31 rfl rfl
        · rw [if_pos h3, if_pos h3]
          exact Eq0.of rfl
      · rw [if_neg (show ¬ s.sd > 0 by rcases hs.d with d | d <;> omega), if_neg h2]
        by_cases h3 : t.fr = t.iv.us
        · rw [if_neg (not_not_intro h3), if_neg (not_not_intro h3), h3]
          have a1 : atS t.iv.us t.iv.se := ⟨by omega, by omega⟩
          rcases take_or (b := s.pu) (n := amV t) a1 with h4 | h4
          · rw [if_neg (not_not_intro h4), if_neg (not_not_intro h4)]
            by_cases h5 : s.he t.iv.se.toNat + amV t < M4
            · rw [grow_yes (s := { s with pu := (takeB s.pu t.iv.us t.iv.se (amV t)).1 }) h5, if_neg (by simp), if_neg (not_not_intro h5)]
              exact Eq0.of rfl
            · rw [grow_no (s := { s with pu := (takeB s.pu t.iv.us t.iv.se (amV t)).1 }) h5, if_pos (show (38 : Int) ≠ 0 by decide), if_pos h5]
              exact Eq0.bad n38 rfl rfl
          · rw [if_pos (by rw [h4]; exact n30), if_pos (by rw [h4]; exact n30)]
            exact Eq0.bad n30 h4 rfl
        · rw [if_pos h3, if_pos h3]
          exact Eq0.of rfl
    · rw [if_pos h1, if_pos (show t.vr.x ≤ s.tm ∨ s.tm + 1024 < t.vr.x by omega)]
      exact Eq0.of rfl
theorem ful_eq {s : Es} {t : Tr} (hs : OkE s) (h : errF t = 0) (hfr : 0 ≤ t.fr ∧ t.fr ≤ 7) : Eq0 (fulP s t) (fulE orcB s t) := by
  obtain ⟨⟨us, _, ro, se, re, tt, _⟩, _, _⟩ := errF_all h
  unfold fulP fulE
  by_cases h0 : (openE orcB s t).2 ≠ 0
  · rw [if_pos h0, if_pos h0]
    exact Eq0.of rfl
  · rw [if_neg h0, if_neg h0]
    by_cases h1 : s.tm < t.vr.x
    · rw [if_neg (not_not_intro h1), if_neg (show ¬ t.vr.x ≤ s.tm by omega)]
      by_cases h2 : feT t ≤ amV t
      · rw [if_neg (not_not_intro h2), if_neg (not_not_intro h2)]
        by_cases h3 : signB t 1 = true
        · rw [if_neg (not_not_intro h3), if_neg (show ¬ orcB.sg t 1 = false by rw [show orcB.sg t 1 = signB t 1 from rfl, h3]; decide)]
          by_cases h4 : s.sd = 1
          · rw [if_pos (show s.sd > 0 by omega), if_pos h4]
            have a1 : atS t.iv.to t.iv.re := ⟨by omega, by omega⟩
            have a2 : atS t.fr t.iv.re := ⟨by omega, by omega⟩
            rcases give_or (b := s.pu) (n := amV t - feT t) a1 with h5 | h5
            · rw [if_neg (not_not_intro h5)]
              rcases give_or (b := (giveB s.pu t.iv.to t.iv.re (amV t - feT t)).1) (n := feT t) a2 with h6 | h6
              · rw [if_neg (not_not_intro h6)]
                by_cases h7 : amV t ≤ s.he t.iv.re.toNat
                · rw [shrink_yes (s := { s with pu := (giveB (giveB s.pu t.iv.to t.iv.re (amV t - feT t)).1 t.fr t.iv.re (feT t)).1 }) h7, if_neg (by simp), if_neg (fun e => e.elim (fun e => e h5) fun e => e.elim (fun e => e h6) fun e => e h7)]
                  exact Eq0.of rfl
                · rw [shrink_no (s := { s with pu := (giveB (giveB s.pu t.iv.to t.iv.re (amV t - feT t)).1 t.fr t.iv.re (feT t)).1 }) h7, if_pos (show (38 : Int) ≠ 0 by decide), if_pos (.inr (.inr h7))]
                  exact Eq0.bad n38 rfl rfl
              · rw [if_pos (by rw [h6]; exact n38), if_pos (.inr (.inl (by rw [h6]; exact n38)))]
                exact Eq0.bad n38 h6 rfl
            · rw [if_pos (by rw [h5]; exact n38), if_pos (.inl (by rw [h5]; exact n38))]
              exact Eq0.bad n38 h5 rfl
          · rw [if_neg (show ¬ s.sd > 0 by rcases hs.d with d | d <;> omega), if_neg h4]
            have a1 : atS t.iv.ro t.iv.se := ⟨by omega, by omega⟩
            rcases give_or (b := s.va) (n := amV t) a1 with h5 | h5
            · rw [if_neg (not_not_intro h5), if_neg (not_not_intro h5)]
              exact Eq0.of rfl
            · rw [if_pos (by rw [h5]; exact n38), if_pos (by rw [h5]; exact n38)]
              exact Eq0.bad n38 h5 rfl
        · rw [if_pos h3, if_pos (show orcB.sg t 1 = false from Bool.eq_false_iff.2 h3)]
          exact Eq0.of rfl
      · rw [if_pos h2, if_pos h2]
        exact Eq0.of rfl
    · rw [if_pos h1, if_pos (show t.vr.x ≤ s.tm by omega)]
      exact Eq0.of rfl
theorem can_eq {s : Es} {t : Tr} (hs : OkE s) (h : errF t = 0) : Eq0 (canP s t) (canE orcB s t) := by
  obtain ⟨⟨us, _, ro, se, re, tt, _⟩, _, _⟩ := errF_all h
  unfold canP canE
  by_cases h0 : (openE orcB s t).2 ≠ 0
  · rw [if_pos h0, if_pos h0]
    exact Eq0.of rfl
  · rw [if_neg h0, if_neg h0]
    by_cases h4 : s.sd = 1
    · rw [if_pos (show s.sd > 0 by omega)]
      by_cases h1 : s.tm < t.vr.x ∧ ¬ signB t 2 = true
      · rw [if_pos h1, if_pos (show s.tm < t.vr.x ∧ s.sd = 1 ∧ orcB.sg t 2 = false from ⟨h1.1, h4, Bool.eq_false_iff.2 h1.2⟩)]
        exact Eq0.of rfl
      · rw [if_neg h1, if_neg (fun e : s.tm < t.vr.x ∧ s.sd = 1 ∧ orcB.sg t 2 = false => h1 ⟨e.1, by rw [show signB t 2 = false from e.2.2]; decide⟩), if_neg (show ¬ (s.tm < t.vr.x ∧ s.sd ≠ 1 ∧ t.fr ≠ t.iv.ro) from fun e => e.2.1 h4), if_pos h4]
        have a1 : atS t.iv.ro t.iv.re := ⟨by omega, by omega⟩
        rcases give_or (b := s.va) (n := amV t) a1 with h5 | h5
        · rw [if_neg (not_not_intro h5), if_neg (not_not_intro h5)]
          exact Eq0.of rfl
        · rw [if_pos (by rw [h5]; exact n38), if_pos (by rw [h5]; exact n38)]
          exact Eq0.bad n38 h5 rfl
    · rw [if_neg (show ¬ s.sd > 0 by rcases hs.d with d | d <;> omega), if_neg (show ¬ (s.tm < t.vr.x ∧ s.sd = 1 ∧ orcB.sg t 2 = false) from fun e => h4 e.2.1)]
      by_cases h1 : s.tm < t.vr.x ∧ ¬ t.fr = t.iv.ro
      · rw [if_pos h1, if_pos (show s.tm < t.vr.x ∧ s.sd ≠ 1 ∧ t.fr ≠ t.iv.ro from ⟨h1.1, h4, h1.2⟩)]
        exact Eq0.of rfl
      · rw [if_neg h1, if_neg (show ¬ (s.tm < t.vr.x ∧ s.sd ≠ 1 ∧ t.fr ≠ t.iv.ro) from fun e => h1 ⟨e.1, e.2.2⟩), if_neg h4]
        have a1 : atS t.iv.us t.iv.se := ⟨by omega, by omega⟩
        rcases give_or (b := s.pu) (n := amV t) a1 with h5 | h5
        · rw [if_neg (not_not_intro h5)]
          by_cases h7 : amV t ≤ s.he t.iv.se.toNat
          · rw [shrink_yes (s := { s with pu := (giveB s.pu t.iv.us t.iv.se (amV t)).1 }) h7, if_neg (by simp), if_neg (fun e => e.elim (fun e => e h5) fun e => e h7)]
            exact Eq0.of rfl
          · rw [shrink_no (s := { s with pu := (giveB s.pu t.iv.us t.iv.se (amV t)).1 }) h7, if_pos (show (38 : Int) ≠ 0 by decide), if_pos (.inr h7)]
            exact Eq0.bad n38 rfl rfl
        · rw [if_pos (by rw [h5]; exact n38), if_pos (.inl (by rw [h5]; exact n38))]
          exact Eq0.bad n38 h5 rfl
theorem do_eq {s : Es} {t : Tr} (hs : OkE s) (h : errT t = 0) : Eq0 (doP s t) (doneE orcB s t) := by
  obtain ⟨hk, fr, _, _, _, hf⟩ := errT_all h
  unfold doP doneE
  by_cases k1 : t.kd = 1
  · rw [if_pos k1, if_neg (show ¬ t.kd = 4 by omega), if_neg (show ¬ t.kd = 5 by omega), if_neg (show ¬ t.kd = 6 by omega)]; exact pay_eq h k1
  · rw [if_neg k1]
    by_cases k2 : t.kd = 2
    · rw [if_pos k2, if_neg (show ¬ t.kd = 4 by omega), if_neg (show ¬ t.kd = 5 by omega), if_neg (show ¬ t.kd = 6 by omega)]; exact dep_eq h k2
    · rw [if_neg k2]
      by_cases k3 : t.kd = 3
      · rw [if_pos k3, if_neg (show ¬ t.kd = 4 by omega), if_neg (show ¬ t.kd = 5 by omega), if_neg (show ¬ t.kd = 6 by omega)]; exact wdr_eq h k1 k2
      · rw [if_neg k3]
        by_cases k4 : t.kd = 4
        · rw [if_pos k4, if_pos k4]; exact prep_eq hs (hf (by omega))
        · rw [if_neg k4, if_neg k4]
          by_cases k5 : t.kd = 5
          · rw [if_pos k5, if_pos k5]; exact ful_eq hs (hf (by omega)) fr
          · rw [if_neg k5, if_neg k5, if_pos (show t.kd = 6 by omega)]; exact can_eq hs (hf (by omega))
theorem paid_eq {s : Es} {t : Tr} (h : errT t = 0) (h2 : t.no = s.no t.fr.toNat) (h3 : 1 ≤ s.pu (2 * t.fr.toNat)) (h4 : s.bu + 1 < M4) : chgE s t = (paidE s t, 0) := by
  obtain ⟨_, fr, _, _, _, _⟩ := errT_all h
  have a1 : atS t.fr 0 := ⟨by omega, by omega⟩
  have hsl : slotS t.fr 0 = 2 * t.fr.toNat := rfl
  unfold chgE
  rw [if_neg (not_not_intro h), if_neg (not_not_intro h2), takeB_yes a1 (by rw [hsl]; exact h3), if_neg (by simp), if_neg (not_not_intro h4)]
  unfold paidE
  rw [hsl]
  have : updNo s.no t.fr.toNat (s.no t.fr.toNat + 1) = fun i => if i = t.fr.toNat then s.no i + 1 else s.no i := by
    funext i
    unfold updNo
    by_cases e : i = t.fr.toNat
    · rw [if_pos e, if_pos e, e]
    · rw [if_neg e, if_neg e]
  rw [this]
theorem apply_eq {s : Es} (hs : OkE s) (t : Tr) : applyP s t = applyE orcB s t := by
  unfold applyP applyE
  by_cases h : errT t ≠ 0
  · have e : chgE s t = (s, errT t) := by unfold chgE; rw [if_pos h]
    rw [e, if_pos h, if_pos h]
  · rw [if_neg h]
    have h1 := Decidable.not_not.1 h
    obtain ⟨_, fr, _, _, _, _⟩ := errT_all h1
    have a1 : atS t.fr 0 := ⟨by omega, by omega⟩
    have hsl : slotS t.fr 0 = 2 * t.fr.toNat := rfl
    by_cases h2 : t.no ≠ s.no t.fr.toNat
    · have e : chgE s t = (s, 20) := by unfold chgE; rw [if_neg h, if_pos h2]
      rw [e, if_pos (show (20 : Int) ≠ 0 by decide), if_pos h2]
    · rw [if_neg h2]
      by_cases h3 : 1 ≤ s.pu (2 * t.fr.toNat)
      · by_cases h4 : s.bu + 1 < M4
        · have e := paid_eq h1 (Decidable.not_not.1 h2) h3 h4
          rw [e, if_neg (by simp), if_neg (show ¬ (¬ 1 ≤ s.pu (2 * t.fr.toNat) ∨ ¬ s.bu + 1 < M4) from fun x => x.elim (fun x => x h3) fun x => x h4)]
          have hp : OkE (paidE s t) := by
            have := (chg_ok hs (by rw [e])).2.1
            rwa [e] at this
          obtain ⟨d1, d2⟩ := do_eq hp h1
          dsimp only
          rw [d1]
          by_cases h5 : (doneE orcB (paidE s t) t).2 ≠ 0
          · rw [if_pos h5, if_pos h5]
          · rw [if_neg h5, if_neg h5, d2 (Decidable.not_not.1 h5)]
        · have e : chgE s t = (s, 21) := by
            unfold chgE
            rw [if_neg h, if_neg h2, takeB_yes a1 (by rw [hsl]; exact h3), if_neg (by simp), if_pos h4]
          rw [e, if_pos (show (21 : Int) ≠ 0 by decide), if_pos (.inr h4)]
      · have e : chgE s t = (s, 21) := by
          unfold chgE
          rw [if_neg h, if_neg h2, takeB_low a1 (by rw [hsl]; exact h3), if_pos (show (30 : Int) ≠ 0 by decide)]
        rw [e, if_pos (show (21 : Int) ≠ 0 by decide), if_pos (.inl h3)]
end Go.Proofs.YthhmdgmmeedhdaaGreat
namespace Go.Proofs.YthhmdgmmeedhdaaGreat
open Go.RowKit Go.Shelf
def RefS (s : St) (w : World) (e : Ending) (W' : World) : Prop := ∃ sv, e = .returned (.agg #[sv, .int .i64 s.2]) ∧ BSl 0 W'.heap.size W' sv s.1 ∧ Below w.heap.size w W'
theorem clamp6' : clamp 6 = 6 := rfl
theorem clamp2' : clamp 2 = 2 := rfl
theorem two_nat' {n : Nat} (h : n < 18446744073709551616) : two (n : Int) = n := by unfold two; omega
theorem Blk.c2 {W : World} {B : Nat} {t : TypeId} {v0 v1 : Value} (h : Blk W B t [v0, v1]) : W.cell? ⟨B, 0, none⟩ = some v0 ∧ W.cell? ⟨B, 1, none⟩ = some v1 := ⟨h.cell 0, h.cell 1⟩
theorem noOct2 {W : World} {B : Nat} {T : TypeId} {a : Option Addr} {n c : Nat} {x : Int} (h : Blk W B T [.slice a n c, .int .i64 x]) : NoOct W B := noOct_blk h (by
  intro v hv y
  simp only [List.mem_cons, List.not_mem_nil, or_false] at hv
  rcases hv with rfl | rfl <;> simp [bv])
set_option maxRecDepth 100000 in
theorem refPutE_any {s : St} (sv s2 : Value) (x : Int) (hx : x ≠ 0) (w : World) (hsl : BSl 0 w.heap.size w sv s.1) :
    Calls Tryz.prog 123 #[.agg #[sv, .int .i64 s.2], s2, .int .i64 x] w (RefS (errS s x) w) := by
  obtain ⟨a, m, c, rfl⟩ := hsl.shape3
  have hx1 : (x != 0) = true := by simpa using hx
  by_cases hf : s.2 = 0
  · have e1 : errS s x = ([], x) := if_pos hf
    rw [e1]
    clear e1
    have hf1 : (s.2 != 0) = false := by simpa using hf
    have hf2 : (s.2 == 0) = true := by simpa using hf
    clear hf
    go_enter Tryz.func123, Tryz.ntmps123
    go_wp2
    exact bodyPost_ret (v := .agg #[.slice none 0 0, .int .i64 x]) (by simp [results, Tryz.results123, go_sem]) rfl ⟨_, rfl, BSl.nil _ _ _, chainA (chain0 w _) _⟩
  · rw [errS_bad hf]
    have hf1 : (s.2 != 0) = true := by simpa using hf
    have hf2 : (s.2 == 0) = false := by simpa using hf
    clear hf
    go_enter Tryz.func123, Tryz.ntmps123
    go_wp2
    have hB : Below w.heap.size w ((w.alloc (.cells #[.slice a m c, .int .i64 s.2] 101)).alloc (.cells #[.slice a m c, .int .i64 s.2] 101)) := chainA (chain0 _ _) _
    exact bodyPost_ret (v := .agg #[.slice a m c, .int .i64 s.2]) (by simp [results, Tryz.results123, go_sem]) rfl ⟨_, rfl, (hsl.below hB (Nat.le_refl _)).mono (Nat.le_refl _) hB.size, hB⟩
set_option maxRecDepth 100000 in
set_option maxHeartbeats 1000000 in
theorem refPut_any {s : St} (hok : OkS s) (sv s2 : Value) (l : List UInt8) (hl : l.length ≤ 140737488345000) (w : World) (hsl : BSl 0 w.heap.size w sv s.1) (hs2 : BSl 0 w.heap.size w s2 l) :
    Calls Tryz.prog 123 #[.agg #[sv, .int .i64 s.2], s2, .int .i64 0] w (RefS (addS s l) w) := by
  have h82 := hok.2
  obtain ⟨a, c, rfl, -⟩ := hsl.shape
  obtain ⟨a2, c2, rfl, -⟩ := hs2.shape
  by_cases hf : s.2 = 0
  · have e1 : addS s l = if s.1.length + l.length ≤ 8192 then (s.1 ++ l, 0) else ([], 5) := if_pos hf
    rw [e1]
    clear e1
    have hf1 : (s.2 != 0) = false := by simpa using hf
    have hf2 : (s.2 == 0) = true := by simpa using hf
    have HF := Lib.hid hf
    clear hf
    generalize hn : s.1.length = n at *
    generalize hk : l.length = k at *
    have HN := Lib.hid hn
    have HK := Lib.hid hk
    clear hn hk
    by_cases hfit : n + k ≤ 8192
    · rw [if_pos hfit]
      have hgt : ¬ ((8192 : Int) < (n : Int) + (k : Int)) := by omega
      go_enter Tryz.func123, Tryz.ntmps123
      go_wp2_with (go_at_call 121; refine (refCat_any s.1 l (.slice a n c) (.slice a2 k c2) _ (by have := HN.out; have := HK.out; omega) ((hsl.below (chainA (chain0 w _) _) (Nat.le_refl _)).mono (Nat.le_refl _) (by simp; omega)) ((hs2.below (chainA (chain0 w _) _) (Nat.le_refl _)).mono (Nat.le_refl _) (by simp; omega))).mono ?_; rintro e w1 ⟨v, rfl, hv, hb1⟩; obtain ⟨va, vm, vc, rfl⟩ := (BSl.of_own hv).shape3; have kR : Blk w1 (w.heap.size + 1) 101 [.slice none 0 0, .int .i64 0] := (Blk.new' (by simp)).below hb1 (by simp); have r0 := kR.c2.1; have r1 := kR.c2.2; have g0 := kR.frozen 0; have g1 := kR.frozen 1)
      have hB1 := chain (chainA (chain0 w _) _) hb1
      have hB := (hB1.setCell (p := ⟨w.heap.size + 1, 0, none⟩) (by simp) (.slice va vm vc)).setCell (p := ⟨w.heap.size + 1, 1, none⟩) (by simp) (.int .i64 0)
      have kR2 := (kR.set 0 (.slice va vm vc)).set 1 (.int .i64 0)
      obtain ⟨q0, q1⟩ := Blk.c2 kR2
      exact bodyPost_ret (v := .agg #[.slice va vm vc, .int .i64 0]) (by simp [results, Tryz.results123, go_sem, q0, q1]) rfl ⟨_, rfl, ((((BSl.of_own hv).to (Nat.le_refl _) (grownBy_setCell4 w1 (w.heap.size + 1) 0 (.slice va vm vc)) (fun r e => by cases e; exact noOct2 kR)).to (by simp) (grownBy_setCell4 _ (w.heap.size + 1) 1 (.int .i64 0)) (fun r e => by cases e; exact noOct2 (kR.set 0 _)))).mono (Nat.zero_le _) (by simp), hB⟩
    · rw [if_neg hfit]
      have hgt : (8192 : Int) < (n : Int) + (k : Int) := by omega
      go_enter Tryz.func123, Tryz.ntmps123
      go_wp2
      exact bodyPost_ret (v := .agg #[.slice none 0 0, .int .i64 5]) (by simp [results, Tryz.results123, go_sem]) rfl ⟨_, rfl, BSl.nil _ _ _, chainA (chain0 w _) _⟩
  · rw [addS_bad hf]
    have hf1 : (s.2 != 0) = true := by simpa using hf
    have hf2 : (s.2 == 0) = false := by simpa using hf
    clear hf
    generalize hn : s.1.length = n at *
    generalize hk : l.length = k at *
    clear hn hk
    go_enter Tryz.func123, Tryz.ntmps123
    go_wp2
    have hB : Below w.heap.size w ((w.alloc (.cells #[.slice a n c, .int .i64 s.2] 101)).alloc (.cells #[.slice a n c, .int .i64 s.2] 101)) := chainA (chain0 _ _) _
    exact bodyPost_ret (v := .agg #[.slice a n c, .int .i64 s.2]) (by simp [results, Tryz.results123, go_sem]) rfl ⟨_, rfl, (hsl.below hB (Nat.le_refl _)).mono (Nat.le_refl _) hB.size, hB⟩
end Go.Proofs.YthhmdgmmeedhdaaGreat
namespace Go.Proofs.YthhmdgmmeedhdaaGreat
open Go.RowKit Go.Shelf
theorem stored_at {l : List UInt8} {y : Int} {w Y : World} {sv : Value} {T : TypeId} {NB : Nat} {z : Value} {x : Int} (hsl : BSl 0 Y.heap.size Y sv l) (hB : Below w.heap.size w Y) (hNB : w.heap.size ≤ NB) (hz : ∃ a m c, z = .slice a m c)
    (kR : Blk Y NB T [z, .int .i64 x]) :
    Blk ((Y.setCell ⟨NB, 0, none⟩ sv).setCell ⟨NB, 1, none⟩ (.int .i64 y)) NB T [sv, .int .i64 y] ∧
    BSl 0 ((Y.setCell ⟨NB, 0, none⟩ sv).setCell ⟨NB, 1, none⟩ (.int .i64 y)).heap.size ((Y.setCell ⟨NB, 0, none⟩ sv).setCell ⟨NB, 1, none⟩ (.int .i64 y)) sv l ∧ Below w.heap.size w ((Y.setCell ⟨NB, 0, none⟩ sv).setCell ⟨NB, 1, none⟩ (.int .i64 y)) := by
  obtain ⟨a, m, c, rfl⟩ := hz
  obtain ⟨a2, m2, c2, rfl⟩ := hsl.shape3
  have k1 := kR.set 0 (.slice a2 m2 c2)
  refine ⟨k1.set 1 _, ?_, (hB.setCell (p := ⟨NB, 0, none⟩) hNB _).setCell (p := ⟨NB, 1, none⟩) hNB _⟩
  exact ((hsl.to (Nat.le_refl _) (grownBy_setCell4 Y NB 0 (.slice a2 m2 c2)) (fun r e => by cases e; exact noOct2 kR)).to (by simp) (grownBy_setCell4 _ NB 1 (.int .i64 y)) (fun r e => by cases e; exact noOct2 k1)).mono (Nat.le_refl _) (by simp)
theorem refS_stored {s : St} {w Y : World} {sv : Value} {NB : Nat} {z : Value} {x : Int} (hsl : BSl 0 Y.heap.size Y sv s.1) (hB : Below w.heap.size w Y) (hNB : w.heap.size ≤ NB) (hz : ∃ a m c, z = .slice a m c)
    (kR : Blk Y NB 101 [z, .int .i64 x]) :
    Blk ((Y.setCell ⟨NB, 0, none⟩ sv).setCell ⟨NB, 1, none⟩ (.int .i64 s.2)) NB 101 [sv, .int .i64 s.2] ∧ RefS s w (.returned (.agg #[sv, .int .i64 s.2])) ((Y.setCell ⟨NB, 0, none⟩ sv).setCell ⟨NB, 1, none⟩ (.int .i64 s.2)) := by
  obtain ⟨h1, h2, h3⟩ := stored_at (y := s.2) hsl hB hNB hz kR
  exact ⟨h1, _, rfl, h2, h3⟩
set_option maxRecDepth 100000 in
set_option maxHeartbeats 2000000 in
theorem refNum6_any {s : St} (hok : OkS s) (sv : Value) (n : Int) (w : World) (hsl : BSl 0 w.heap.size w sv s.1) :
    Calls Tryz.prog 89 #[.agg #[sv, .int .i64 s.2], .int .i64 n] w (RefS (numS s n) w) := by
  have hmx : Tryz.prog.follows .mixedOrders = true := by kernel_rfl
  obtain ⟨a, m, c, rfl⟩ := hsl.shape3
  by_cases hn : 0 ≤ n ∧ n ≤ 1099511627776
  · have e1 : numS s n = addS s (octs (two n) 6) := if_pos hn
    rw [e1]
    clear e1
    obtain ⟨h0, h1⟩ := hn
    have g0 : ¬ n < 0 := by omega
    have g1 : ¬ 1099511627776 < n := by omega
    go_enter Tryz.func89, Tryz.ntmps89
    go_wp2_with fail
    generalize hW0 : World.alloc _ _ = W0
    have kA : Blk W0 w.heap.size 101 [.slice a m c, .int .i64 s.2] := by rw [← hW0]; exact (Blk.new w _ [_, _]).alloc _
    have kR : Blk W0 (w.heap.size + 1) 101 [.slice none 0 0, .int .i64 0] := by rw [← hW0]; exact Blk.new' (vs := [_, _]) (by simp)
    have hB0 : Below w.heap.size w W0 := by rw [← hW0]; exact chainA (chain0 _ _) _
    have hz0 : W0.heap.size = w.heap.size + 2 := by rw [← hW0]; simp
    clear hW0
    have HZ := Lib.hid hz0
    clear hz0
    clear g0 g1
    refine wp_region_held_drew (S := fun W => Blk W w.heap.size 101 [.slice a m c, .int .i64 s.2]) hmx kA ?_
    intro hS
    replace kR : Blk W0.drew (w.heap.size + 1) 101 [.slice none 0 0, .int .i64 0] := kR
    have hB := hB0.drew
    replace hsl : BSl 0 W0.drew.heap.size W0.drew (.slice a m c) s.1 := (hsl.below hB (Nat.le_refl _)).mono (Nat.le_refl _) hB.size
    have HZ2 : Hid (W0.drew.heap.size = w.heap.size + 2) := HZ.out
    clear HZ kA hB0
    generalize W0.drew = Y at *
    refine' wpAnyH_take (i := 0) (oi := _) (v := _) ?hi1 (by kernel_rfl) (by kernel_rfl) (by kernel_rfl) ?hQ1 (Or.inl ⟨?hw1, ?hy1⟩) hS ?rest1
    case hi1 => simp only [List.getElem?_toArray, List.getElem?_cons_zero]; rfl
    case hQ1 => exact fun _ _ _ h => h
    case hw1 => rfl
    case hy1 => intro W' hS'; obtain ⟨c0, c1⟩ := Blk.c2 hS'; go_simp; with_reducible rfl
    try simp only [Act.put, List.setIfInBounds_toArray, List.set_cons_zero, List.set_cons_succ]
    refine' wpAnyH_take (i := 1) (oi := _) (v := _) ?hi2 (by kernel_rfl) (by kernel_rfl) (by kernel_rfl) ?hQ2 (Or.inl ⟨?hw2, ?hy2⟩) hS ?rest2
    case hi2 => simp only [List.getElem?_toArray, List.getElem?_cons_succ, List.getElem?_cons_zero]; rfl
    case hQ2 => exact fun _ _ _ h => h
    case hw2 => rfl
    case hy2 => intro W' hS'; go_simp; with_reducible rfl
    try simp only [Act.put, List.setIfInBounds_toArray, List.set_cons_zero, List.set_cons_succ]
    refine wpAnyH_ready (rs := [2]) (by kernel_rfl) (by simp) ?_
    refine' AllReadyH.cons (o := _) ?ho3 (fun K hK => ?st3) AllReadyH.nil
    case ho3 => simp only [List.getElem?_toArray, List.getElem?_cons_succ, List.getElem?_cons_zero]; rfl
    case st3 =>
      go_simp
      refine (refNum_any n 6 (by omega) (by omega) _).mono ?_
      rintro e Y1 ⟨v, rfl, hv, hb1⟩
      refine hK.out _ _ (hS.below hb1 hS.lt) (fun hS => ?_)
      clear hK K
      try simp only [Act.put, List.setIfInBounds_toArray, List.set_cons_zero, List.set_cons_succ]
      replace kR := kR.below hb1 kR.lt
      replace hB := chain hB hb1
      replace hsl := (hsl.below hb1 (Nat.le_refl _)).mono (Nat.le_refl _) hb1.size
      rw [clamp6'] at hv
      obtain ⟨va, vm, vc, rfl⟩ := hv.shape3
      replace hv := hv.mono (Nat.zero_le _) (Nat.le_refl _)
      clear hb1
      refine wpAnyH_ready (rs := [3]) (by kernel_rfl) (by simp) ?_
      refine' AllReadyH.cons (o := _) ?ho4 (fun K hK => ?st4) AllReadyH.nil
      case ho4 => simp only [List.getElem?_toArray, List.getElem?_cons_succ, List.getElem?_cons_zero]; rfl
      case st4 =>
        go_simp
        refine (refPut_any hok (.slice a m c) (.slice va vm vc) (octs (two n) 6) (by rw [octs_length]; omega) _ hsl hv).mono ?_
        rintro e Y2 ⟨v2, rfl, hv2, hb2⟩
        refine hK.out _ _ (hS.below hb2 hS.lt) (fun hS => ?_)
        clear hK K
        try simp only [Act.put, List.setIfInBounds_toArray, List.set_cons_zero, List.set_cons_succ]
        replace kR := kR.below hb2 kR.lt
        replace hB := chain hB hb2
        clear hv hb2 hsl
        obtain ⟨va, vm, vc, rfl⟩ := hv2.shape3
        have hv := hv2
        clear hv2
        refine wpAnyH_ready (rs := [4]) (by kernel_rfl) (by simp) ?_
        refine' AllReadyH.cons (o := _) ?ho5 (fun K hK => ?st5) AllReadyH.nil
        case ho5 => simp only [List.getElem?_toArray, List.getElem?_cons_succ, List.getElem?_cons_zero]; rfl
        case st5 =>
          obtain ⟨r0, r1⟩ := Blk.c2 kR
          have g0 := kR.frozen 0
          have g1 := kR.frozen 1
          go_simp
          have hfin := refS_stored hv hB (Nat.le_add_right _ 1) ⟨_, _, _, rfl⟩ kR
          refine hK.out _ _ ((hS.other 0 _ (by omega)).other 1 _ (by omega)) (fun hS => ?_)
          clear hK K
          try simp only [Act.put, List.setIfInBounds_toArray, List.set_cons_zero, List.set_cons_succ]
          refine wpAnyH_done (by kernel_rfl) ?_ _
          go_wp2_with fail
          obtain ⟨q0, q1⟩ := Blk.c2 hfin.1
          exact bodyPost_ret (v := .agg #[.slice va vm vc, .int .i64 (addS s (octs (two n) 6)).2]) (by simp [results, Tryz.results89, go_sem, q0, q1]) rfl hfin.2
  · have e1 : numS s n = errS s 4 := if_neg hn
    rw [e1]
    clear e1
    by_cases h0 : n < 0
    all_goals
      have HN := Lib.hid hn
      clear hn
      try (have g1 : 1099511627776 < n := by have := HN.out; omega)
      go_enter Tryz.func89, Tryz.ntmps89
      go_wp2_with fail
      generalize hW0 : World.alloc _ _ = W0
      have kA : Blk W0 w.heap.size 101 [.slice a m c, .int .i64 s.2] := by rw [← hW0]; exact (Blk.new w _ [_, _]).alloc _
      have kR : Blk W0 (w.heap.size + 1) 101 [.slice none 0 0, .int .i64 0] := by rw [← hW0]; exact Blk.new' (vs := [_, _]) (by simp)
      have hB0 : Below w.heap.size w W0 := by rw [← hW0]; exact chainA (chain0 _ _) _
      have hz0 : W0.heap.size = w.heap.size + 2 := by rw [← hW0]; simp
      clear hW0
      have HZ := Lib.hid hz0
      clear hz0
      obtain ⟨c0, c1⟩ := Blk.c2 kA
      go_wp2_with (go_at_call 123; refine (refPutE_any (s := s) (.slice a m c) (.slice none 0 0) 4 (by decide) _ ((hsl.below hB0 (Nat.le_refl _)).mono (Nat.le_refl _) hB0.size)).mono ?_; rintro e Y2 ⟨v2, rfl, hv2, hb2⟩; obtain ⟨va, vm, vc, rfl⟩ := hv2.shape3; have kR2 := kR.below hb2 kR.lt; obtain ⟨r0, r1⟩ := Blk.c2 kR2; have g0 := kR2.frozen 0; have g1 := kR2.frozen 1)
      have hfin := refS_stored hv2 (chain hB0 hb2) (Nat.le_add_right _ 1) ⟨_, _, _, rfl⟩ kR2
      obtain ⟨q0, q1⟩ := Blk.c2 hfin.1
      exact bodyPost_ret (v := .agg #[.slice va vm vc, .int .i64 (errS s 4).2]) (by simp [results, Tryz.results89, go_sem, q0, q1]) rfl hfin.2
set_option maxRecDepth 100000 in
set_option maxHeartbeats 2000000 in
theorem refText6_any {s : St} (hok : OkS s) (sv : Value) (t : ByteArray) (w : World) (hsl : BSl 0 w.heap.size w sv s.1) :
    Calls Tryz.prog 88 #[.agg #[sv, .int .i64 s.2], .string t] w (RefS (txtS s t) w) := by
  have hmx : Tryz.prog.follows .mixedOrders = true := by kernel_rfl
  obtain ⟨a, m, c, rfl⟩ := hsl.shape3
  by_cases hn : t.size ≤ 1024
  · have e1 : txtS s t = addS s (octs t.size 2 ++ t.data.toList) := if_pos hn
    rw [e1]
    clear e1
    have htl : t.data.toList.length = t.size := by rw [Array.length_toList]; rfl
    have g1 : ¬ (1024 : Int) < (t.size : Int) := by omega
    have HL := Lib.hid htl
    clear htl
    go_enter Tryz.func88, Tryz.ntmps88
    go_wp2_with fail
    generalize hW0 : World.alloc _ _ = W0
    have kA : Blk W0 w.heap.size 101 [.slice a m c, .int .i64 s.2] := by rw [← hW0]; exact (Blk.new w _ [_, _]).alloc _
    have kR : Blk W0 (w.heap.size + 1) 101 [.slice none 0 0, .int .i64 0] := by rw [← hW0]; exact Blk.new' (vs := [_, _]) (by simp)
    have hB0 : Below w.heap.size w W0 := by rw [← hW0]; exact chainA (chain0 _ _) _
    have hz0 : W0.heap.size = w.heap.size + 2 := by rw [← hW0]; simp
    clear hW0
    have HZ := Lib.hid hz0
    clear hz0
    clear g1
    refine wp_region_held_drew (S := fun W => Blk W w.heap.size 101 [.slice a m c, .int .i64 s.2]) hmx kA ?_
    intro hS
    replace kR : Blk W0.drew (w.heap.size + 1) 101 [.slice none 0 0, .int .i64 0] := kR
    have hB := hB0.drew
    replace hsl : BSl 0 W0.drew.heap.size W0.drew (.slice a m c) s.1 := (hsl.below hB (Nat.le_refl _)).mono (Nat.le_refl _) hB.size
    have HZ2 : Hid (W0.drew.heap.size = w.heap.size + 2) := HZ.out
    clear HZ kA hB0
    generalize W0.drew = Y at *
    refine' wpAnyH_take (i := 0) (oi := _) (v := _) ?hi11 (by kernel_rfl) (by kernel_rfl) (by kernel_rfl) ?hQ11 (Or.inl ⟨?hw11, ?hy11⟩) hS ?rest11
    case hi11 => simp only [List.getElem?_toArray, List.getElem?_cons_zero]; rfl
    case hQ11 => exact fun _ _ _ h => h
    case hw11 => rfl
    case hy11 => intro W' hS'; obtain ⟨c0, c1⟩ := Blk.c2 hS'; go_simp; with_reducible rfl
    try simp only [Act.put, List.setIfInBounds_toArray, List.set_cons_zero, List.set_cons_succ]
    refine' wpAnyH_take (i := 1) (oi := _) (v := _) ?hi12 (by kernel_rfl) (by kernel_rfl) (by kernel_rfl) ?hQ12 (Or.inl ⟨?hw12, ?hy12⟩) hS ?rest12
    case hi12 => simp only [List.getElem?_toArray, List.getElem?_cons_succ, List.getElem?_cons_zero]; rfl
    case hQ12 => exact fun _ _ _ h => h
    case hw12 => rfl
    case hy12 => intro W' hS'; go_simp; with_reducible rfl
    try simp only [Act.put, List.setIfInBounds_toArray, List.set_cons_zero, List.set_cons_succ]
    refine' wpAnyH_take (i := 2) (oi := _) (v := _) ?hi13 (by kernel_rfl) (by kernel_rfl) (by kernel_rfl) ?hQ13 (Or.inl ⟨?hw13, ?hy13⟩) hS ?rest13
    case hi13 => simp only [List.getElem?_toArray, List.getElem?_cons_succ, List.getElem?_cons_zero]; rfl
    case hQ13 => exact fun _ _ _ h => h
    case hw13 => rfl
    case hy13 => intro W' hS'; go_simp; with_reducible rfl
    try simp only [Act.put, List.setIfInBounds_toArray, List.set_cons_zero, List.set_cons_succ]
    refine' wpAnyH_take (i := 4) (oi := _) (v := _) ?hi14 (by kernel_rfl) (by kernel_rfl) (by kernel_rfl) ?hQ14 (Or.inl ⟨?hw14, ?hy14⟩) hS ?rest14
    case hi14 => simp only [List.getElem?_toArray, List.getElem?_cons_succ, List.getElem?_cons_zero]; rfl
    case hQ14 => exact fun _ _ _ h => h
    case hw14 => rfl
    case hy14 => intro W' hS'; go_simp; with_reducible rfl
    try simp only [Act.put, List.setIfInBounds_toArray, List.set_cons_zero, List.set_cons_succ]
    refine wpAnyH_ready (rs := [3, 5]) (by kernel_rfl) (by simp) ?_
    refine' AllReadyH.cons (o := _) ?ho15 (fun K hK => ?st15) (AllReadyH.cons (o := _) ?ho16 (fun K hK => ?st16) AllReadyH.nil)
    case ho15 => simp only [List.getElem?_toArray, List.getElem?_cons_succ, List.getElem?_cons_zero]; rfl
    case ho16 => simp only [List.getElem?_toArray, List.getElem?_cons_succ, List.getElem?_cons_zero]; rfl
    case st15 =>
      go_simp
      refine (refNum_any t.size 2 (by omega) (by omega) _).mono ?_
      rintro e Y1 ⟨v, rfl, hv, hb1⟩
      refine hK.out _ _ (hS.below hb1 hS.lt) (fun hS => ?_)
      clear hK K
      try simp only [Act.put, List.setIfInBounds_toArray, List.set_cons_zero, List.set_cons_succ]
      replace kR := kR.below hb1 kR.lt
      replace hB := chain hB hb1
      replace hsl := (hsl.below hb1 (Nat.le_refl _)).mono (Nat.le_refl _) hb1.size
      rw [clamp2', two_nat' (by omega)] at hv
      obtain ⟨va, vm, vc, rfl⟩ := hv.shape3
      replace hv := hv.mono (Nat.zero_le _) (Nat.le_refl _)
      clear hb1
      refine wpAnyH_ready (rs := [5]) (by kernel_rfl) (by simp) ?_
      refine' AllReadyH.cons (o := _) ?ho17 (fun K hK => ?st17) AllReadyH.nil
      case ho17 => simp only [List.getElem?_toArray, List.getElem?_cons_succ, List.getElem?_cons_zero]; rfl
      case st17 =>
        obtain ⟨c5, Y5, hcv, hc5, hb5, hz5, ho5⟩ := conv_bytes Y1 t
        have hx := (conv_bsl hc5 hz5 ho5).mono (Nat.zero_le _) (Nat.le_refl _)
        clear hz5 ho5
        go_simp
        refine hK.out _ _ (hS.below hb5 hS.lt) (fun hS => ?_)
        clear hK K
        try simp only [Act.put, List.setIfInBounds_toArray, List.set_cons_zero, List.set_cons_succ]
        replace kR := kR.below hb5 kR.lt
        replace hB := chain hB hb5
        replace hsl := (hsl.below hb5 (Nat.le_refl _)).mono (Nat.le_refl _) hb5.size
        replace hv := (hv.below hb5 (Nat.le_refl _)).mono (Nat.le_refl _) hb5.size
        clear hb5 hcv hc5
        generalize (some (⟨Y1.heap.size, 0, none⟩ : Addr)) = xa at *
        refine wpAnyH_ready (rs := [6]) (by kernel_rfl) (by simp) ?_
        refine' AllReadyH.cons (o := _) ?ho18 (fun K hK => ?st18) AllReadyH.nil
        case ho18 => simp only [List.getElem?_toArray, List.getElem?_cons_succ, List.getElem?_cons_zero]; rfl
        case st18 =>
          go_simp
          refine (refCat_any (octs t.size 2) t.data.toList (.slice va vm vc) (.slice xa t.size c5) _ (by rw [octs_length, HL.out]; omega) hv hx).mono ?_
          rintro e Y3 ⟨v3, rfl, hv3, hb1⟩
          refine hK.out _ _ (hS.below hb1 hS.lt) (fun hS => ?_)
          clear hK K
          try simp only [Act.put, List.setIfInBounds_toArray, List.set_cons_zero, List.set_cons_succ]
          replace kR := kR.below hb1 kR.lt
          replace hB := chain hB hb1
          replace hsl := (hsl.below hb1 (Nat.le_refl _)).mono (Nat.le_refl _) hb1.size
          have hv4 := (BSl.of_own hv3).mono (Nat.zero_le _) (Nat.le_refl _)
          clear hb1 hv hx hv3
          obtain ⟨va, vm, vc, rfl⟩ := hv4.shape3
          have hv := hv4
          clear hv4
          refine wpAnyH_ready (rs := [7]) (by kernel_rfl) (by simp) ?_
          refine' AllReadyH.cons (o := _) ?ho19 (fun K hK => ?st19) AllReadyH.nil
          case ho19 => simp only [List.getElem?_toArray, List.getElem?_cons_succ, List.getElem?_cons_zero]; rfl
          case st19 =>
            go_simp
            refine (refPut_any hok (.slice a m c) (.slice va vm vc) (octs t.size 2 ++ t.data.toList) (by rw [List.length_append, octs_length, HL.out]; omega) _ hsl hv).mono ?_
            rintro e Y2 ⟨v2, rfl, hv2, hb2⟩
            refine hK.out _ _ (hS.below hb2 hS.lt) (fun hS => ?_)
            clear hK K
            try simp only [Act.put, List.setIfInBounds_toArray, List.set_cons_zero, List.set_cons_succ]
            replace kR := kR.below hb2 kR.lt
            replace hB := chain hB hb2
            clear hv hb2 hsl
            obtain ⟨va, vm, vc, rfl⟩ := hv2.shape3
            have hv := hv2
            clear hv2
            refine wpAnyH_ready (rs := [8]) (by kernel_rfl) (by simp) ?_
            refine' AllReadyH.cons (o := _) ?ho20 (fun K hK => ?st20) AllReadyH.nil
            case ho20 => simp only [List.getElem?_toArray, List.getElem?_cons_succ, List.getElem?_cons_zero]; rfl
            case st20 =>
              obtain ⟨r0, r1⟩ := Blk.c2 kR
              have g0 := kR.frozen 0
              have g1 := kR.frozen 1
              go_simp
              have hfin := refS_stored hv hB (Nat.le_add_right _ 1) ⟨_, _, _, rfl⟩ kR
              refine hK.out _ _ ((hS.other 0 _ (by omega)).other 1 _ (by omega)) (fun hS => ?_)
              clear hK K
              try simp only [Act.put, List.setIfInBounds_toArray, List.set_cons_zero, List.set_cons_succ]
              refine wpAnyH_done (by kernel_rfl) ?_ _
              go_wp2_with fail
              obtain ⟨q0, q1⟩ := Blk.c2 hfin.1
              exact bodyPost_ret (v := .agg #[.slice va vm vc, .int .i64 (addS s (octs t.size 2 ++ t.data.toList)).2]) (by simp [results, Tryz.results88, go_sem, q0, q1]) rfl hfin.2
    case st16 =>
      obtain ⟨c5, Y5, hcv, hc5, hb5, hz5, ho5⟩ := conv_bytes Y t
      have hx := (conv_bsl hc5 hz5 ho5).mono (Nat.zero_le _) (Nat.le_refl _)
      clear hz5 ho5
      go_simp
      refine hK.out _ _ (hS.below hb5 hS.lt) (fun hS => ?_)
      clear hK K
      try simp only [Act.put, List.setIfInBounds_toArray, List.set_cons_zero, List.set_cons_succ]
      replace kR := kR.below hb5 kR.lt
      replace hB := chain hB hb5
      replace hsl := (hsl.below hb5 (Nat.le_refl _)).mono (Nat.le_refl _) hb5.size
      clear hb5 hcv hc5
      generalize (some (⟨Y.heap.size, 0, none⟩ : Addr)) = xa at *
      refine wpAnyH_ready (rs := [3]) (by kernel_rfl) (by simp) ?_
      refine' AllReadyH.cons (o := _) ?ho21 (fun K hK => ?st21) AllReadyH.nil
      case ho21 => simp only [List.getElem?_toArray, List.getElem?_cons_succ, List.getElem?_cons_zero]; rfl
      case st21 =>
        go_simp
        refine (refNum_any t.size 2 (by omega) (by omega) _).mono ?_
        rintro e Y1 ⟨v, rfl, hv, hb1⟩
        refine hK.out _ _ (hS.below hb1 hS.lt) (fun hS => ?_)
        clear hK K
        try simp only [Act.put, List.setIfInBounds_toArray, List.set_cons_zero, List.set_cons_succ]
        replace kR := kR.below hb1 kR.lt
        replace hB := chain hB hb1
        replace hsl := (hsl.below hb1 (Nat.le_refl _)).mono (Nat.le_refl _) hb1.size
        replace hx := (hx.below hb1 (Nat.le_refl _)).mono (Nat.le_refl _) hb1.size
        rw [clamp2', two_nat' (by omega)] at hv
        obtain ⟨va, vm, vc, rfl⟩ := hv.shape3
        replace hv := hv.mono (Nat.zero_le _) (Nat.le_refl _)
        clear hb1
        refine wpAnyH_ready (rs := [6]) (by kernel_rfl) (by simp) ?_
        refine' AllReadyH.cons (o := _) ?ho22 (fun K hK => ?st22) AllReadyH.nil
        case ho22 => simp only [List.getElem?_toArray, List.getElem?_cons_succ, List.getElem?_cons_zero]; rfl
        case st22 =>
          go_simp
          refine (refCat_any (octs t.size 2) t.data.toList (.slice va vm vc) (.slice xa t.size c5) _ (by rw [octs_length, HL.out]; omega) hv hx).mono ?_
          rintro e Y3 ⟨v3, rfl, hv3, hb1⟩
          refine hK.out _ _ (hS.below hb1 hS.lt) (fun hS => ?_)
          clear hK K
          try simp only [Act.put, List.setIfInBounds_toArray, List.set_cons_zero, List.set_cons_succ]
          replace kR := kR.below hb1 kR.lt
          replace hB := chain hB hb1
          replace hsl := (hsl.below hb1 (Nat.le_refl _)).mono (Nat.le_refl _) hb1.size
          have hv4 := (BSl.of_own hv3).mono (Nat.zero_le _) (Nat.le_refl _)
          clear hb1 hv hx hv3
          obtain ⟨va, vm, vc, rfl⟩ := hv4.shape3
          have hv := hv4
          clear hv4
          refine wpAnyH_ready (rs := [7]) (by kernel_rfl) (by simp) ?_
          refine' AllReadyH.cons (o := _) ?ho23 (fun K hK => ?st23) AllReadyH.nil
          case ho23 => simp only [List.getElem?_toArray, List.getElem?_cons_succ, List.getElem?_cons_zero]; rfl
          case st23 =>
            go_simp
            refine (refPut_any hok (.slice a m c) (.slice va vm vc) (octs t.size 2 ++ t.data.toList) (by rw [List.length_append, octs_length, HL.out]; omega) _ hsl hv).mono ?_
            rintro e Y2 ⟨v2, rfl, hv2, hb2⟩
            refine hK.out _ _ (hS.below hb2 hS.lt) (fun hS => ?_)
            clear hK K
            try simp only [Act.put, List.setIfInBounds_toArray, List.set_cons_zero, List.set_cons_succ]
            replace kR := kR.below hb2 kR.lt
            replace hB := chain hB hb2
            clear hv hb2 hsl
            obtain ⟨va, vm, vc, rfl⟩ := hv2.shape3
            have hv := hv2
            clear hv2
            refine wpAnyH_ready (rs := [8]) (by kernel_rfl) (by simp) ?_
            refine' AllReadyH.cons (o := _) ?ho24 (fun K hK => ?st24) AllReadyH.nil
            case ho24 => simp only [List.getElem?_toArray, List.getElem?_cons_succ, List.getElem?_cons_zero]; rfl
            case st24 =>
              obtain ⟨r0, r1⟩ := Blk.c2 kR
              have g0 := kR.frozen 0
              have g1 := kR.frozen 1
              go_simp
              have hfin := refS_stored hv hB (Nat.le_add_right _ 1) ⟨_, _, _, rfl⟩ kR
              refine hK.out _ _ ((hS.other 0 _ (by omega)).other 1 _ (by omega)) (fun hS => ?_)
              clear hK K
              try simp only [Act.put, List.setIfInBounds_toArray, List.set_cons_zero, List.set_cons_succ]
              refine wpAnyH_done (by kernel_rfl) ?_ _
              go_wp2_with fail
              obtain ⟨q0, q1⟩ := Blk.c2 hfin.1
              exact bodyPost_ret (v := .agg #[.slice va vm vc, .int .i64 (addS s (octs t.size 2 ++ t.data.toList)).2]) (by simp [results, Tryz.results88, go_sem, q0, q1]) rfl hfin.2
  · have e1 : txtS s t = errS s 5 := if_neg hn
    rw [e1]
    clear e1
    have g1 : (1024 : Int) < (t.size : Int) := by omega
    go_enter Tryz.func88, Tryz.ntmps88
    go_wp2_with fail
    generalize hW0 : World.alloc _ _ = W0
    have kA : Blk W0 w.heap.size 101 [.slice a m c, .int .i64 s.2] := by rw [← hW0]; exact (Blk.new w _ [_, _]).alloc _
    have kR : Blk W0 (w.heap.size + 1) 101 [.slice none 0 0, .int .i64 0] := by rw [← hW0]; exact Blk.new' (vs := [_, _]) (by simp)
    have hB0 : Below w.heap.size w W0 := by rw [← hW0]; exact chainA (chain0 _ _) _
    have hz0 : W0.heap.size = w.heap.size + 2 := by rw [← hW0]; simp
    clear hW0
    have HZ := Lib.hid hz0
    clear hz0
    obtain ⟨c0, c1⟩ := Blk.c2 kA
    go_wp2_with (go_at_call 123; refine (refPutE_any (s := s) (.slice a m c) (.slice none 0 0) 5 (by decide) _ ((hsl.below hB0 (Nat.le_refl _)).mono (Nat.le_refl _) hB0.size)).mono ?_; rintro e Y2 ⟨v2, rfl, hv2, hb2⟩; obtain ⟨va, vm, vc, rfl⟩ := hv2.shape3; have kR2 := kR.below hb2 kR.lt; obtain ⟨r0, r1⟩ := Blk.c2 kR2; have g0 := kR2.frozen 0; have g1 := kR2.frozen 1)
    have hfin := refS_stored hv2 (chain hB0 hb2) (Nat.le_add_right _ 1) ⟨_, _, _, rfl⟩ kR2
    obtain ⟨q0, q1⟩ := Blk.c2 hfin.1
    exact bodyPost_ret (v := .agg #[.slice va vm vc, .int .i64 (errS s 5).2]) (by simp [results, Tryz.results88, go_sem, q0, q1]) rfl hfin.2
end Go.Proofs.YthhmdgmmeedhdaaGreat
