/-
  The law: an error's number; a state whose side is one of both; '==' of two arrays is that of their elements, one by one; '==' of books; '!=' and '==' of arrays and of structs, as a region in order meets them; '==' of structs, field by field; of transfers, of sides' data; The law: two states that are alike; The law: a state as the page's; The law: what is there at all; The laws: what a transaction 
-/
import Derived.Laws.StructEq
import Derived.Outline
import Derived.Test.YthhmdgmmeedhdaaGreatR13
namespace Go.Proofs.YthhmdgmmeedhdaaGreat
open Go.RowKit Go.Shelf
attribute [local irreducible] wpFrom
theorem num12_any (x : Int) (w : World) : Calls Tryz.prog 15 #[.int .i64 x] w fun e W' => e = .returned (.int .i64 x) ∧ w = W' := by
 go_enter Tryz.func15, Tryz.ntmps15
 go_wp2
 go_ret
 exact ⟨rfl, rfl⟩
end Go.Proofs.YthhmdgmmeedhdaaGreat
namespace Go.Proofs.YthhmdgmmeedhdaaGreat
open Go.RowKit Go.Shelf
theorem run_equalIn_arr {P : Program} (w : World) (d : Nat) (t elem : TypeId) (len n : Nat) (xs ys : Array Value) (f : Nat → Bool) (ht : P.underlying t = some (.array len elem)) (hs : (sizeOf elem).run P w = .ok n w)
  (h : ∀ i, i < len → ∃ a b, (part elem xs (i * n)).run P w = .ok a w ∧ (part elem ys (i * n)).run P w = .ok b w ∧ (Op.equalIn d elem a b).run P w = .ok (f i) w) :
  (Op.equalIn (d + 1) t (.agg xs) (.agg ys)).run P w = .ok ((List.range len).all f) w := by
 simp only [Op.equalIn, Sem.run_bind, run_underlying ht, Result.andThen_ok, hs, Std.Legacy.Range.forIn_eq_forIn_range', Std.Legacy.Range.size, Nat.sub_zero, Nat.add_sub_cancel, Nat.div_one]
 rw [List.range_eq_range']
 have hL : ∀ i ∈ List.range' 0 len 1, i < len := fun i hi => by simpa using (List.mem_range'_1.1 hi).2
 generalize List.range' 0 len 1 = is at *
 clear ht
 induction is with
 | nil => simp
 | cons i is ih =>
  obtain ⟨a, b, h1, h2, h3⟩ := h i (hL i (List.mem_cons_self ..))
  simp only [List.forIn_cons, Sem.run_bind, h1, h2, h3, Result.andThen_ok, List.all_cons]
  cases hf : f i
  ·
   simp
  ·
   simpa using ih (fun j hj => hL j (List.mem_cons_of_mem _ hj))
end Go.Proofs.YthhmdgmmeedhdaaGreat
namespace Go.Proofs.YthhmdgmmeedhdaaGreat
open Go.RowKit Go.Shelf
theorem part_row (ty : TypeId) (d : TypeDesc) (hu : Tryz.prog.underlying ty = some d) (hd : (match d with | .struct _ | .array _ _ => true | _ => false) = true) (n : Nat) (hi : (Tryz.prog.info? ty).map (·.size) = some n) (cs ns : List Value) (o : Nat) (h : (cs.drop o).take n = ns) (w : World) :
  (part ty cs.toArray o).run Tryz.prog w = .ok (.agg ns.toArray) w := by
 cases hq : Tryz.prog.info? ty with
 | none => simp [hq] at hi
 | some i =>
  have hs : i.size = n := by simpa [hq] using hi
  have hagg : (isAgg ty).run Tryz.prog w = .ok true w := by
   unfold isAgg
   rw [Sem.run_bind, run_underlying hu w]
   cases d <;> simp_all
  simp [part, Sem.run_bind, hagg, sizeOf, typeInfo, hq, hs]
  exact h
end Go.Proofs.YthhmdgmmeedhdaaGreat
namespace Go.Proofs.YthhmdgmmeedhdaaGreat
open Go.RowKit Go.Shelf
attribute [local irreducible] wpFrom
section
variable {ops : Array Oper} {Q : Exit → Act → World → Prop}
theorem op_at {P : Program} {k : Nat} {a : Act} {b : Bool} {d : Option Tmp} {op : Op} (h : (ops[k]?).map (fun o => (Region.wanted o (yielded ops a.tmps), o.dst, o.op)) = some (b, d, op)) : ∃ o, ops[k]? = some o ∧ Region.wanted o (yielded ops a.tmps) = b ∧ o.dst = d ∧ o.op = op ∧ ∀ w, runAt P ops k a w = some (b, d, (execOp a.eval o).run P w) := by
 cases ho : ops[k]? with
 | none => rw [ho] at h; cases h
 | some o =>
  rw [ho, Option.map_some, Option.some.injEq, Prod.mk.injEq, Prod.mk.injEq] at h
  obtain ⟨h1, h2, h3⟩ := h
  exact ⟨o, rfl, h1, h2, h3, fun w => by unfold runAt; rw [ho, Option.map_some, h1, h2]⟩
theorem neA {T : TypeId} (x y : Operand) (z : TypeId) (d : Option Tmp) (xs ys : Array Value) (b : Bool) {k : Nat} {a : Act} {w : World} (he : (Op.equalIn 10000 T (.agg xs) (.agg ys)).run Tryz.prog w = .ok b w) (h : wpFrom Tryz.prog ops Q (k + 1) (a.put d (.bool (!b))) w)
  (hm : Tryz.prog.eqGuardType Tryz.prog.depth T = false := by kernel_rfl) (hk : (ops[k]?).map (fun o => (Region.wanted o (yielded ops a.tmps), o.dst, o.op)) = some (true, d, .binOp .neq T x y z) := by kernel_rfl) (hx : a.eval x = .agg xs := by kernel_rfl) (hy : a.eval y = .agg ys := by kernel_rfl) : wpFrom Tryz.prog ops Q k a w := by
 obtain ⟨o, _, _, _, hop, hr⟩ := op_at (P := Tryz.prog) hk
 refine wpFrom_run ((hr w).trans ?_) h
 unfold execOp
 simp only [hop, hx, hy, Sem.run_bind, run_eqGuard_agg w .neq T x y _ _ hm, run_neq_struct, he, Result.andThen_ok]
 rfl
theorem eqA {T : TypeId} (x y : Operand) (z : TypeId) (d : Option Tmp) (xs ys : Array Value) (b : Bool) {k : Nat} {a : Act} {w : World} (he : (Op.equalIn 10000 T (.agg xs) (.agg ys)).run Tryz.prog w = .ok b w) (h : wpFrom Tryz.prog ops Q (k + 1) (a.put d (.bool b)) w)
  (hm : Tryz.prog.eqGuardType Tryz.prog.depth T = false := by kernel_rfl) (hk : (ops[k]?).map (fun o => (Region.wanted o (yielded ops a.tmps), o.dst, o.op)) = some (true, d, .binOp .eql T x y z) := by kernel_rfl) (hx : a.eval x = .agg xs := by kernel_rfl) (hy : a.eval y = .agg ys := by kernel_rfl) : wpFrom Tryz.prog ops Q k a w := by
 obtain ⟨o, _, _, _, hop, hr⟩ := op_at (P := Tryz.prog) hk
 refine wpFrom_run ((hr w).trans ?_) h
 unfold execOp
 simp only [hop, hx, hy, Sem.run_bind, run_eqGuard_agg w .eql T x y _ _ hm, run_eql_struct, he, Result.andThen_ok]
 rfl
end
theorem eq_row {T : TypeId} {n : Nat} (hu : Tryz.prog.underlying T = some (.array n 27)) (d : Nat) (b : Bk) (w : World) : (Op.equalIn (d + 3) T (.agg (rowB b 0 n).toArray) (.agg (rowB b 0 n).toArray)).run Tryz.prog w = .ok true w := by
 have e := run_equalIn_arr (P := Tryz.prog) w (d + 2) T 27 n 4 (rowB b 0 n).toArray (rowB b 0 n).toArray (fun i => wEq (nw (b i) 0 : Nat) (nw (b i) 1 : Nat) (nw (b i) 2 : Nat) (nw (b i) 3 : Nat) (nw (b i) 0 : Nat) (nw (b i) 1 : Nat) (nw (b i) 2 : Nat) (nw (b i) 3 : Nat)) hu (by kernel_rfl) (fun i hi => by
  have hp : (part 27 (rowB b 0 n).toArray (i * 4)).run Tryz.prog w = .ok (wn (b i)) w :=
   part_row _ _ Tryz.underlying27 rfl 4 (by kernel_rfl) _ (ws (nw (b i))) _ (by rw [show i * 4 = 4 * i by omega, rowB_drop b 0 n (by omega), Nat.zero_add, show 4 = 4 * 1 from rfl, rowB_take b i (n - i) (by omega), rowB, rowB, List.append_nil]) w
  exact ⟨_, _, hp, hp, run_equalIn_wide' d _ _ _ _ _ _ _ _ w⟩)
 rw [show (List.range n).all (fun i => wEq (nw (b i) 0 : Nat) (nw (b i) 1 : Nat) (nw (b i) 2 : Nat) (nw (b i) 3 : Nat) (nw (b i) 0 : Nat) (nw (b i) 1 : Nat) (nw (b i) 2 : Nat) (nw (b i) 3 : Nat)) = true by simp [wEq_refl]] at e
 exact e
theorem eq_no {T : TypeId} (hu : Tryz.prog.underlying T = some (.array 8 3)) (d : Nat) (f : Nat → Int) (w : World) : (Op.equalIn (d + 2) T (.agg (noc f).toArray) (.agg (noc f).toArray)).run Tryz.prog w = .ok true w := by
 have e := run_equalIn_arr (P := Tryz.prog) w (d + 1) T 3 8 1 (noc f).toArray (noc f).toArray (fun i => f i == f i) hu (by kernel_rfl) (fun i hi => by
  have hp : (part 3 (noc f).toArray (i * 1)).run Tryz.prog w = .ok (.int .i64 (f i)) w := by
   have h1 : ((noc f).toArray)[i * 1]? = some (.int .i64 (f i)) := by rw [Nat.mul_one, List.getElem?_toArray]; exact noc_at f hi
   simp [part, isAgg, run_underlying Tryz.underlying3, go_sem] at h1 ⊢
   simp [h1]
  exact ⟨_, _, hp, hp, run_equalIn_int w d 3 .i64 .i64 _ _ Tryz.underlying3⟩)
 rw [show (List.range 8).all (fun i => f i == f i) = true by simp] at e
 exact e
theorem eq_wn (d n : Nat) (w : World) : (Op.equalIn (d + 2) 27 (wn n) (wn n)).run Tryz.prog w = .ok true w := by
 rw [show wn n = .agg (ws (nw n)).toArray from rfl]
 exact (run_equalIn_wide' d _ _ _ _ _ _ _ _ w).trans (by rw [wEq_refl])
end Go.Proofs.YthhmdgmmeedhdaaGreat
namespace Go.Proofs.YthhmdgmmeedhdaaGreat
open Go.RowKit Go.Shelf
theorem eqF_cons {P : Program} {d : Nat} {xs ys : Array Value} {f : Field} {fs : List Field} {a b : Value} {r s : Bool} {w : World} (hn : f.name ≠ "_") (ha : (part f.type xs f.offset).run P w = .ok a w) (hb : (part f.type ys f.offset).run P w = .ok b w)
  (hr : (Op.equalIn d f.type a b).run P w = .ok r w) (h : (Op.eqFields d xs ys fs).run P w = .ok s w) : (Op.eqFields d xs ys (f :: fs)).run P w = .ok (r && s) w := by
 simp only [Op.eqFields, if_pos hn, Sem.run_bind, ha, hb, hr, Result.andThen_ok]
 cases r
 ·
  simp
 ·
  simpa using h
theorem eqF_nil {P : Program} {d : Nat} {xs ys : Array Value} {w : World} : (Op.eqFields d xs ys []).run P w = .ok true w := rfl
theorem part_int (cs : Array Value) (o : Nat) (v : Value) (h : cs[o]? = some v) (w : World) : (part 3 cs o).run Tryz.prog w = .ok v w := by
 simp [part, isAgg, run_underlying Tryz.underlying3, h, go_sem]
theorem part_str (cs : Array Value) (o : Nat) (v : Value) (h : cs[o]? = some v) (w : World) : (part 9 cs o).run Tryz.prog w = .ok v w := by
 simp [part, isAgg, run_underlying Tryz.underlying9, h, go_sem]
end Go.Proofs.YthhmdgmmeedhdaaGreat
namespace Go.Proofs.YthhmdgmmeedhdaaGreat
open Go.RowKit Go.Shelf
attribute [local irreducible] wpFrom
theorem neD {ops : Array Oper} {Q : Exit → Act → World → Prop} {md : Region.Mode} {S : World → Prop} {T : TypeId} (x y : Operand) (z : TypeId) (d : Option Tmp) (xs : Array Value) {m i : Nat} {listed : Array Bool} {a : Act} {w : World} (he : (Op.equalIn 10000 T (.agg xs) (.agg xs)).run Tryz.prog w = .ok true w) (hS : S w) (h : wpAnyH Tryz.prog md ops Q S m (listed.setIfInBounds i true) (a.put d (.bool false)) w)
  (hm : Tryz.prog.eqGuardType Tryz.prog.depth T = false := by kernel_rfl) (hk : (ops[i]?).map (fun o => (Region.wanted o (yielded ops a.tmps), o.dst, o.op)) = some (true, d, .binOp .neq T x y z) := by kernel_rfl) (hx : a.eval x = .agg xs := by kernel_rfl) (hy : a.eval y = .agg xs := by kernel_rfl) : StepH Tryz.prog md ops Q S m listed a w i := by
 obtain ⟨o, _, _, _, hop, hr⟩ := op_at (P := Tryz.prog) hk
 refine stepH_run ((hr w).trans ?_) hS h
 unfold execOp
 simp only [hop, hx, hy, Sem.run_bind, run_eqGuard_agg w .neq T x y _ _ hm, run_neq_struct, he, Result.andThen_ok]
 rfl
section
variable {W : World} {B : Nat} {T : TypeId} {s : Es} {v : Value}
theorem ld_noA (h : Blk W B T (stc s v)) : (Instr.loadAt 31 (.pointer (some ⟨B, 130, none⟩))).run Tryz.prog W = .ok (.agg (noc s.no).toArray) W :=
 load_part h 130 (noc s.no) (by rw [noc_len]; exact st_no s v) _ _ Tryz.underlying31 rfl (by rw [noc_len]; kernel_rfl)
theorem ld_heA (h : Blk W B T (stc s v)) : (Instr.loadAt 28 (.pointer (some ⟨B, 138, none⟩))).run Tryz.prog W = .ok (.agg (rowB s.he 0 2).toArray) W :=
 load_part h 138 (hec s.he) (by rw [hec_len]; exact st_he s v) _ _ Tryz.underlying28 rfl (by rw [hec_len]; kernel_rfl)
end
theorem ld_lkE {W : World} {b o : Nat} {x : Lk} (hc : ∀ j u, (lkc x)[j]? = some u → W.cell? ⟨b, o + j, none⟩ = some u) : (Instr.loadAt 71 (.pointer (some ⟨b, o, none⟩))).run Tryz.prog W = .ok (.agg (lkc x).toArray) W := by
 have h := load_elem (f := lkc) (l := [x]) (k := 0) (x := x) (W := W) (b := b) (off := o) (show Row W b o (flatR lkc [x]) by rw [flat_one]; exact hc) lkc_len rfl 71 _ Tryz.underlying71 rfl (by kernel_rfl)
 rw [Nat.zero_mul, Nat.add_zero] at h
 exact h
theorem eq_lk (d : Nat) (x : Lk) (w : World) : (Op.equalIn (d + 2) 71 (.agg (lkc x).toArray) (.agg (lkc x).toArray)).run Tryz.prog w = .ok true w := by
 rw [run_equalIn_struct w (d + 1) 71 _ _ (by kernel_rfl) (by kernel_rfl)]
 simp only [Program.fieldsOf, Tryz.underlying71]
 have hi : ∀ y : Int, (Op.equalIn (d + 1) 3 (.int .i64 y) (.int .i64 y)).run Tryz.prog w = .ok true w := fun y => (run_equalIn_int w d 3 .i64 .i64 y y Tryz.underlying3).trans (by rw [beq_self_eq_true])
 have hs : ∀ y : ByteArray, (Op.equalIn (d + 1) 9 (.string y) (.string y)).run Tryz.prog w = .ok true w := fun y => (run_equalIn_string w d 9 y y Tryz.underlying9).trans (by rw [beq_self_eq_true])
 refine eqF_cons (r := true) (s := true) (by decide) (part_str _ _ _ rfl w) (part_str _ _ _ rfl w) (hs _) ?_
 refine eqF_cons (r := true) (s := true) (by decide) (part_str _ _ _ rfl w) (part_str _ _ _ rfl w) (hs _) ?_
 refine eqF_cons (r := true) (s := true) (by decide) (part_int _ _ _ rfl w) (part_int _ _ _ rfl w) (hi _) ?_
 exact eqF_nil
set_option maxRecDepth 100000 in
set_option maxHeartbeats 4000000 in
theorem same12_any (s : Es) (v1 v2 : Value) (w : World) {lo1 hi1 lo2 hi2 : Nat} (hl1 : RSl lkc lo1 hi1 w v1 s.lk) (hh1 : hi1 ≤ w.heap.size) (hl2 : RSl lkc lo2 hi2 w v2 s.lk) (hh2 : hi2 ≤ w.heap.size) :
  Calls Tryz.prog 14 #[stv s v1, stv s v2] w fun e W' => e = .returned (.bool true) ∧ Below w.heap.size w W' := by
 have hmx : Tryz.prog.follows .mixedOrders = true := by kernel_rfl
 have HE1 := Lib.hid (fun k x (hx : s.lk[k]? = some x) => hl1.elem lkc_len hx Tryz.underlying37 (fun W => by kernel_rfl))
 have HE2 := Lib.hid (fun k x (hx : s.lk[k]? = some x) => hl2.elem lkc_len hx Tryz.underlying37 (fun W => by kernel_rfl))
 have hmax := hl1.len
 obtain ⟨p1, c1, rfl⟩ := hl1.slice
 obtain ⟨p2, c2, rfl⟩ := hl2.slice
 have HL1 := Lib.hid hl1
 have HL2 := Lib.hid hl2
 unfold maxLen at hmax
 have HMX := Lib.hid hmax
 have HH1 := Lib.hid hh1
 have HH2 := Lib.hid hh2
 clear hl1 hl2 hmax hh1 hh2
 have hM := Mem.start w
 go_enter Tryz.func14, Tryz.ntmps14
 go_upto_region 0 with fail
 refine wp_region_fromM (fun W => Mem w none [] W) hM ?_
 clear hM
 rintro Y1 hM
 refine rF (some 2) (pt Y1.heap.size 0) (Y1.alloc (.cells (stc s (.slice p1 s.lk.length c1)).toArray 39)) ?_
 replace hM := hM.alloc 39 (stc s (.slice p1 s.lk.length c1))
 generalize World.alloc _ _ = Y2 at *
 generalize hNe : Y1.heap.size = P1 at *
 clear hNe
 refine rF (some 3) (pt Y2.heap.size 0) (Y2.alloc (.cells (stc s (.slice p2 s.lk.length c2)).toArray 39)) ?_
 replace hM := hM.alloc 39 (stc s (.slice p2 s.lk.length c2))
 generalize World.alloc _ _ = Y3 at *
 generalize hNe : Y2.heap.size = P2 at *
 clear hNe
 refine tF 3 [.v 2 4 (.bool false)] trivial ?_
 refine eF ?_
 go_upto_region 1 with fail
 refine wp_region_fromM _ hM ?_
 clear hM
 rintro Y4 hM
 refine tF 17 [.v 0 6 (pt P1 0), .l 1 7 3 (pt P1 0) (.int .i64 s.sd), .v 2 8 (pt P2 0), .l 3 9 3 (pt P2 0) (.int .i64 s.sd), .a 4 10 (.bool (s.sd != s.sd)) (.bool false), .v 5 11 (.bool false), .v 6 12 (pt P1 1), .l 7 13 3 (pt P1 1) (.int .i64 s.tm), .v 8 14 (pt P2 1), .l 9 15 3 (pt P2 1) (.int .i64 s.tm), .a 10 16 (.bool (s.tm != s.tm)) (.bool false), .v 11 17 (.bool false), .v 12 18 (.bool false), .v 13 19 (pt P1 2), .l 14 20 36 (pt P1 2) (bkv s.pu), .v 15 21 (pt P2 2), .l 16 22 36 (pt P2 2) (bkv s.pu)] ⟨ld_int hM.a1 0 rfl, ld_int hM.a0 0 rfl, cB (bne_self_eq_false s.sd), ld_int hM.a1 1 rfl, ld_int hM.a0 1 rfl, cB (bne_self_eq_false s.tm), rld_pu (s := s) hM.a1, rld_pu (s := s) hM.a0, trivial⟩ ?_
 refine neA (.tmp 20) (.tmp 22) 36 (some 23) (rowB s.pu 0 16).toArray (rowB s.pu 0 16).toArray true (eq_row (n := 16) Tryz.underlying36 9997 s.pu _) ?_
 refine tF 24 [.v 18 24 (.bool false), .v 19 25 (.bool false), .v 20 26 (pt P1 66), .l 21 27 36 (pt P1 66) (bkv s.va), .v 22 28 (pt P2 66), .l 23 29 36 (pt P2 66) (bkv s.va)] ⟨rld_va (s := s) hM.a1, rld_va (s := s) hM.a0, trivial⟩ ?_
 refine neA (.tmp 27) (.tmp 29) 36 (some 30) (rowB s.va 0 16).toArray (rowB s.va 0 16).toArray true (eq_row (n := 16) Tryz.underlying36 9997 s.va _) ?_
 refine tF 31 [.v 25 31 (.bool false), .v 26 32 (.bool false), .v 27 33 (pt P1 130), .l 28 34 31 (pt P1 130) (.agg (noc s.no).toArray), .v 29 35 (pt P2 130), .l 30 36 31 (pt P2 130) (.agg (noc s.no).toArray)] ⟨ld_noA (s := s) hM.a1, ld_noA (s := s) hM.a0, trivial⟩ ?_
 refine neA (.tmp 34) (.tmp 36) 31 (some 37) (noc s.no).toArray (noc s.no).toArray true (eq_no Tryz.underlying31 9998 s.no _) ?_
 refine tF 38 [.v 32 38 (.bool false), .v 33 39 (.bool false), .v 34 40 (pt P1 138), .l 35 41 28 (pt P1 138) (.agg (rowB s.he 0 2).toArray), .v 36 42 (pt P2 138), .l 37 43 28 (pt P2 138) (.agg (rowB s.he 0 2).toArray)] ⟨ld_heA (s := s) hM.a1, ld_heA (s := s) hM.a0, trivial⟩ ?_
 refine neA (.tmp 41) (.tmp 43) 28 (some 44) (rowB s.he 0 2).toArray (rowB s.he 0 2).toArray true (eq_row (n := 2) Tryz.underlying28 9997 s.he _) ?_
 refine tF 45 [.v 39 45 (.bool false), .v 40 46 (.bool false), .v 41 47 (pt P1 146), .l 42 48 27 (pt P1 146) (wn s.bu), .v 43 49 (pt P2 146), .l 44 50 27 (pt P2 146) (wn s.bu)] ⟨rld_bu (s := s) hM.a1, rld_bu (s := s) hM.a0, trivial⟩ ?_
 refine neA (.tmp 48) (.tmp 50) 27 (some 51) (ws (nw s.bu)).toArray (ws (nw s.bu)).toArray true (eq_wn 9998 s.bu _) ?_
 refine tF 50 [.v 46 52 (.bool false), .v 47 53 (.bool false), .v 48 54 (pt P1 150), .l 49 55 37 (pt P1 150) ((.slice p1 s.lk.length c1))] ⟨rld_lk (s := s) hM.a1, trivial⟩ ?_
 refine rF (some 56) (.int .i64 s.lk.length) (Y4) ?_
 refine tF 53 [.v 51 57 (pt P2 150), .l 52 58 37 (pt P2 150) ((.slice p2 s.lk.length c2))] ⟨rld_lk (s := s) hM.a0, trivial⟩ ?_
 refine rF (some 59) (.int .i64 s.lk.length) (Y4) ?_
 refine tF 56 [.a 54 60 (.bool ((s.lk.length : Int) != (s.lk.length : Int))) (.bool false), .v 55 61 (.bool false)] ⟨cB (bne_self_eq_false _), trivial⟩ ?_
 refine eF ?_
 go_wp2_with fail
 go_loopw [5] (fun i wr => ∃ k : Nat, k ≤ s.lk.length ∧ i = .int .i64 (k : Nat) ∧ Mem w none [(P2, 39, stc s (.slice p2 s.lk.length c2)), (P1, 39, stc s (.slice p1 s.lk.length c1))] wr) (fun i _ => s.lk.length - (intOf i).toNat)
 case atStart => exact ⟨0, Nat.zero_le _, rfl, hM⟩
 clear hM
 case round =>
  obtain ⟨k, hk, rfl, hM⟩ := hrel
  by_cases hlt : k < s.lk.length
  ·
   obtain ⟨x, hx⟩ : ∃ x, s.lk[k]? = some x := ⟨_, List.getElem?_eq_getElem hlt⟩
   obtain ⟨b1, o1, _, _, hi1, hc1⟩ := HE1.out k x hx
   obtain ⟨b2, o2, _, _, hi2, hc2⟩ := HE2.out k x hx
   have HI1 := Lib.hid hi1
   have HC1 := Lib.hid hc1
   have HI2 := Lib.hid hi2
   have HC2 := Lib.hid hc2
   have hlt' : (k : Int) < (s.lk.length : Int) := by omega
   have HLT := Lib.hid hlt
   clear hx hi1 hc1 hi2 hc2 hlt
   go_upto_region 4 with fail
   refine wp_region_fromM _ hM ?_
   clear hM
   rintro Y5 hM
   refine tF 3 [.v 0 62 (.int .i64 (k : Int)), .v 1 63 (pt P1 150), .l 2 64 37 (pt P1 150) ((.slice p1 s.lk.length c1))] ⟨rld_lk (s := s) hM.a1, trivial⟩ ?_
   refine rF (some 65) (.int .i64 s.lk.length) (Y5) ?_
   refine tF 5 [.a 4 66 (.bool (decide ((k : Int) < (s.lk.length : Int)))) (.bool true)] ⟨cB (decide_eq_true hlt'), trivial⟩ ?_
   refine eF ?_
   go_upto_region 6 with fail
   refine wp_region_M (fun W => Mem w none [(P2, 39, stc s (.slice p2 s.lk.length c2)), (P1, 39, stc s (.slice p1 s.lk.length c1))] W) (fun W => Mem w none [(P2, 39, stc s (.slice p2 s.lk.length c2)), (P1, 39, stc s (.slice p1 s.lk.length c1))] W) hmx hM.drew ?_
   clear hM
   rintro Y6 hM
   have hS := hM.sub (.cons_cons _ (.cons_cons _ .slnil))
   refine tD 1 [.v 0 69 (pt P1 150), .l 1 70 37 (pt P1 150) ((.slice p1 s.lk.length c1)), .v 2 71 (.int .i64 (k : Int)), .x 3 72 37 ((.slice p1 s.lk.length c1)) (.int .i64 (k : Int)) (pt b1 o1), .l 4 73 71 (pt b1 o1) (.agg (lkc x).toArray), .v 5 74 (pt P2 150), .l 6 75 37 (pt P2 150) ((.slice p2 s.lk.length c2)), .v 7 76 (.int .i64 (k : Int)), .x 8 77 37 ((.slice p2 s.lk.length c2)) (.int .i64 (k : Int)) (pt b2 o2), .l 9 78 71 (pt b2 o2) (.agg (lkc x).toArray)] ⟨fun W h => rld_lk (s := s) h.a1, fun W h => HI1.out _, fun W h => ld_lkE (HC1.out _ (HL1.out.below h.b HH1.out)), fun W h => rld_lk (s := s) h.a0, fun W h => HI2.out _, fun W h => ld_lkE (HC2.out _ (HL2.out.below h.b HH2.out)), trivial⟩ hS ?_
   refine oD 10 0 (neD (.tmp 73) (.tmp 78) 71 (some 79) (lkc x).toArray (eq_lk 9998 x _) hS ?_)
   refine eD ?_
   clear hS
   have hmx2 := HMX.out
   have hlt2 := HLT.out
   have hwr : IntKind.i64.wrap ((k : Int) + 1) = ((k + 1 : Nat) : Int) := (IntWalk.i64_in _ (by omega)).trans (by omega)
   go_wp2_with fail
   go_roundw
   case rel => exact ⟨k + 1, HLT.out, by go_num, hM⟩
   case measure => have := HLT.out; simp [intOf]; omega
  ·
   obtain rfl : k = s.lk.length := by omega
   go_upto_region 4 with fail
   refine wp_region_fromM _ hM ?_
   clear hM
   rintro Y7 hM
   refine tF 3 [.v 0 62 (.int .i64 (s.lk.length : Int)), .v 1 63 (pt P1 150), .l 2 64 37 (pt P1 150) ((.slice p1 s.lk.length c1))] ⟨rld_lk (s := s) hM.a1, trivial⟩ ?_
   refine rF (some 65) (.int .i64 s.lk.length) (Y7) ?_
   refine tF 5 [.a 4 66 (.bool (decide ((s.lk.length : Int) < (s.lk.length : Int)))) (.bool false)] ⟨cB (decide_eq_false (by omega)), trivial⟩ ?_
   refine eF ?_
   go_wp2_with fail
   go_ret
   exact ⟨rfl, hM.b⟩
end Go.Proofs.YthhmdgmmeedhdaaGreat
namespace Go.Proofs.YthhmdgmmeedhdaaGreat
open Go.RowKit Go.Shelf
attribute [local irreducible] wpFrom
theorem idx_pb {W : World} {B o k : Nat} (hk : k < 8) : (Instr.indexAt 30 (.pointer (some ⟨B, o, none⟩)) (.int .i64 (k : Int))).run Tryz.prog W = .ok (.pointer (some ⟨B, o + k * 8, none⟩)) W :=
 idx_arr Tryz.underlying30 (by kernel_rfl) hk
theorem idx_p2 {W : World} {B o k : Nat} (hk : k < 2) : (Instr.indexAt 28 (.pointer (some ⟨B, o, none⟩)) (.int .i64 (k : Int))).run Tryz.prog W = .ok (.pointer (some ⟨B, o + k * 4, none⟩)) W :=
 idx_arr Tryz.underlying28 (by kernel_rfl) hk
section
variable {W : World} {B : Nat} {T : TypeId} {s : Es} {v : Value}
theorem ld_puS (h : Blk W B T (stc s v)) {j o : Nat} (hj : j < 16) (ho : o = 2 + 4 * j) : (Instr.loadAt 27 (.pointer (some ⟨B, o, none⟩))).run Tryz.prog W = .ok (wn (s.pu j)) W := by
 subst ho
 exact load_part h (2 + 4 * j) (ws (nw (s.pu j))) (by rw [ws_len]; exact st_puS s v hj) _ _ Tryz.underlying27 rfl (by rw [ws_len]; exact info_wide)
theorem ld_vaS (h : Blk W B T (stc s v)) {j o : Nat} (hj : j < 16) (ho : o = 66 + 4 * j) : (Instr.loadAt 27 (.pointer (some ⟨B, o, none⟩))).run Tryz.prog W = .ok (wn (s.va j)) W := by
 subst ho
 exact load_part h (66 + 4 * j) (ws (nw (s.va j))) (by rw [ws_len]; exact st_vaS s v hj) _ _ Tryz.underlying27 rfl (by rw [ws_len]; exact info_wide)
theorem sto_puS (h : Blk W B T (stc s v)) {j o : Nat} (hj : j < 16) (ho : o = 2 + 4 * j) (n : Nat) : (Instr.storeAt 27 (.pointer (some ⟨B, o, none⟩)) (wn n)).run Tryz.prog W = .ok () (W.setRow B (stc { s with pu := updB s.pu j n } v).toArray) := by
 subst ho
 exact sto_part _ h (2 + 4 * j) _ _ (ws (nw n)) rfl (by rw [ws_len]; exact info_wide) (by rw [ws_len, stc_len]; omega) rfl (set_puS s v n hj)
theorem sto_vaS (h : Blk W B T (stc s v)) {j o : Nat} (hj : j < 16) (ho : o = 66 + 4 * j) (n : Nat) : (Instr.storeAt 27 (.pointer (some ⟨B, o, none⟩)) (wn n)).run Tryz.prog W = .ok () (W.setRow B (stc { s with va := updB s.va j n } v).toArray) := by
 subst ho
 exact sto_part _ h (66 + 4 * j) _ _ (ws (nw n)) rfl (by rw [ws_len]; exact info_wide) (by rw [ws_len, stc_len]; omega) rfl (set_vaS s v n hj)
end
def plS (s : Es) (k : Nat) : Es := { s with pu := fun i => if i < k then s.pu i else 0, va := fun i => if i < k then s.va i else 0 }
theorem half2 (k : Nat) : Int.tdiv (k : Int) 2 = ((k / 2 : Nat) : Int) := by
 rw [Int.tdiv_eq_ediv_of_nonneg (by omega)]
 omega
theorem odd2 (k : Nat) : Int.tmod (k : Int) 2 = ((k % 2 : Nat) : Int) := by
 rw [Int.tmod_eq_emod_of_nonneg (by omega)]
 omega
theorem plS_next (s : Es) (k : Nat) : { plS s k with pu := updB (plS s k).pu k (s.pu k), va := updB (plS s k).va k (s.va k) } = plS s (k + 1) := by
 have e : ∀ b : Bk, updB (fun i => if i < k then b i else 0) k (b k) = fun i => if i < k + 1 then b i else 0 := fun b => by
  funext i
  unfold updB
  by_cases h : i = k
  ·
   subst h; simp
  ·
   by_cases h2 : i < k
   ·
    simp [h, h2, show i < k + 1 by omega]
   ·
    simp [h, h2, show ¬ i < k + 1 by omega]
 show ({ s with pu := updB (fun i => if i < k then s.pu i else 0) k (s.pu k), va := updB (fun i => if i < k then s.va i else 0) k (s.va k) } : Es) = _
 rw [e s.pu, e s.va]
 rfl
theorem plS_all (s : Es) (v : Value) : stc (plS s 16) v = stc s v := by kernel_rfl
theorem res_rst {fn : Func} {p : Tmp} (h : fn.results = #[.cell p 39]) (tmps : Array Value) {w : World} {g : Nat} {T : TypeId} {s : Es} {v : Value} (hp : tmps.getD p undef = .pointer (some ⟨g, 0, none⟩)) (hg : Blk w g T (stc s v)) :
  (results fn tmps).run Tryz.prog w = .ok (stv s v) w :=
 results_cell_row h tmps w g T (stc s v).toArray (0, 0) _ hp hg Tryz.underlying39 rfl (by rw [List.size_toArray, stc_len]; exact rinfo_st)
def SzGe (n : Nat) (W : World) : Prop := n ≤ W.heap.size
theorem SzGe.drew {n : Nat} {W : World} (h : SzGe n W) : SzGe n W.drew := h
theorem SzGe.alloc {n : Nat} {W : World} (h : SzGe n W) (c : Obj) : SzGe n (W.alloc c) := Nat.le_trans h (chainA (Below.refl _ W) c).size
theorem SzGe.grown {n : Nat} {W W' : World} {r : Option Nat} (h : SzGe n W) (hg : W.grownBy W' r) : SzGe n W' := Nat.le_trans h hg.size
def PlainR (s : Es) (w : World) (e : Ending) (W' : World) : Prop := ∃ v', e = .returned (stv s v') ∧ OwnM w.heap.size W' v' s.lk ∧ Below w.heap.size w W'
set_option maxRecDepth 100000 in
set_option maxHeartbeats 4000000 in
theorem plain12_any (s : Es) (v : Value) (w : World) {lo hi : Nat} (hl : RSl lkc lo hi w v s.lk) (hhi : hi ≤ w.heap.size) (hr : (s.lk.length + 1) * 40 ≤ 140737488355328) :
  Calls Tryz.prog 10 #[stv s v] w (PlainR s w) := by
 have hmx : Tryz.prog.follows .mixedOrders = true := by kernel_rfl
 have HE := Lib.hid (fun k x (hx : s.lk[k]? = some x) => hl.elem lkc_len hx Tryz.underlying32 (fun W => by kernel_rfl))
 have hmax := hl.len
 obtain ⟨p1, c1, rfl⟩ := hl.slice
 have HL := Lib.hid hl
 unfold maxLen at hmax
 have HMX := Lib.hid hmax
 have HH := Lib.hid hhi
 have HR := Lib.hid hr
 clear hl hmax hhi hr
 have hM := Mem.start w
 go_enter Tryz.func10, Tryz.ntmps10
 go_upto_region 0 with fail
 refine wp_region_fromM (fun W => Mem w none [] W) hM ?_
 clear hM
 rintro Y1 hM
 refine rF (some 1) (pt Y1.heap.size 0) (Y1.alloc (.cells (stc s (.slice p1 s.lk.length c1)).toArray 34)) ?_
 replace hM := hM.alloc 34 (stc s (.slice p1 s.lk.length c1))
 generalize World.alloc _ _ = Y2 at *
 generalize hNe : Y1.heap.size = P at *
 clear hNe
 refine rF (some 2) (pt Y2.heap.size 0) (Y2.alloc (.cells (stc zS nilV).toArray 39)) ?_
 replace hM := hM.alloc 39 (stc zS nilV)
 generalize World.alloc _ _ = Y3 at *
 generalize hNe : Y2.heap.size = R at *
 clear hNe
 refine eF ?_
 go_upto_region 1 with fail
 refine wp_region_fromM _ hM ?_
 clear hM
 rintro Y4 hM
 refine tF 11 [.v 0 6 (pt P 0), .l 1 7 3 (pt P 0) (.int .i64 s.sd), .v 2 8 (pt P 1), .l 3 9 3 (pt P 1) (.int .i64 s.tm), .v 4 10 (pt P 130), .l 5 11 31 (pt P 130) (.agg (noc s.no).toArray), .v 6 12 (pt P 138), .l 7 13 28 (pt P 138) (.agg (rowB s.he 0 2).toArray), .v 8 14 (pt P 146), .l 9 15 27 (pt P 146) (wn s.bu), .v 10 16 (stv { s with pu := noK, va := noK } nilV)] ⟨ld_int hM.a1 0 rfl, ld_int hM.a1 1 rfl, ld_noA (s := s) hM.a1, ld_heA (s := s) hM.a1, ld_bu (s := s) hM.a1, trivial⟩ ?_
 refine rF (some 3) (pt Y4.heap.size 0) (Y4.alloc (.cells (stc zS nilV).toArray 39)) ?_
 replace hM := hM.alloc 39 (stc zS nilV)
 generalize World.alloc _ _ = Y5 at *
 generalize hNe : Y4.heap.size = X at *
 clear hNe
 refine sF 39 (pt X 0) (stv { s with pu := noK, va := noK } nilV) (rsto_st hM.a0 (stc_len _ _) { s with pu := noK, va := noK } rfl) ?_
 replace hM := hM.set 0 (cs' := stc { s with pu := noK, va := noK } nilV) rfl rfl
 generalize World.setRow _ _ _ = Y6 at *
 refine eF ?_
 rw [show stc { s with pu := noK, va := noK } nilV = stc (plS s 0) nilV from by unfold plS; simp only [Nat.not_lt_zero, if_false]] at hM
 go_wp2_with fail
 go_loopw [4] (fun i wr => ∃ k : Nat, k ≤ 16 ∧ i = .int .i64 (k : Nat) ∧ Mem w none [(X, 39, stc (plS s k) nilV), (R, 39, stc zS nilV), (P, 34, stc s (.slice p1 s.lk.length c1))] wr) (fun i _ => 16 - (intOf i).toNat)
 case atStart => exact ⟨0, Nat.zero_le _, rfl, hM⟩
 clear hM
 case round =>
  obtain ⟨k, hk, rfl, hM⟩ := hrel
  by_cases hlt : k < 16
  ·
   have hlt' : (k : Int) < 16 := by omega
   go_upto_region 3 with fail
   refine wp_region_fromM _ hM ?_
   clear hM
   rintro Y7 hM
   refine tF 2 [.v 0 17 (.int .i64 (k : Int)), .a 1 18 (.bool (decide ((k : Int) < 16))) (.bool true)] ⟨cB (decide_eq_true hlt'), trivial⟩ ?_
   refine eF ?_
   go_upto_region 5 with fail
   refine wp_region_M (fun W => Mem w none [(P, 34, stc s (.slice p1 s.lk.length c1))] W) (fun W => Mem w none [(X, 39, stc (plS s k) nilV), (R, 39, stc zS nilV), (P, 34, stc s (.slice p1 s.lk.length c1))] W) hmx hM.drew ?_
   clear hM
   rintro Y8 hM
   have hS := hM.sub (.cons _ (.cons _ (.cons_cons _ .slnil)))
   refine tD 3 [.v 0 21 (.int .i64 (k : Int)), .v 1 22 (.int .i64 (k : Int)), .v 2 23 (.int .i64 (k : Int)), .a 3 24 (.int .i64 (IntKind.i64.wrap (Int.tdiv (k : Int) 2))) (.int .i64 ((k / 2 : Nat) : Int)), .v 4 25 (.int .i64 (k : Int)), .a 5 26 (.int .i64 (Int.tmod (k : Int) 2)) (.int .i64 ((k % 2 : Nat) : Int)), .v 6 27 (pt P 2), .x 7 28 30 (pt P 2) (.int .i64 ((k / 2 : Nat) : Int)) (pt P (2 + k / 2 * 8)), .x 8 29 28 (pt P (2 + k / 2 * 8)) (.int .i64 ((k % 2 : Nat) : Int)) (pt P (2 + k / 2 * 8 + k % 2 * 4)), .l 9 30 27 (pt P (2 + k / 2 * 8 + k % 2 * 4)) (wn (s.pu k)), .v 10 31 (.int .i64 (k : Int)), .a 11 32 (.int .i64 (IntKind.i64.wrap (Int.tdiv (k : Int) 2))) (.int .i64 ((k / 2 : Nat) : Int)), .v 12 33 (.int .i64 (k : Int)), .a 13 34 (.int .i64 (Int.tmod (k : Int) 2)) (.int .i64 ((k % 2 : Nat) : Int)), .v 14 35 (pt P 66), .x 15 36 30 (pt P 66) (.int .i64 ((k / 2 : Nat) : Int)) (pt P (66 + k / 2 * 8)), .x 16 37 28 (pt P (66 + k / 2 * 8)) (.int .i64 ((k % 2 : Nat) : Int)) (pt P (66 + k / 2 * 8 + k % 2 * 4)), .l 17 38 27 (pt P (66 + k / 2 * 8 + k % 2 * 4)) (wn (s.va k)), .v 18 39 (pt X 2), .x 19 40 36 (pt X 2) (.int .i64 (k : Int)) (pt X (2 + k * 4)), .v 21 41 (pt X 66)] ⟨cI ((IntWalk.i64_in _ (by rw [half2]; omega)).trans (half2 k)), cI (odd2 k), fun W h => idx_pb (by omega), fun W h => idx_p2 (by omega), fun W h => ld_puS (s := s) h.a0 hlt (by omega), cI ((IntWalk.i64_in _ (by rw [half2]; omega)).trans (half2 k)), cI (odd2 k), fun W h => idx_pb (by omega), fun W h => idx_p2 (by omega), fun W h => ld_vaS (s := s) h.a0 hlt (by omega), fun W h => ridx_16 hlt, trivial⟩ hS ?_
   have hM1 := hM.set 0 (cs' := stc ({ plS s k with pu := updB (plS s k).pu k (s.pu k) }) nilV) rfl rfl
   refine oD 20 2 (sD 27 (pt X (2 + k * 4)) (wn (s.pu k)) (sto_puS (s := plS s k) hM.a0 hlt (by omega) _) (hM1.sub (.cons _ (.cons _ (.cons_cons _ .slnil)))) ?_)
   replace hS := hM1.sub (.cons _ (.cons _ (.cons_cons _ .slnil)))
   replace hM := hM1
   clear hM1
   generalize World.setRow _ _ _ = Y9 at *
   refine tD 1 [.x 22 42 36 (pt X 66) (.int .i64 (k : Int)) (pt X (66 + k * 4))] ⟨fun W h => ridx_16 hlt, trivial⟩ hS ?_
   have hM1 := hM.set 0 (cs' := stc ({ plS s k with pu := updB (plS s k).pu k (s.pu k), va := updB (plS s k).va k (s.va k) }) nilV) rfl rfl
   refine oD 23 0 (sD 27 (pt X (66 + k * 4)) (wn (s.va k)) (sto_vaS (s := { plS s k with pu := updB (plS s k).pu k (s.pu k) }) hM.a0 hlt (by omega) _) (hM1.sub (.cons _ (.cons _ (.cons_cons _ .slnil)))) ?_)
   replace hS := hM1.sub (.cons _ (.cons _ (.cons_cons _ .slnil)))
   replace hM := hM1
   clear hM1
   generalize World.setRow _ _ _ = Y10 at *
   refine eD ?_
   clear hS
   rw [plS_next s k] at hM
   have hwr : IntKind.i64.wrap ((k : Int) + 1) = ((k + 1 : Nat) : Int) := (IntWalk.i64_in _ (by omega)).trans (by omega)
   go_wp2_with fail
   go_roundw
   case rel => exact ⟨k + 1, hlt, by go_num, hM⟩
   case measure => simp [intOf]; omega
  ·
   obtain rfl : k = 16 := by omega
   rw [plS_all s nilV] at hM
   go_upto_region 3 with fail
   refine wp_region_fromM _ hM ?_
   clear hM
   rintro Y11 hM
   refine tF 2 [.v 0 17 (.int .i64 ((16 : Nat) : Int)), .v 1 18 (.bool false)] trivial ?_
   refine eF ?_
   have hXE := hM.a0.lt
   have hRE := hM.a1.lt
   have hPE := hM.a2.lt
   have hEs := hM.size
   go_wp2_with fail
   go_loopw [5] (fun i wr => ∃ (j : Nat) (v' : Value), j ≤ s.lk.length ∧ i = .int .i64 (j : Nat) ∧ Mem w none [(X, 39, stc s v'), (R, 39, stc zS nilV), (P, 34, stc s (.slice p1 s.lk.length c1))] wr ∧ OwnM Y11.heap.size wr v' (s.lk.take j) ∧ SzGe Y11.heap.size wr) (fun i _ => s.lk.length - (intOf i).toNat)
   case atStart => exact ⟨0, nilV, Nat.zero_le _, rfl, hM, World.ownsRow_nil _ _ _ _, Nat.le_refl _⟩
   clear hM
   case round =>
    obtain ⟨j, v', hj, rfl, hM, hO, hZ⟩ := hrel
    by_cases hlt : j < s.lk.length
    ·
     obtain ⟨x, hx⟩ : ∃ x, s.lk[j]? = some x := ⟨_, List.getElem?_eq_getElem hlt⟩
     obtain ⟨b, o, _, _, hi', hc⟩ := HE.out j x hx
     have HI := Lib.hid hi'
     have HC := Lib.hid hc
     have HX := Lib.hid hx
     have hlt' : (j : Int) < (s.lk.length : Int) := by omega
     have HLT := Lib.hid hlt
     clear hx hi' hc hlt
     go_upto_region 7 with fail
     refine wp_region_fromM (fun W => Mem w none [(X, 39, stc s v'), (R, 39, stc zS nilV), (P, 34, stc s (.slice p1 s.lk.length c1))] W ∧ OwnM Y11.heap.size W v' (s.lk.take j) ∧ SzGe Y11.heap.size W) ⟨hM, hO, hZ⟩ ?_
     clear hM hO hZ
     rintro Y12 ⟨hM, hO, hZ⟩
     refine tF 3 [.v 0 43 (.int .i64 (j : Int)), .v 1 44 (pt P 150), .l 2 45 32 (pt P 150) ((.slice p1 s.lk.length c1))] ⟨ld_lk (s := s) hM.a2, trivial⟩ ?_
     refine rF (some 46) (.int .i64 s.lk.length) (Y12) ?_
     refine tF 5 [.a 4 47 (.bool (decide ((j : Int) < (s.lk.length : Int)))) (.bool true)] ⟨cB (decide_eq_true hlt'), trivial⟩ ?_
     refine eF ?_
     have htk : s.lk.take j ++ [x] = s.lk.take (j + 1) := by rw [List.take_add_one, HX.out]; rfl
     have HTK := Lib.hid htk
     clear htk
     go_upto_region 9 with fail
     refine wp_region_M (fun W => Mem w none [(R, 39, stc zS nilV), (P, 34, stc s (.slice p1 s.lk.length c1))] W) (fun W => Mem w none [(X, 39, stc s v'), (R, 39, stc zS nilV), (P, 34, stc s (.slice p1 s.lk.length c1))] W ∧ OwnM Y11.heap.size W v' (s.lk.take j) ∧ SzGe Y11.heap.size W) hmx ⟨hM.drew, hO.drew, hZ.drew⟩ ?_
     clear hM hO hZ
     rintro Y13 ⟨hM, hO, hZ⟩
     have hS := hM.sub (.cons _ (.cons_cons _ (.cons_cons _ .slnil)))
     refine tD 5 [.v 0 50 (pt X 150), .v 2 52 (pt P 150), .l 3 53 32 (pt P 150) ((.slice p1 s.lk.length c1)), .v 4 54 (.int .i64 (j : Int)), .x 5 55 32 ((.slice p1 s.lk.length c1)) (.int .i64 (j : Int)) (pt b o), .v 6 56 (pt b o), .l 7 57 9 (pt b o) (.string x.ke), .v 8 58 (pt P 150), .l 9 59 32 (pt P 150) ((.slice p1 s.lk.length c1)), .v 10 60 (.int .i64 (j : Int)), .x 11 61 32 ((.slice p1 s.lk.length c1)) (.int .i64 (j : Int)) (pt b o), .v 12 62 (pt b (o + 1)), .l 13 63 9 (pt b (o + 1)) (.string x.dg), .v 14 64 (pt P 150), .l 15 65 32 (pt P 150) ((.slice p1 s.lk.length c1)), .v 16 66 (.int .i64 (j : Int)), .x 17 67 32 ((.slice p1 s.lk.length c1)) (.int .i64 (j : Int)) (pt b o), .v 18 68 (pt b (o + 2)), .l 19 69 3 (pt b (o + 2)) (.int .i64 x.st), .v 20 70 (lkv x)] ⟨fun W h => ld_lk (s := s) h.a1, fun W h => HI.out _, fun W h => ld_cell _ _ Tryz.underlying9 rfl (HC.out _ (HL.out.below h.b HH.out) 0 _ rfl), fun W h => ld_lk (s := s) h.a1, fun W h => HI.out _, fun W h => ld_cell _ _ Tryz.underlying9 rfl (HC.out _ (HL.out.below h.b HH.out) 1 _ rfl), fun W h => ld_lk (s := s) h.a1, fun W h => HI.out _, fun W h => ld_cell _ _ Tryz.underlying3 rfl (HC.out _ (HL.out.below h.b HH.out) 2 _ rfl), trivial⟩ hS ?_
     refine oT 1 21 4 ?_ ?_
     ·
      refine lD (some 51) 37 (pt X 150) (v') (rld_lk (s := s) hM.a0) (hS) ?_
      refine oD 21 3 (rD (some 71) (.slice (some ⟨Y13.heap.size, 0, none⟩) 1 1) (Y13.alloc (.cells (lkc x).toArray 71)) (hS.other (.cells (lkc x).toArray 71)) ?_)
      replace hS := hS.other (.cells (lkc x).toArray 71)
      have hk1 : ∀ q, v'.ownBlock = some q → Y11.heap.size ≤ q ∧ q < Y13.heap.size := fun q hq => World.ownsRow.lt hO q hq
      replace hM := hM.alloc 71 (lkc x)
      replace hO := hO.alloc (.cells (lkc x).toArray 71)
      replace hZ := hZ.alloc (.cells (lkc x).toArray 71)
      generalize World.alloc _ _ = Y14 at *
      generalize hNe : Y13.heap.size = N at *
      clear hNe
      obtain ⟨v2, W3, hrun2, hO2, hg2⟩ := rown_append hO hZ x hM.a0 (by have := HR.out; rw [List.length_take]; omega) 37
      rw [HTK.out] at hO2
      have hM3 := hM.own hg2 (fun q hq => ⟨by have := hk1 q hq; omega, fun y hy => by
       have := hk1 q hq
       simp only [List.mem_cons, List.not_mem_nil, or_false] at hy
       rcases hy with rfl | rfl | rfl | rfl <;> (dsimp only; omega)⟩)
      replace hZ := hZ.grown hg2
      refine oD 22 2 (stepH_append (d := some 72) (t := 37) (t' := 37) (ty := 37) (v := v') (x := .slice (some ⟨N, 0, none⟩) 1 1) (by kernel_rfl) hrun2 (hM3.sub (.cons _ (.cons _ (.refl _)))) ?_)
      replace hS := hM3.sub (.cons _ (.cons _ (.refl _)))
      replace hM := hM3
      clear hM3 hrun2 hg2 hO hk1
      refine tD 1 [.v 23 73 (pt X 150)] trivial hS ?_
      have hM1 := hM.set 1 (cs' := stc s v2) rfl rfl
      have hO3 := OwnM.row hO2 (B := X) (fun q hq e => by have := (World.ownsRow.lt hO2 q hq).1; omega) (stc s v2).toArray
      replace hZ := hZ.grown (grownBy_row W3 X (stc s v2).toArray)
      refine oD 24 0 (sD 37 (pt X 150) (v2) (rsto_lk (s := s) hM.a1 (OwnM.one hO2).1 (OwnM.one hO2).2) (hM1.sub (.cons _ (.cons _ (.refl _)))) ?_)
      clear hS
      replace hM := hM1
      clear hM1 hO2
      generalize W3.setRow X _ = W4 at *
      refine eD ?_
      have hmx2 := HMX.out
      have hlt2 := HLT.out
      have hM5 := hM.sub (.cons _ (.refl _))
      have HM5 := Lib.hid hM5
      have HO5 := Lib.hid hO3
      have HZ5 := Lib.hid hZ
      clear hM hM5 hO3 hZ
      have hwr : IntKind.i64.wrap ((j : Int) + 1) = ((j + 1 : Nat) : Int) := (IntWalk.i64_in _ (by omega)).trans (by omega)
      go_wp2_with fail
      go_roundw
      case rel => exact ⟨j + 1, v2, HLT.out, by go_num, HM5.out, HO5.out, HZ5.out⟩
      case measure => have := HLT.out; simp [intOf]; omega
     ·
      refine rD (some 71) (.slice (some ⟨Y13.heap.size, 0, none⟩) 1 1) (Y13.alloc (.cells (lkc x).toArray 71)) (hS.other (.cells (lkc x).toArray 71)) ?_
      replace hS := hS.other (.cells (lkc x).toArray 71)
      have hk1 : ∀ q, v'.ownBlock = some q → Y11.heap.size ≤ q ∧ q < Y13.heap.size := fun q hq => World.ownsRow.lt hO q hq
      replace hM := hM.alloc 71 (lkc x)
      replace hO := hO.alloc (.cells (lkc x).toArray 71)
      replace hZ := hZ.alloc (.cells (lkc x).toArray 71)
      generalize World.alloc _ _ = Y15 at *
      generalize hNe : Y13.heap.size = N at *
      clear hNe
      refine oD 1 3 (lD (some 51) 37 (pt X 150) (v') (rld_lk (s := s) hM.a1) (hS) ?_)
      obtain ⟨v2, W3, hrun2, hO2, hg2⟩ := rown_append hO hZ x hM.a0 (by have := HR.out; rw [List.length_take]; omega) 37
      rw [HTK.out] at hO2
      have hM3 := hM.own hg2 (fun q hq => ⟨by have := hk1 q hq; omega, fun y hy => by
       have := hk1 q hq
       simp only [List.mem_cons, List.not_mem_nil, or_false] at hy
       rcases hy with rfl | rfl | rfl | rfl <;> (dsimp only; omega)⟩)
      replace hZ := hZ.grown hg2
      refine oD 22 2 (stepH_append (d := some 72) (t := 37) (t' := 37) (ty := 37) (v := v') (x := .slice (some ⟨N, 0, none⟩) 1 1) (by kernel_rfl) hrun2 (hM3.sub (.cons _ (.cons _ (.refl _)))) ?_)
      replace hS := hM3.sub (.cons _ (.cons _ (.refl _)))
      replace hM := hM3
      clear hM3 hrun2 hg2 hO hk1
      refine tD 1 [.v 23 73 (pt X 150)] trivial hS ?_
      have hM1 := hM.set 1 (cs' := stc s v2) rfl rfl
      have hO3 := OwnM.row hO2 (B := X) (fun q hq e => by have := (World.ownsRow.lt hO2 q hq).1; omega) (stc s v2).toArray
      replace hZ := hZ.grown (grownBy_row W3 X (stc s v2).toArray)
      refine oD 24 0 (sD 37 (pt X 150) (v2) (rsto_lk (s := s) hM.a1 (OwnM.one hO2).1 (OwnM.one hO2).2) (hM1.sub (.cons _ (.cons _ (.refl _)))) ?_)
      clear hS
      replace hM := hM1
      clear hM1 hO2
      generalize W3.setRow X _ = W4 at *
      refine eD ?_
      have hmx2 := HMX.out
      have hlt2 := HLT.out
      have hM5 := hM.sub (.cons _ (.refl _))
      have HM5 := Lib.hid hM5
      have HO5 := Lib.hid hO3
      have HZ5 := Lib.hid hZ
      clear hM hM5 hO3 hZ
      have hwr : IntKind.i64.wrap ((j : Int) + 1) = ((j + 1 : Nat) : Int) := (IntWalk.i64_in _ (by omega)).trans (by omega)
      go_wp2_with fail
      go_roundw
      case rel => exact ⟨j + 1, v2, HLT.out, by go_num, HM5.out, HO5.out, HZ5.out⟩
      case measure => have := HLT.out; simp [intOf]; omega
    ·
     obtain rfl : j = s.lk.length := by omega
     rw [List.take_length] at hO
     go_upto_region 7 with fail
     refine wp_region_fromM (fun W => Mem w none [(X, 39, stc s v'), (R, 39, stc zS nilV), (P, 34, stc s (.slice p1 s.lk.length c1))] W ∧ OwnM Y11.heap.size W v' s.lk) ⟨hM, hO⟩ ?_
     clear hM hO
     rintro Y16 ⟨hM, hO⟩
     refine tF 3 [.v 0 43 (.int .i64 (s.lk.length : Int)), .v 1 44 (pt P 150), .l 2 45 32 (pt P 150) ((.slice p1 s.lk.length c1))] ⟨ld_lk (s := s) hM.a2, trivial⟩ ?_
     refine rF (some 46) (.int .i64 s.lk.length) (Y16) ?_
     refine tF 5 [.a 4 47 (.bool (decide ((s.lk.length : Int) < (s.lk.length : Int)))) (.bool false)] ⟨cB (decide_eq_false (by omega)), trivial⟩ ?_
     refine eF ?_
     go_upto_region 10 with fail
     refine wp_region_fromM (fun W => Mem w none [(X, 39, stc s v'), (R, 39, stc zS nilV), (P, 34, stc s (.slice p1 s.lk.length c1))] W ∧ OwnM Y11.heap.size W v' s.lk) ⟨hM, hO⟩ ?_
     clear hM hO
     rintro Y17 ⟨hM, hO⟩
     refine tF 1 [.l 0 74 39 (pt X 0) (stv (s) (v'))] ⟨rld_st (s := s) hM.a0, trivial⟩ ?_
     have hO4 := OwnM.row hO (B := R) (fun q hq e => by have := (World.ownsRow.lt hO q hq).1; omega) (stc s v').toArray
     refine sF 39 (pt R 0) (stv (s) (v')) (rsto_st hM.a1 (stc_len _ _) s (OwnM.one hO).1) ?_
     replace hM := hM.set 1 (cs' := stc s v') rfl rfl
     generalize World.setRow _ _ _ = Y18 at *
     refine eF ?_
     have fin : PlainR s w (.returned (stv s v')) Y18 := ⟨v', rfl, OwnM.low hO4 hEs, hM.b⟩
     go_wp2_with fail
     exact bodyPost_ret (v := stv s v') (res_rst rfl _ rfl hM.a1) rfl fin
end Go.Proofs.YthhmdgmmeedhdaaGreat
namespace Go.Proofs.YthhmdgmmeedhdaaGreat
open Go.RowKit Go.Shelf
attribute [local irreducible] wpFrom
def aliveI : Trf := ⟨0, ⟨#[49, 50, 51, 52, 53, 54, 55, 56]⟩, 2, 0, 0, 0, ⟨#[120]⟩⟩
def aliveT : Tr := { fr := 0, no := 0, kd := 5, az := 0, a0 := 0, a1 := 0, a2 := 0, a3 := 0, iv := aliveI, vr := ⟨1, 0, 0, 0, 0⟩, f0 := 0, f1 := 0, f2 := 0, f3 := 0, sg := ⟨#[]⟩ }
theorem genP_eq (a b : Int) : genP a b = genE a b := by
 unfold genP genE
 have h1 : nearI a 1 = if a ≤ 0 then 0 else 1 := by unfold nearI; split <;> omega
 have h2 : nearI b 1099511627776 = if b < 0 then 0 else if 1099511627776 < b then 1099511627776 else b := by unfold nearI; split <;> (try split) <;> omega
 rw [h1, h2]
theorem aliveT_ok : OkT aliveT := ⟨⟨by decide, by decide, by decide, by decide⟩, ⟨by decide, by decide, by decide, by decide⟩, ⟨by decide, by decide, by decide, by decide⟩⟩
theorem aliveT_err : errT aliveT = 0 := by decide
theorem alive_open (o : Orc) : openE o (paidE (genP 0 5) aliveT) aliveT = (0, 32) := rfl
theorem alive_done (o : Orc) : doneE o (paidE (genP 0 5) aliveT) aliveT = (paidE (genP 0 5) aliveT, 32) := by
 unfold doneE
 rw [if_neg (by decide), if_pos (show aliveT.kd = 5 from rfl)]
 unfold fulE
 rw [alive_open, if_pos (by decide)]
theorem alive_apply (o : Orc) : applyE o (genP 0 5) aliveT = (paidE (genP 0 5) aliveT, 32, true) := by
 unfold applyE
 rw [if_neg (by rw [aliveT_err]; decide), if_neg (show ¬ aliveT.no ≠ (genP 0 5).no aliveT.fr.toNat from not_not_intro rfl), if_neg (fun e => e.elim (fun e => e (show 1 ≤ 1000 by decide)) (fun e => e (show 0 + 1 < M4 by decide))), alive_done, if_pos (by decide)]
theorem alive_of : ofB (paidE (genP 0 5) aliveT).pu 0 0 = 999 := by decide
theorem aliveR {w W' : World} {e : Ending} (h : ApplyR (applyP (genP 0 5) aliveT) w e W') : ∃ v', e = .returned (.tuple #[stv (paidE (genP 0 5) aliveT) v', .int .i64 32, .bool true]) ∧ v'.oneCell' = true ∧ Below w.heap.size w W' := by
 rw [apply_eq (by rw [genP_eq]; exact gen_ok 0 5), alive_apply] at h
 obtain ⟨v', h1, h2, h3⟩ := h
 exact ⟨v', h1, (OwnL.one h2).1, h3⟩
theorem ld_inv {W : World} {B : Nat} {T : TypeId} {i : Trf} (h : Blk W B T (ivc i)) : (Instr.loadAt 46 (.pointer (some ⟨B, 0, none⟩))).run Tryz.prog W = .ok (ivv i) W :=
 load_part h 0 (ivc i) rfl _ _ Tryz.underlying46 rfl (by kernel_rfl)
theorem sto_inv {W : World} {B : Nat} {T : TypeId} {j : Trf} (h : Blk W B T (ivc j)) (i : Trf) : (Instr.storeAt 46 (.pointer (some ⟨B, 0, none⟩)) (ivv i)).run Tryz.prog W = .ok () (W.setRow B (ivc i).toArray) :=
 sto_part _ h 0 _ _ (ivc i) rfl (by kernel_rfl) (by simp) rfl rfl
set_option maxRecDepth 100000 in
set_option maxHeartbeats 4000000 in
theorem alive12_any (w : World) :
  Calls Tryz.prog 8 #[] w fun e W' => e = .returned (.bool true) ∧ Below w.heap.size w W' := by
 have hmx : Tryz.prog.follows .mixedOrders = true := by kernel_rfl
 have hM := Mem.start w
 go_enter Tryz.func8, Tryz.ntmps8
 go_upto_region 1 with fail
 refine wp_region_fromM (fun W => Mem w none [] W) hM ?_
 clear hM
 rintro Y1 hM
 refine cF (some 6) _ _ ((genesis_any 0 5 _).mono ?_)
 rintro e W1 ⟨rfl, hb⟩
 replace hM := hM.below hb
 clear hb
 refine rF (some 1) (pt W1.heap.size 0) (W1.alloc (.cells (stc zS nilV).toArray 34)) ?_
 replace hM := hM.alloc 34 (stc zS nilV)
 generalize World.alloc _ _ = Y2 at *
 generalize hNe : W1.heap.size = A at *
 clear hNe
 refine sF 34 (pt A 0) (stv (genP 0 5) nilV) (sto_st hM.a0 (stc_len _ _) (genP 0 5) rfl) ?_
 replace hM := hM.set 0 (cs' := stc (genP 0 5) nilV) rfl rfl
 generalize World.setRow _ _ _ = Y3 at *
 refine eF ?_
 go_upto_region 2 with fail
 refine wp_region_fromM _ hM ?_
 clear hM
 rintro Y4 hM
 refine tF 1 [.v 0 7 (ivv aliveI)] trivial ?_
 refine rF (some 2) (pt Y4.heap.size 0) (Y4.alloc (.cells (ivc noI).toArray 46)) ?_
 replace hM := hM.alloc 46 (ivc noI)
 generalize World.alloc _ _ = Y5 at *
 generalize hNe : Y4.heap.size = I at *
 clear hNe
 refine sF 46 (pt I 0) (ivv aliveI) (sto_inv hM.a0 aliveI) ?_
 replace hM := hM.set 0 (cs' := ivc aliveI) rfl rfl
 generalize World.setRow _ _ _ = Y6 at *
 refine eF ?_
 go_upto_region 3 with fail
 refine wp_region_fromM _ hM ?_
 clear hM
 rintro Y7 hM
 refine tF 5 [.l 0 9 34 (pt A 0) (stv ((genP 0 5)) (nilV)), .l 1 10 46 (pt I 0) (ivv aliveI), .v 2 11 (.agg #[.int .u64 1, .int .u64 0, .int .u64 0, .int .u64 0]), .v 3 12 (svv aliveT.vr), .v 4 13 (txv aliveT)] ⟨ld_st hM.a1, ld_inv hM.a0, trivial⟩ ?_
 refine cF (some 14) 12 #[stv ((genP 0 5)) (nilV), txv aliveT] ((((esc_apply_any (genP 0 5) nilV (by rw [genP_eq]; exact gen_ok 0 5) aliveT aliveT_ok _ (RSl.nil 0 0 _) (Nat.zero_le _) (by decide)).mono fun _ _ h => aliveR h)).mono ?_)
 rintro e W1 ⟨v1, rfl, hv1, hb⟩
 replace hM := hM.below hb
 clear hb
 refine tF 10 [.v 6 8 (.tuple #[stv (paidE (genP 0 5) aliveT) v1, .int .i64 32, .bool true]), .v 7 15 (stv (paidE (genP 0 5) aliveT) v1), .v 8 16 (.int .i64 32), .v 9 17 (.bool true)] trivial ?_
 refine rF (some 3) (pt W1.heap.size 0) (W1.alloc (.cells (stc zS nilV).toArray 34)) ?_
 replace hM := hM.alloc 34 (stc zS nilV)
 generalize World.alloc _ _ = Y8 at *
 generalize hNe : W1.heap.size = C at *
 clear hNe
 refine sF 34 (pt C 0) (stv (paidE (genP 0 5) aliveT) v1) (sto_st hM.a0 (stc_len _ _) (paidE (genP 0 5) aliveT) hv1) ?_
 replace hM := hM.set 0 (cs' := stc (paidE (genP 0 5) aliveT) v1) rfl rfl
 generalize World.setRow _ _ _ = Y9 at *
 refine tF 14 [.v 12 4 (.int .i64 32), .v 13 5 (.bool true)] trivial ?_
 refine eF ?_
 go_upto_region 4 with fail
 refine wp_region_fromM _ hM ?_
 clear hM
 rintro Y10 hM
 refine tF 9 [.v 0 18 (.bool true), .v 1 19 (.bool true), .v 2 20 (.int .i64 32), .v 3 21 (.bool true), .v 4 22 (.bool true), .v 5 23 (.bool true), .v 6 24 (pt C 146), .l 7 25 27 (pt C 146) (wn (paidE (genP 0 5) aliveT).bu), .v 8 26 (wn 1)] ⟨ld_bu (s := (paidE (genP 0 5) aliveT)) hM.a0, trivial⟩ ?_
 refine eqA (.tmp 25) (.tmp 26) 27 (some 27) (ws (nw 1)).toArray (ws (nw 1)).toArray true (eq_wn 9998 1 _) ?_
 refine tF 20 [.v 10 28 (.bool true), .v 11 29 (.bool true), .v 12 30 (pt C 130), .x 13 31 31 (pt C 130) (.int .i64 0) (pt C (130 + 0)), .l 14 32 3 (pt C (130 + 0)) (.int .i64 ((paidE (genP 0 5) aliveT).no (0))), .a 15 33 (.bool ((paidE (genP 0 5) aliveT).no 0 == 1)) (.bool true), .v 16 34 (.bool true), .v 17 35 (.bool true), .v 18 36 (pt C 2), .l 19 37 30 (pt C 2) (bkv (paidE (genP 0 5) aliveT).pu)] ⟨idx_no (k := 0) (by decide), ld_no (s := (paidE (genP 0 5) aliveT)) hM.a0 (by omega), cB (by decide), ld_pu (s := (paidE (genP 0 5) aliveT)) hM.a0, trivial⟩ ?_
 refine cF (some 38) _ _ ((((ofBook_any (paidE (genP 0 5) aliveT).pu 0 0 _).mono fun _ _ h => by rw [alive_of] at h; exact h)).mono ?_)
 rintro e W1 ⟨rfl, hb⟩
 replace hM := hM.below hb
 clear hb
 refine tF 22 [.v 21 39 (wn 999)] trivial ?_
 refine eqA (.tmp 38) (.tmp 39) 27 (some 40) (ws (nw 999)).toArray (ws (nw 999)).toArray true (eq_wn 9998 999 _) ?_
 refine tF 25 [.v 23 41 (.bool true), .v 24 0 (.bool true)] trivial ?_
 refine eF ?_
 go_wp2_with fail
 go_ret
 exact ⟨rfl, hM.b⟩
end Go.Proofs.YthhmdgmmeedhdaaGreat
namespace Go.Proofs.YthhmdgmmeedhdaaGreat
open Go.RowKit Go.Shelf
def AppE (s s' : Es) (t : Tr) (c : Int) (b : Bool) : Prop := ∀ (w : World) (e : Ending) (W' : World), ApplyR (applyP s t) w e W' → ∃ v', e = .returned (.tuple #[stv s' v', .int .i64 c, .bool b]) ∧ OwnL w.heap.size W' v' s'.lk ∧ Below w.heap.size w W'
theorem app_any {s : Es} (hs : OkE s) (t : Tr) : ∃ (S : Es) (E : Int) (B : Bool), applyE orcB s t = (S, E, B) ∧ AppE s S t E B ∧ OkE S ∧ (∀ r, r < 2 → sumE S r = sumE s r) ∧ LkE s.lk S.lk :=
 ⟨_, _, _, rfl, fun w e W' h => by rw [apply_eq hs t] at h; exact h, (apply_ok hs).1, (apply_ok hs).2.1, (apply_ok hs).2.2.2.2⟩
def RLk (lo hi : Nat) (W : World) (v : Value) (l : List Lk) : Prop := RSl lkc lo hi W v l ∧ hi ≤ W.heap.size
section
variable {lo hi : Nat} {W W' : World} {v : Value} {l : List Lk}
theorem RLk.drew (h : RLk lo hi W v l) : RLk lo hi W.drew v l := h
theorem RLk.below (h : RLk lo hi W v l) (hb : Below W.heap.size W W') : RLk lo hi W' v l := ⟨h.1.below hb h.2, Nat.le_trans h.2 hb.size⟩
theorem RLk.alloc (h : RLk lo hi W v l) (c : Obj) : RLk lo hi (W.alloc c) v l := h.below ((Below.refl _ W).alloc (Nat.le_refl _) _)
theorem RLk.row (h : RLk lo hi W v l) {B : Nat} (hB : B < lo ∨ hi ≤ B) (cs : Array Value) : RLk lo hi (W.setRow B cs) v l :=
 ⟨h.1.kept h.2 (grownBy_row W B cs) (fun r hr => by obtain rfl := Option.some.inj hr; exact hB), Nat.le_trans h.2 (grownBy_row W B cs).size⟩
theorem RLk.one (h : RLk lo hi W v l) : v.oneCell' = true := h.1.one
end
theorem txc_25 (t : Tr) : (txc t).length = 25 := rfl
theorem ld_txS {W : World} {b o : Nat} {x : Tr} (hc : ∀ j u, (txc x)[j]? = some u → W.cell? ⟨b, o + j, none⟩ = some u) : (Instr.loadAt 50 (.pointer (some ⟨b, o, none⟩))).run Tryz.prog W = .ok (txv x) W := by
 have h := load_elem (f := fun t => txc t) (l := [x]) (k := 0) (x := x) (W := W) (b := b) (off := o) (show Row W b o (flatR (fun t => txc t) [x]) by rw [flat_one]; exact hc) txc_25 rfl 50 _ Tryz.underlying50 rfl (by kernel_rfl)
 rw [Nat.zero_mul, Nat.add_zero] at h
 exact h
end Go.Proofs.YthhmdgmmeedhdaaGreat
namespace Go.Proofs.YthhmdgmmeedhdaaGreat
open Go.RowKit Go.Shelf
abbrev qfp1 (s : Es) (t : Tr) : Es := { s with pu := (takeB s.pu t.fr t.iv.se (amV t)).1, he := updB s.he t.iv.se.toNat (s.he t.iv.se.toNat + amV t) }
abbrev qfp2 (s : Es) (t : Tr) : Es := { s with va := (takeB s.va t.fr t.iv.re (amV t)).1 }
abbrev qfp3 (s : Es) (t : Tr) : Es := { s with pu := (takeB s.pu t.fr t.iv.se (amV t)).1 }
theorem wrap_dbl {a : Int} (h : 0 ≤ a ∧ a ≤ 8) : IntKind.i64.wrap (2 * a) = 2 * a := IntWalk.i64_in _ (by omega)
theorem wrap_slot {a s : Int} (h : atS a s) : IntKind.i64.wrap (2 * a + s) = (slotS a s : Nat) := by
 have h' := h
 unfold atS at h'
 rw [IntWalk.i64_in _ (by omega)]
 unfold slotS
 omega
theorem place_ge {l : List Lk} {k : ByteArray} (h : (placeE l k).isSome = true) : placeI l k ≥ 0 := by
 cases hp : placeE l k with
 | none => rw [hp] at h; cases h
 | some i => rw [placeI_some hp]; omega
theorem place_lt {l : List Lk} {k : ByteArray} (h : ¬ (placeE l k).isSome = true) : ¬ placeI l k ≥ 0 := by
 cases hp : placeE l k with
 | none => rw [placeI_none hp]; omega
 | some i => rw [hp] at h; exact absurd rfl h
def RetE (p : Es × Int) (w : World) (e : Ending) (W' : World) : Prop := ∃ (s' : Es) (v' : Value), e = .returned (.tuple #[stv s' v', .int .i64 p.2]) ∧ v'.oneCell' = true ∧ (p.2 = 0 → stv s' v' = stv p.1 v' ∧ RSl lkc 0 W'.heap.size W' v' p.1.lk) ∧ Below w.heap.size w W'
theorem RetE.bad {p : Es × Int} {w W' : World} {s' : Es} {v' : Value} {c : Int} (hp : p.2 = c) (hc : c ≠ 0) (hv : v'.oneCell' = true) (hb : Below w.heap.size w W') : RetE p w (.returned (.tuple #[stv s' v', .int .i64 c])) W' :=
 ⟨s', v', by rw [hp], hv, fun h0 => absurd (hp.symm.trans h0) hc, hb⟩
theorem RetE.ok {p : Es × Int} {w W' : World} {s' s'' : Es} {v' : Value} (hp : p = (s'', 0)) (hs : stv s' v' = stv s'' v') (hv : v'.oneCell' = true) (hl : RSl lkc 0 W'.heap.size W' v' s''.lk) (hb : Below w.heap.size w W') : RetE p w (.returned (.tuple #[stv s' v', .int .i64 0])) W' := by
 subst hp
 exact ⟨s', v', rfl, hv, fun _ => ⟨hs, hl⟩, hb⟩
set_option maxRecDepth 100000 in
set_option maxHeartbeats 4000000 in
theorem refPrepare_esc (s : Es) (v : Value) (hs : OkE s) (t : Tr) (ht : OkT t) (hfr : 0 ≤ t.fr ∧ t.fr ≤ 7) (hF : errF t = 0) (w : World) {lo hi : Nat} (hl : RSl lkc lo hi w v s.lk) (hhi : hi ≤ w.heap.size) (hr : (s.lk.length + 1) * 40 ≤ 140737488355328) :
  Calls Tryz.prog 35 #[stv s v, txv t] w (RetE (prepE orcB s t) w) := by
 have hmx : Tryz.prog.follows .mixedOrders = true := by kernel_rfl
 have hv := hl.one
 have HL := Lib.hid hl
 obtain ⟨⟨_, _, _, hse, hre, _⟩, hmv, _⟩ := errF_all hF
 have hx := hmv.2
 have HT := Lib.hid (And.intro hs.t0 hs.t1)
 have HV := Lib.hid hx
 have a1 : atS t.fr t.iv.re := ⟨by omega, by omega⟩
 have a2 : atS t.fr t.iv.se := ⟨by omega, by omega⟩
 have hn : amV t < M4 := val_lt ht.v
 have HH := Lib.hid (okE_he hs hse.1 hse.2)
 clear hmv hx
 clear hl
 have hM := Mem.start w
 go_enter Tryz.func35, Tryz.ntmps35
 go_upto_region 0 with fail
 refine wp_region_fromM (fun W => Mem w none [] W) hM ?_
 clear hM
 rintro Y1 hM
 refine rF (some 2) (pt Y1.heap.size 0) (Y1.alloc (.cells (stc s v).toArray 39)) ?_
 replace hM := hM.alloc 39 (stc s v)
 generalize World.alloc _ _ = Y2 at *
 generalize hNe : Y1.heap.size = P at *
 clear hNe
 refine rF (some 3) (pt Y2.heap.size 0) (Y2.alloc (.cells (txc t).toArray 50)) ?_
 replace hM := hM.alloc 50 (txc t)
 generalize World.alloc _ _ = Y3 at *
 generalize hNe : Y2.heap.size = X at *
 clear hNe
 refine rF (some 4) (pt Y3.heap.size 0) (Y3.alloc (.cells (stc zS nilV).toArray 39)) ?_
 replace hM := hM.alloc 39 (stc zS nilV)
 generalize World.alloc _ _ = Y4 at *
 generalize hNe : Y3.heap.size = R at *
 clear hNe
 refine tF 4 [.v 3 5 (.int .i64 0)] trivial ?_
 refine eF ?_
 go_upto_region 1 with fail
 refine wp_region_fromM _ hM ?_
 clear hM
 rintro Y5 hM
 refine tF 2 [.v 0 8 (pt X 8), .l 1 9 46 (pt X 8) (ivv t.iv)] ⟨ld_iv hM.a1, trivial⟩ ?_
 refine cF (some 10) 23 #[ivv t.iv] ((refKey_any _ _).mono ?_)
 rintro e W1 ⟨rfl, hb⟩
 replace hM := hM.below hb
 clear hb
 refine tF 4 [.v 3 6 (.string (keyB t.iv))] trivial ?_
 refine eF ?_
 by_cases hq : (placeE s.lk (keyB t.iv)).isSome = true
 case pos =>
  have h1 := Lib.hid hq
  clear hq
  go_upto_region 2 with fail
  refine wp_region_fromM _ hM ?_
  clear hM
  rintro Y6 hM
  refine tF 3 [.v 0 11 (pt P 150), .l 1 12 37 (pt P 150) (v), .v 2 13 (.string (keyB t.iv))] ⟨rld_lk (s := s) hM.a2, trivial⟩ ?_
  refine cF (some 14) 50 #[v, .string (keyB t.iv)] ((refPlace_any s.lk v (keyB t.iv) _ (HL.out.below hM.b hhi)).mono ?_)
  rintro e W1 ⟨rfl, rfl⟩
  refine tF 5 [.a 4 15 (.bool (decide (placeI s.lk (keyB t.iv) ≥ 0))) (.bool true)] ⟨cB (decide_eq_true (place_ge h1.out)), trivial⟩ ?_
  refine eF ?_
  go_upto_region 3 with fail
  refine wp_region_fromM _ hM ?_
  clear hM
  rintro Y7 hM
  refine tF 1 [.l 0 16 39 (pt P 0) (stv (s) (v))] ⟨rld_st (s := s) hM.a2, trivial⟩ ?_
  refine sF _ _ _ (rsto_st hM.a0 (stc_len _ _) (s) hv) ?_
  replace hM := hM.set 0 (cs' := stc (s) v) rfl rfl
  generalize World.setRow _ _ _ = Y8 at *
  refine tF 3 [.v 2 5 (.int .i64 32)] trivial ?_
  refine eF ?_
  have fin : RetE (prepE orcB s t) w (.returned (.tuple #[stv (s) v, .int .i64 32])) Y8 := RetE.bad (by unfold prepE; rw [if_pos (show (placeE s.lk (orcB.ke t.iv)).isSome = true from h1.out)]) (by decide) hv hM.b
  go_wp2_with fail
  exact bodyPost_ret (v := .tuple #[stv (s) v, .int .i64 32]) (res_two rfl _ rfl rfl (rlv_st hM.a0)) rfl fin
 have h1 := Lib.hid hq
 clear hq
 go_upto_region 2 with fail
 refine wp_region_fromM _ hM ?_
 clear hM
 rintro Y9 hM
 refine tF 3 [.v 0 11 (pt P 150), .l 1 12 37 (pt P 150) (v), .v 2 13 (.string (keyB t.iv))] ⟨rld_lk (s := s) hM.a2, trivial⟩ ?_
 refine cF (some 14) 50 #[v, .string (keyB t.iv)] ((refPlace_any s.lk v (keyB t.iv) _ (HL.out.below hM.b hhi)).mono ?_)
 rintro e W1 ⟨rfl, rfl⟩
 refine tF 5 [.a 4 15 (.bool (decide (placeI s.lk (keyB t.iv) ≥ 0))) (.bool false)] ⟨cB (decide_eq_false (place_lt h1.out)), trivial⟩ ?_
 refine eF ?_
 by_cases hq : t.vr.x ≤ s.tm
 case pos =>
  have h2 := Lib.hid hq
  clear hq
  go_upto_region 4 with fail
  refine wp_region_fromM _ hM ?_
  clear hM
  rintro Y10 hM
  refine tF 15 [.v 0 17 (pt X 15), .v 1 18 (pt X 19), .l 2 19 3 (pt X 19) (.int .i64 t.vr.x), .v 3 20 (pt P 1), .l 4 21 3 (pt P 1) (.int .i64 s.tm), .a 5 22 (.bool (decide (t.vr.x ≤ s.tm))) (.bool true), .v 6 23 (.bool true), .skip 7 (some 24), .skip 8 (some 25), .skip 9 (some 26), .skip 10 (some 27), .skip 11 (some 28), .skip 12 (some 29), .skip 13 (some 30), .v 14 31 (.bool true)] ⟨ld_int hM.a1 19 rfl, ld_int hM.a2 1 rfl, cB (decide_eq_true h2.out), trivial⟩ ?_
  refine eF ?_
  go_upto_region 5 with fail
  refine wp_region_fromM _ hM ?_
  clear hM
  rintro Y11 hM
  refine tF 1 [.l 0 32 39 (pt P 0) (stv (s) (v))] ⟨rld_st (s := s) hM.a2, trivial⟩ ?_
  refine sF _ _ _ (rsto_st hM.a0 (stc_len _ _) (s) hv) ?_
  replace hM := hM.set 0 (cs' := stc (s) v) rfl rfl
  generalize World.setRow _ _ _ = Y12 at *
  refine tF 3 [.v 2 5 (.int .i64 34)] trivial ?_
  refine eF ?_
  have fin : RetE (prepE orcB s t) w (.returned (.tuple #[stv (s) v, .int .i64 34])) Y12 := RetE.bad (by unfold prepE; rw [if_neg (show ¬ (placeE s.lk (orcB.ke t.iv)).isSome = true from h1.out), if_pos (.inl h2.out)]) (by decide) hv hM.b
  go_wp2_with fail
  exact bodyPost_ret (v := .tuple #[stv (s) v, .int .i64 34]) (res_two rfl _ rfl rfl (rlv_st hM.a0)) rfl fin
 by_cases hq2 : s.tm + 1024 < t.vr.x
 case pos =>
  have h3 := Lib.hid hq2
  clear hq2
  have h2 := Lib.hid hq
  clear hq
  go_upto_region 4 with fail
  refine wp_region_fromM _ hM ?_
  clear hM
  rintro Y13 hM
  refine tF 15 [.v 0 17 (pt X 15), .v 1 18 (pt X 19), .l 2 19 3 (pt X 19) (.int .i64 t.vr.x), .v 3 20 (pt P 1), .l 4 21 3 (pt P 1) (.int .i64 s.tm), .a 5 22 (.bool (decide (t.vr.x ≤ s.tm))) (.bool false), .v 6 23 (.bool false), .v 7 24 (pt X 15), .v 8 25 (pt X 19), .l 9 26 3 (pt X 19) (.int .i64 t.vr.x), .v 10 27 (pt P 1), .l 11 28 3 (pt P 1) (.int .i64 s.tm), .a 12 29 (.int .i64 (IntKind.i64.wrap (t.vr.x - s.tm))) (.int .i64 (t.vr.x - s.tm)), .a 13 30 (.bool (decide (t.vr.x - s.tm > 1024))) (.bool true), .v 14 31 (.bool true)] ⟨ld_int hM.a1 19 rfl, ld_int hM.a2 1 rfl, cB (decide_eq_false h2.out), ld_int hM.a1 19 rfl, ld_int hM.a2 1 rfl, cI (IntWalk.i64_in _ (by have := HT.out; have := HV.out; omega)), cB (decide_eq_true (show (t.vr.x - s.tm > 1024) by have := h3.out; omega)), trivial⟩ ?_
  refine eF ?_
  go_upto_region 5 with fail
  refine wp_region_fromM _ hM ?_
  clear hM
  rintro Y14 hM
  refine tF 1 [.l 0 32 39 (pt P 0) (stv (s) (v))] ⟨rld_st (s := s) hM.a2, trivial⟩ ?_
  refine sF _ _ _ (rsto_st hM.a0 (stc_len _ _) (s) hv) ?_
  replace hM := hM.set 0 (cs' := stc (s) v) rfl rfl
  generalize World.setRow _ _ _ = Y15 at *
  refine tF 3 [.v 2 5 (.int .i64 34)] trivial ?_
  refine eF ?_
  have fin : RetE (prepE orcB s t) w (.returned (.tuple #[stv (s) v, .int .i64 34])) Y15 := RetE.bad (by unfold prepE; rw [if_neg (show ¬ (placeE s.lk (orcB.ke t.iv)).isSome = true from h1.out), if_pos (.inr h3.out)]) (by decide) hv hM.b
  go_wp2_with fail
  exact bodyPost_ret (v := .tuple #[stv (s) v, .int .i64 34]) (res_two rfl _ rfl rfl (rlv_st hM.a0)) rfl fin
 have h3 := Lib.hid hq2
 clear hq2
 have h2 := Lib.hid hq
 clear hq
 go_upto_region 4 with fail
 refine wp_region_fromM _ hM ?_
 clear hM
 rintro Y16 hM
 refine tF 15 [.v 0 17 (pt X 15), .v 1 18 (pt X 19), .l 2 19 3 (pt X 19) (.int .i64 t.vr.x), .v 3 20 (pt P 1), .l 4 21 3 (pt P 1) (.int .i64 s.tm), .a 5 22 (.bool (decide (t.vr.x ≤ s.tm))) (.bool false), .v 6 23 (.bool false), .v 7 24 (pt X 15), .v 8 25 (pt X 19), .l 9 26 3 (pt X 19) (.int .i64 t.vr.x), .v 10 27 (pt P 1), .l 11 28 3 (pt P 1) (.int .i64 s.tm), .a 12 29 (.int .i64 (IntKind.i64.wrap (t.vr.x - s.tm))) (.int .i64 (t.vr.x - s.tm)), .a 13 30 (.bool (decide (t.vr.x - s.tm > 1024))) (.bool false), .v 14 31 (.bool false)] ⟨ld_int hM.a1 19 rfl, ld_int hM.a2 1 rfl, cB (decide_eq_false h2.out), ld_int hM.a1 19 rfl, ld_int hM.a2 1 rfl, cI (IntWalk.i64_in _ (by have := HT.out; have := HV.out; omega)), cB (decide_eq_false (show ¬ (t.vr.x - s.tm > 1024) by have := h3.out; omega)), trivial⟩ ?_
 refine eF ?_
 go_upto_region 6 with fail
 refine wp_region_fromM _ hM ?_
 clear hM
 rintro Y17 hM
 refine tF 1 [.v 0 7 (.bool false)] trivial ?_
 refine eF ?_
 by_cases hq : s.sd = 1
 case pos =>
  have h4 := Lib.hid hq
  clear hq
  go_upto_region 7 with fail
  refine wp_region_fromM _ hM ?_
  clear hM
  rintro Y18 hM
  refine tF 3 [.v 0 33 (pt P 0), .l 1 34 3 (pt P 0) (.int .i64 s.sd), .a 2 35 (.bool (s.sd == 1)) (.bool true)] ⟨ld_int hM.a2 0 rfl, cB (beq_iff_eq.2 h4.out), trivial⟩ ?_
  refine eF ?_
  by_cases hq : t.fr = t.iv.ro
  case pos =>
   have h5 := Lib.hid hq
   clear hq
   go_upto_region 8 with fail
   refine wp_region_fromM _ hM ?_
   clear hM
   rintro Y19 hM
   refine tF 6 [.v 0 36 (pt X 0), .l 1 37 3 (pt X 0) (.int .i64 t.fr), .v 2 38 (pt X 8), .v 3 39 (pt X 10), .l 4 40 3 (pt X 10) (.int .i64 t.iv.ro), .a 5 41 (.bool (t.fr != t.iv.ro)) (.bool false)] ⟨ld_int hM.a1 0 rfl, ld_int hM.a1 10 rfl, cB (by rw [h5.out]; exact bne_self_eq_false _), trivial⟩ ?_
   refine eF ?_
   go_upto_region 10 with fail
   refine wp_region_fromM _ hM ?_
   clear hM
   rintro Y20 hM
   refine tF 12 [.v 0 44 (pt P 66), .l 1 45 36 (pt P 66) (bkv s.va), .v 2 46 (pt X 0), .l 3 47 3 (pt X 0) (.int .i64 t.fr), .a 4 48 (.int .i64 (IntKind.i64.wrap (2 * t.fr))) (.int .i64 (2 * t.fr)), .v 5 49 (pt X 8), .v 6 50 (pt X 12), .l 7 51 3 (pt X 12) (.int .i64 t.iv.re), .a 8 52 (.int .i64 (IntKind.i64.wrap (2 * t.fr + t.iv.re))) (.int .i64 (slotS t.fr t.iv.re : Nat)), .v 9 53 (pt X 15), .v 10 54 (pt X 15), .l 11 55 27 (pt X 15) (wn (amV t))] ⟨rld_va (s := s) hM.a2, ld_int hM.a1 0 rfl, cI (wrap_dbl (by omega)), ld_int hM.a1 12 rfl, cI (wrap_slot a1), ld_av hM.a1 ht, trivial⟩ ?_
   refine cF (some 56) _ _ ((refLess_any s.va hs.v a1 hn _).mono ?_)
   rintro e W1 ⟨rfl, hb⟩
   replace hM := hM.below hb
   clear hb
   refine tF 17 [.v 13 43 (.tuple #[bkv (takeB s.va t.fr t.iv.re (amV t)).1, .bool (decide ((takeB s.va t.fr t.iv.re (amV t)).2 = 0))]), .v 14 57 (bkv (takeB s.va t.fr t.iv.re (amV t)).1), .v 15 58 (.bool (decide ((takeB s.va t.fr t.iv.re (amV t)).2 = 0))), .v 16 59 (pt P 66)] trivial ?_
   refine sF _ _ _ (rsto_va (s := s) hM.a2 (takeB s.va t.fr t.iv.re (amV t)).1) ?_
   replace hM := hM.set 2 (cs' := stc (qfp2 s t) v) rfl rfl
   generalize World.setRow _ _ _ = Y21 at *
   refine tF 19 [.v 18 7 (.bool (decide ((takeB s.va t.fr t.iv.re (amV t)).2 = 0)))] trivial ?_
   refine eF ?_
   by_cases hq : (takeB s.va t.fr t.iv.re (amV t)).2 = 0
   case pos =>
    have h6 := Lib.hid hq
    clear hq
    go_upto_region 11 with fail
    refine wp_region_fromM _ hM ?_
    clear hM
    rintro Y22 hM
    refine tF 2 [.a 0 60 (.bool (decide ((takeB s.va t.fr t.iv.re (amV t)).2 = 0))) (.bool true), .v 1 61 (.bool false)] ⟨cB (decide_eq_true h6.out), trivial⟩ ?_
    refine eF ?_
    go_upto_region 21 with fail
    refine wp_region_M (fun W => Blk W X 50 (txc t)) (fun W => Mem w none [(R, 39, stc zS nilV), (X, 50, txc t), (P, 39, stc (qfp2 s t) v)] W) hmx hM.drew ?_
    clear hM
    rintro Y23 hM
    have hS := hM.at 1 rfl
    refine tD 9 [.v 1 105 (pt P 150), .v 4 108 (.string (keyB t.iv)), .v 5 109 (pt X 8), .l 6 110 46 (pt X 8) (ivv t.iv), .v 7 111 (pt X 15), .l 8 112 48 (pt X 15) (svv t.vr)] ⟨fun W h => ld_iv h, fun W h => ld_vr h, trivial⟩ hS ?_
    refine oT 0 2 8 ?_ ?_
    ·
     obtain ⟨v1, W1, hrun, hO, hb⟩ := rapp_all HL.out hhi (by omega) Y23 hM.b
     have hM0 := hM
     have hRY := hM.a0.lt
     have hPY := hM.a2.lt
     have hXY := hM.a1.lt
     have hYw := hM.size
     refine rD (some 104) (.slice (some ⟨Y23.heap.size, 0, none⟩) 0 0) (Y23.alloc (.cells #[] 71)) (hS.alloc _) ?_
     replace hS := hS.alloc (.cells #[] 71)
     replace hM := hM.other (.cells #[] 71)
     refine oD 2 7 (lD (some 106) 37 (pt P 150) (v) (rld_lk (s := (qfp2 s t)) hM.a2) (hS) ?_)
     have hS1 : Blk W1 X 50 (txc t) := (hM0.at 1 rfl).below hb (hM0.at 1 rfl).lt
     replace hM := hM0.below hb
     have hYb := hb.size
     clear hM0
     have hk1 : ∀ k, v1.ownBlock = some k → Y23.heap.size ≤ k ∧ k < W1.heap.size := fun k hk => World.ownsRow.lt hO k hk
     refine oD 3 6 (stepH_append (d := some 107) (t := 37) (t' := 37) (ty := 37) (v := .slice (some ⟨Y23.heap.size, 0, none⟩) 0 0) (x := v) (by kernel_rfl) hrun hS1 ?_)
     replace hS := hS1
     clear hS1 hrun hb
     refine oD 9 5 (cD (some 113) 71 #[ivv t.iv, svv t.vr] ((refDigest_any _ _ ht.v _).mono ?_))
     rintro e W2 ⟨rfl, hb⟩
     refine And.intro (hS.below hb hS.lt) ?_
     replace hS := hS.below hb hS.lt
     replace hM := hM.below hb
     replace hO := OwnM.below hO hb
     have hk2 : ∀ k, v1.ownBlock = some k → Y23.heap.size ≤ k ∧ k < W2.heap.size := fun k hk => ⟨(hk1 k hk).1, Nat.lt_of_lt_of_le (hk1 k hk).2 hb.size⟩
     have hYc := Nat.le_trans hYb hb.size
     clear hk1 hb hYb
     refine tD 4 [.v 10 114 (lkv ⟨keyB t.iv, digB t.iv t.vr, 1⟩)] trivial hS ?_
     refine oD 11 3 (rD (some 115) (.slice (some ⟨W2.heap.size, 0, none⟩) 1 1) (W2.alloc (.cells (lkc ⟨keyB t.iv, digB t.iv t.vr, 1⟩).toArray 71)) (hS.alloc _) ?_)
     replace hS := hS.alloc (.cells (lkc ⟨keyB t.iv, digB t.iv t.vr, 1⟩).toArray 71)
     replace hM := hM.alloc 71 (lkc ⟨keyB t.iv, digB t.iv t.vr, 1⟩)
     replace hO := hO.alloc (.cells (lkc ⟨keyB t.iv, digB t.iv t.vr, 1⟩).toArray 71)
     generalize World.alloc _ _ = Y24 at *
     generalize hNe : W2.heap.size = N at *
     clear hNe
     obtain ⟨v2, W3, hrun2, hO2, hg2⟩ := rown_append hO (Nat.le_trans hYc (Nat.le_of_lt hM.a0.lt)) ⟨keyB t.iv, digB t.iv t.vr, 1⟩ hM.a0 hr 37
     have hM3 := hM.own hg2 (fun k hk => ⟨by have := hk2 k hk; omega, fun x hx => by
      have := hk2 k hk
      simp only [List.mem_cons, List.not_mem_nil, or_false] at hx
      rcases hx with rfl | rfl | rfl | rfl <;> (dsimp only; omega)⟩)
     refine oD 12 2 (stepH_append (d := some 116) (t := 37) (t' := 37) (ty := 37) (v := v1) (x := .slice (some ⟨N, 0, none⟩) 1 1) (by kernel_rfl) hrun2 (hM3.at 2 rfl) ?_)
     replace hS := hM3.at 2 rfl
     replace hM := hM3
     clear hM3 hrun2 hg2 hO hk2
     refine tD 1 [.v 13 117 (pt P 150)] trivial hS ?_
     have hPl := hM.a3.lt
     have hM1 := hM.set 3 (cs' := stc (qfp2 s t) v2) rfl rfl
     have hO3 := OwnM.row hO2 (B := P) (fun k hk e => by have := (World.ownsRow.lt hO2 k hk).1; omega) (stc (qfp2 s t) v2).toArray
     refine oD 14 0 (sD _ _ _ (rsto_lk (s := (qfp2 s t)) hM.a3 (OwnM.one hO2).1 (OwnM.one hO2).2) (hM1.at 2 rfl) ?_)
     replace hS := hM1.at 2 rfl
     replace hM := hM1
     clear hM1 hO2
     generalize W3.setRow P _ = W4 at *
     refine eD ?_
     clear hS
     go_upto_region 22 with fail
     refine wp_region_fromM (fun W => Mem w none [(N, 71, lkc ⟨keyB t.iv, digB t.iv t.vr, 1⟩), (R, 39, stc zS nilV), (X, 50, txc t), (P, 39, stc (qfp2 s t) v2)] W ∧ OwnM Y23.heap.size W v2 (s.lk ++ [⟨keyB t.iv, digB t.iv t.vr, 1⟩])) ⟨hM, hO3⟩ ?_
     clear hM hO3
     rintro Y25 ⟨hM, hO3⟩
     refine tF 1 [.l 0 118 39 (pt P 0) (stv (qfp2 s t) (v2))] ⟨rld_st (s := (qfp2 s t)) hM.a3, trivial⟩ ?_
     have hO4 := OwnM.row hO3 (B := R) (fun k hk e => by have := (World.ownsRow.lt hO3 k hk).1; omega) (stc (qfp2 s t) v2).toArray
     refine sF _ _ _ (rsto_st hM.a1 (stc_len _ _) (qfp2 s t) (OwnM.one hO3).1) ?_
     replace hM := hM.set 1 (cs' := stc (qfp2 s t) v2) rfl rfl
     generalize World.setRow _ _ _ = Y26 at *
     refine tF 3 [.v 2 5 (.int .i64 0)] trivial ?_
     refine eF ?_
     have fin : RetE (prepE orcB s t) w (.returned (.tuple #[stv (qfp2 s t) v2, .int .i64 0])) Y26 := (RetE.ok (s'' := { s with va := (takeB s.va t.fr t.iv.re (amV t)).1, lk := s.lk ++ [⟨keyB t.iv, digB t.iv t.vr, 1⟩] }) (by unfold prepE; rw [if_neg (show ¬ (placeE s.lk (orcB.ke t.iv)).isSome = true from h1.out), if_neg (show ¬ (t.vr.x ≤ s.tm ∨ s.tm + 1024 < t.vr.x) from fun e => e.elim h2.out h3.out), if_pos h4.out, if_neg (not_not_intro h5.out), if_neg (not_not_intro h6.out)]; rfl) rfl (OwnM.one hO4).1 ((OwnM.rsl hO4).mono (Nat.zero_le _) (Nat.le_refl _)) hM.b)
     go_wp2_with fail
     exact bodyPost_ret (v := .tuple #[stv (qfp2 s t) v2, .int .i64 0]) (res_two rfl _ rfl rfl (rlv_st hM.a1)) rfl fin
    ·
     refine lD (some 106) 37 (pt P 150) (v) (rld_lk (s := (qfp2 s t)) hM.a2) (hS) ?_
     obtain ⟨v1, W1, hrun, hO, hb⟩ := rapp_all HL.out hhi (by omega) Y23 hM.b
     have hM0 := hM
     have hRY := hM.a0.lt
     have hPY := hM.a2.lt
     have hXY := hM.a1.lt
     have hYw := hM.size
     refine oD 0 7 (rD (some 104) (.slice (some ⟨Y23.heap.size, 0, none⟩) 0 0) (Y23.alloc (.cells #[] 71)) (hS.alloc _) ?_)
     replace hS := hS.alloc (.cells #[] 71)
     replace hM := hM.other (.cells #[] 71)
     have hS1 : Blk W1 X 50 (txc t) := (hM0.at 1 rfl).below hb (hM0.at 1 rfl).lt
     replace hM := hM0.below hb
     have hYb := hb.size
     clear hM0
     have hk1 : ∀ k, v1.ownBlock = some k → Y23.heap.size ≤ k ∧ k < W1.heap.size := fun k hk => World.ownsRow.lt hO k hk
     refine oD 3 6 (stepH_append (d := some 107) (t := 37) (t' := 37) (ty := 37) (v := .slice (some ⟨Y23.heap.size, 0, none⟩) 0 0) (x := v) (by kernel_rfl) hrun hS1 ?_)
     replace hS := hS1
     clear hS1 hrun hb
     refine oD 9 5 (cD (some 113) 71 #[ivv t.iv, svv t.vr] ((refDigest_any _ _ ht.v _).mono ?_))
     rintro e W2 ⟨rfl, hb⟩
     refine And.intro (hS.below hb hS.lt) ?_
     replace hS := hS.below hb hS.lt
     replace hM := hM.below hb
     replace hO := OwnM.below hO hb
     have hk2 : ∀ k, v1.ownBlock = some k → Y23.heap.size ≤ k ∧ k < W2.heap.size := fun k hk => ⟨(hk1 k hk).1, Nat.lt_of_lt_of_le (hk1 k hk).2 hb.size⟩
     have hYc := Nat.le_trans hYb hb.size
     clear hk1 hb hYb
     refine tD 4 [.v 10 114 (lkv ⟨keyB t.iv, digB t.iv t.vr, 1⟩)] trivial hS ?_
     refine oD 11 3 (rD (some 115) (.slice (some ⟨W2.heap.size, 0, none⟩) 1 1) (W2.alloc (.cells (lkc ⟨keyB t.iv, digB t.iv t.vr, 1⟩).toArray 71)) (hS.alloc _) ?_)
     replace hS := hS.alloc (.cells (lkc ⟨keyB t.iv, digB t.iv t.vr, 1⟩).toArray 71)
     replace hM := hM.alloc 71 (lkc ⟨keyB t.iv, digB t.iv t.vr, 1⟩)
     replace hO := hO.alloc (.cells (lkc ⟨keyB t.iv, digB t.iv t.vr, 1⟩).toArray 71)
     generalize World.alloc _ _ = Y27 at *
     generalize hNe : W2.heap.size = N at *
     clear hNe
     obtain ⟨v2, W3, hrun2, hO2, hg2⟩ := rown_append hO (Nat.le_trans hYc (Nat.le_of_lt hM.a0.lt)) ⟨keyB t.iv, digB t.iv t.vr, 1⟩ hM.a0 hr 37
     have hM3 := hM.own hg2 (fun k hk => ⟨by have := hk2 k hk; omega, fun x hx => by
      have := hk2 k hk
      simp only [List.mem_cons, List.not_mem_nil, or_false] at hx
      rcases hx with rfl | rfl | rfl | rfl <;> (dsimp only; omega)⟩)
     refine oD 12 2 (stepH_append (d := some 116) (t := 37) (t' := 37) (ty := 37) (v := v1) (x := .slice (some ⟨N, 0, none⟩) 1 1) (by kernel_rfl) hrun2 (hM3.at 2 rfl) ?_)
     replace hS := hM3.at 2 rfl
     replace hM := hM3
     clear hM3 hrun2 hg2 hO hk2
     refine tD 1 [.v 13 117 (pt P 150)] trivial hS ?_
     have hPl := hM.a3.lt
     have hM1 := hM.set 3 (cs' := stc (qfp2 s t) v2) rfl rfl
     have hO3 := OwnM.row hO2 (B := P) (fun k hk e => by have := (World.ownsRow.lt hO2 k hk).1; omega) (stc (qfp2 s t) v2).toArray
     refine oD 14 0 (sD _ _ _ (rsto_lk (s := (qfp2 s t)) hM.a3 (OwnM.one hO2).1 (OwnM.one hO2).2) (hM1.at 2 rfl) ?_)
     replace hS := hM1.at 2 rfl
     replace hM := hM1
     clear hM1 hO2
     generalize W3.setRow P _ = W4 at *
     refine eD ?_
     clear hS
     go_upto_region 22 with fail
     refine wp_region_fromM (fun W => Mem w none [(N, 71, lkc ⟨keyB t.iv, digB t.iv t.vr, 1⟩), (R, 39, stc zS nilV), (X, 50, txc t), (P, 39, stc (qfp2 s t) v2)] W ∧ OwnM Y23.heap.size W v2 (s.lk ++ [⟨keyB t.iv, digB t.iv t.vr, 1⟩])) ⟨hM, hO3⟩ ?_
     clear hM hO3
     rintro Y28 ⟨hM, hO3⟩
     refine tF 1 [.l 0 118 39 (pt P 0) (stv (qfp2 s t) (v2))] ⟨rld_st (s := (qfp2 s t)) hM.a3, trivial⟩ ?_
     have hO4 := OwnM.row hO3 (B := R) (fun k hk e => by have := (World.ownsRow.lt hO3 k hk).1; omega) (stc (qfp2 s t) v2).toArray
     refine sF _ _ _ (rsto_st hM.a1 (stc_len _ _) (qfp2 s t) (OwnM.one hO3).1) ?_
     replace hM := hM.set 1 (cs' := stc (qfp2 s t) v2) rfl rfl
     generalize World.setRow _ _ _ = Y29 at *
     refine tF 3 [.v 2 5 (.int .i64 0)] trivial ?_
     refine eF ?_
     have fin : RetE (prepE orcB s t) w (.returned (.tuple #[stv (qfp2 s t) v2, .int .i64 0])) Y29 := (RetE.ok (s'' := { s with va := (takeB s.va t.fr t.iv.re (amV t)).1, lk := s.lk ++ [⟨keyB t.iv, digB t.iv t.vr, 1⟩] }) (by unfold prepE; rw [if_neg (show ¬ (placeE s.lk (orcB.ke t.iv)).isSome = true from h1.out), if_neg (show ¬ (t.vr.x ≤ s.tm ∨ s.tm + 1024 < t.vr.x) from fun e => e.elim h2.out h3.out), if_pos h4.out, if_neg (not_not_intro h5.out), if_neg (not_not_intro h6.out)]; rfl) rfl (OwnM.one hO4).1 ((OwnM.rsl hO4).mono (Nat.zero_le _) (Nat.le_refl _)) hM.b)
     go_wp2_with fail
     exact bodyPost_ret (v := .tuple #[stv (qfp2 s t) v2, .int .i64 0]) (res_two rfl _ rfl rfl (rlv_st hM.a1)) rfl fin
   have h6 := Lib.hid hq
   clear hq
   go_upto_region 11 with fail
   refine wp_region_fromM _ hM ?_
   clear hM
   rintro Y30 hM
   refine tF 2 [.a 0 60 (.bool (decide ((takeB s.va t.fr t.iv.re (amV t)).2 = 0))) (.bool false), .v 1 61 (.bool true)] ⟨cB (decide_eq_false h6.out), trivial⟩ ?_
   refine eF ?_
   go_upto_region 12 with fail
   refine wp_region_fromM _ hM ?_
   clear hM
   rintro Y31 hM
   refine tF 1 [.l 0 62 39 (pt P 0) (stv (qfp2 s t) (v))] ⟨rld_st (s := (qfp2 s t)) hM.a2, trivial⟩ ?_
   refine sF _ _ _ (rsto_st hM.a0 (stc_len _ _) (qfp2 s t) hv) ?_
   replace hM := hM.set 0 (cs' := stc (qfp2 s t) v) rfl rfl
   generalize World.setRow _ _ _ = Y32 at *
   refine tF 3 [.v 2 5 (.int .i64 31)] trivial ?_
   refine eF ?_
   have fin : RetE (prepE orcB s t) w (.returned (.tuple #[stv (qfp2 s t) v, .int .i64 31])) Y32 := RetE.bad (by unfold prepE; rw [if_neg (show ¬ (placeE s.lk (orcB.ke t.iv)).isSome = true from h1.out), if_neg (show ¬ (t.vr.x ≤ s.tm ∨ s.tm + 1024 < t.vr.x) from fun e => e.elim h2.out h3.out), if_pos h4.out, if_neg (not_not_intro h5.out), if_pos h6.out]) (by decide) hv hM.b
   go_wp2_with fail
   exact bodyPost_ret (v := .tuple #[stv (qfp2 s t) v, .int .i64 31]) (res_two rfl _ rfl rfl (rlv_st hM.a0)) rfl fin
  have h5 := Lib.hid hq
  clear hq
  go_upto_region 8 with fail
  refine wp_region_fromM _ hM ?_
  clear hM
  rintro Y33 hM
  refine tF 6 [.v 0 36 (pt X 0), .l 1 37 3 (pt X 0) (.int .i64 t.fr), .v 2 38 (pt X 8), .v 3 39 (pt X 10), .l 4 40 3 (pt X 10) (.int .i64 t.iv.ro), .a 5 41 (.bool (t.fr != t.iv.ro)) (.bool true)] ⟨ld_int hM.a1 0 rfl, ld_int hM.a1 10 rfl, cB (bne_iff_ne.2 h5.out), trivial⟩ ?_
  refine eF ?_
  go_upto_region 9 with fail
  refine wp_region_fromM _ hM ?_
  clear hM
  rintro Y34 hM
  refine tF 1 [.l 0 42 39 (pt P 0) (stv (s) (v))] ⟨rld_st (s := s) hM.a2, trivial⟩ ?_
  refine sF _ _ _ (rsto_st hM.a0 (stc_len _ _) (s) hv) ?_
  replace hM := hM.set 0 (cs' := stc (s) v) rfl rfl
  generalize World.setRow _ _ _ = Y35 at *
  refine tF 3 [.v 2 5 (.int .i64 37)] trivial ?_
  refine eF ?_
  have fin : RetE (prepE orcB s t) w (.returned (.tuple #[stv (s) v, .int .i64 37])) Y35 := RetE.bad (by unfold prepE; rw [if_neg (show ¬ (placeE s.lk (orcB.ke t.iv)).isSome = true from h1.out), if_neg (show ¬ (t.vr.x ≤ s.tm ∨ s.tm + 1024 < t.vr.x) from fun e => e.elim h2.out h3.out), if_pos h4.out, if_pos h5.out]) (by decide) hv hM.b
  go_wp2_with fail
  exact bodyPost_ret (v := .tuple #[stv (s) v, .int .i64 37]) (res_two rfl _ rfl rfl (rlv_st hM.a0)) rfl fin
 have h4 := Lib.hid hq
 clear hq
 go_upto_region 7 with fail
 refine wp_region_fromM _ hM ?_
 clear hM
 rintro Y36 hM
 refine tF 3 [.v 0 33 (pt P 0), .l 1 34 3 (pt P 0) (.int .i64 s.sd), .a 2 35 (.bool (s.sd == 1)) (.bool false)] ⟨ld_int hM.a2 0 rfl, cB (beq_eq_false_iff_ne.2 h4.out), trivial⟩ ?_
 refine eF ?_
 by_cases hq : t.fr = t.iv.us
 case pos =>
  have h5 := Lib.hid hq
  clear hq
  go_upto_region 13 with fail
  refine wp_region_fromM _ hM ?_
  clear hM
  rintro Y37 hM
  refine tF 6 [.v 0 63 (pt X 0), .l 1 64 3 (pt X 0) (.int .i64 t.fr), .v 2 65 (pt X 8), .v 3 66 (pt X 8), .l 4 67 3 (pt X 8) (.int .i64 t.iv.us), .a 5 68 (.bool (t.fr != t.iv.us)) (.bool false)] ⟨ld_int hM.a1 0 rfl, ld_int hM.a1 8 rfl, cB (by rw [h5.out]; exact bne_self_eq_false _), trivial⟩ ?_
  refine eF ?_
  go_upto_region 15 with fail
  refine wp_region_fromM _ hM ?_
  clear hM
  rintro Y38 hM
  refine tF 12 [.v 0 71 (pt P 2), .l 1 72 36 (pt P 2) (bkv s.pu), .v 2 73 (pt X 0), .l 3 74 3 (pt X 0) (.int .i64 t.fr), .a 4 75 (.int .i64 (IntKind.i64.wrap (2 * t.fr))) (.int .i64 (2 * t.fr)), .v 5 76 (pt X 8), .v 6 77 (pt X 11), .l 7 78 3 (pt X 11) (.int .i64 t.iv.se), .a 8 79 (.int .i64 (IntKind.i64.wrap (2 * t.fr + t.iv.se))) (.int .i64 (slotS t.fr t.iv.se : Nat)), .v 9 80 (pt X 15), .v 10 81 (pt X 15), .l 11 82 27 (pt X 15) (wn (amV t))] ⟨rld_pu (s := s) hM.a2, ld_int hM.a1 0 rfl, cI (wrap_dbl (by omega)), ld_int hM.a1 11 rfl, cI (wrap_slot a2), ld_av hM.a1 ht, trivial⟩ ?_
  refine cF (some 83) _ _ ((refLess_any s.pu hs.p a2 hn _).mono ?_)
  rintro e W1 ⟨rfl, hb⟩
  replace hM := hM.below hb
  clear hb
  refine tF 17 [.v 13 70 (.tuple #[bkv (takeB s.pu t.fr t.iv.se (amV t)).1, .bool (decide ((takeB s.pu t.fr t.iv.se (amV t)).2 = 0))]), .v 14 84 (bkv (takeB s.pu t.fr t.iv.se (amV t)).1), .v 15 85 (.bool (decide ((takeB s.pu t.fr t.iv.se (amV t)).2 = 0))), .v 16 86 (pt P 2)] trivial ?_
  refine sF _ _ _ (rsto_pu (s := s) hM.a2 (takeB s.pu t.fr t.iv.se (amV t)).1) ?_
  replace hM := hM.set 2 (cs' := stc (qfp3 s t) v) rfl rfl
  generalize World.setRow _ _ _ = Y39 at *
  refine tF 19 [.v 18 7 (.bool (decide ((takeB s.pu t.fr t.iv.se (amV t)).2 = 0)))] trivial ?_
  refine eF ?_
  by_cases hq : (takeB s.pu t.fr t.iv.se (amV t)).2 = 0
  case pos =>
   have h6 := Lib.hid hq
   clear hq
   go_upto_region 16 with fail
   refine wp_region_fromM _ hM ?_
   clear hM
   rintro Y40 hM
   refine tF 2 [.a 0 87 (.bool (decide ((takeB s.pu t.fr t.iv.se (amV t)).2 = 0))) (.bool true), .v 1 88 (.bool false)] ⟨cB (decide_eq_true h6.out), trivial⟩ ?_
   refine eF ?_
   go_upto_region 18 with fail
   refine wp_region_fromM _ hM ?_
   clear hM
   rintro Y41 hM
   refine tF 7 [.l 0 91 39 (pt P 0) (stv (qfp3 s t) (v)), .v 1 92 (pt X 8), .v 2 93 (pt X 11), .l 3 94 3 (pt X 11) (.int .i64 t.iv.se), .v 4 95 (pt X 15), .v 5 96 (pt X 15), .l 6 97 27 (pt X 15) (wn (amV t))] ⟨rld_st (s := (qfp3 s t)) hM.a2, ld_int hM.a1 11 rfl, ld_av hM.a1 ht, trivial⟩ ?_
   refine cF (some 98) _ _ ((refHeldUp_any (qfp3 s t) v hse HH.out hn hv _).mono ?_)
   rintro e W1 ⟨rfl, hb⟩
   replace hM := hM.below hb
   clear hb
   refine tF 11 [.v 8 90 (.tuple #[stv (growE (qfp3 s t) t.iv.se.toNat (amV t)).1 v, .bool (decide ((growE (qfp3 s t) t.iv.se.toNat (amV t)).2 = 0))]), .v 9 99 (stv (growE (qfp3 s t) t.iv.se.toNat (amV t)).1 v), .v 10 100 (.bool (decide ((growE (qfp3 s t) t.iv.se.toNat (amV t)).2 = 0)))] trivial ?_
   refine sF _ _ _ (rsto_st hM.a2 (stc_len _ _) (growE (qfp3 s t) t.iv.se.toNat (amV t)).1 hv) ?_
   replace hM := hM.set 2 (cs' := stc (growE (qfp3 s t) t.iv.se.toNat (amV t)).1 v) rfl rfl
   generalize World.setRow _ _ _ = Y42 at *
   refine tF 13 [.v 12 7 (.bool (decide ((growE (qfp3 s t) t.iv.se.toNat (amV t)).2 = 0)))] trivial ?_
   refine eF ?_
   by_cases hq : s.he t.iv.se.toNat + amV t < M4
   case pos =>
    have h7 := Lib.hid hq
    clear hq
    have h8 : Hid ((growE (qfp3 s t) t.iv.se.toNat (amV t)).2 = 0) := Lib.hid (by rw [grow_yes (s := (qfp3 s t)) h7.out])
    go_upto_region 19 with fail
    refine wp_region_fromM _ hM ?_
    clear hM
    rintro Y43 hM
    refine tF 2 [.a 0 101 (.bool (decide ((growE (qfp3 s t) t.iv.se.toNat (amV t)).2 = 0))) (.bool true), .v 1 102 (.bool false)] ⟨cB (decide_eq_true h8.out), trivial⟩ ?_
    refine eF ?_
    rw [show (growE (qfp3 s t) t.iv.se.toNat (amV t)).1 = (qfp1 s t) from congrArg Prod.fst (grow_yes (s := (qfp3 s t)) h7.out)] at hM
    go_upto_region 21 with fail
    refine wp_region_M (fun W => Blk W X 50 (txc t)) (fun W => Mem w none [(R, 39, stc zS nilV), (X, 50, txc t), (P, 39, stc (qfp1 s t) v)] W) hmx hM.drew ?_
    clear hM
    rintro Y44 hM
    have hS := hM.at 1 rfl
    refine tD 9 [.v 1 105 (pt P 150), .v 4 108 (.string (keyB t.iv)), .v 5 109 (pt X 8), .l 6 110 46 (pt X 8) (ivv t.iv), .v 7 111 (pt X 15), .l 8 112 48 (pt X 15) (svv t.vr)] ⟨fun W h => ld_iv h, fun W h => ld_vr h, trivial⟩ hS ?_
    refine oT 0 2 8 ?_ ?_
    ·
     obtain ⟨v1, W1, hrun, hO, hb⟩ := rapp_all HL.out hhi (by omega) Y44 hM.b
     have hM0 := hM
     have hRY := hM.a0.lt
     have hPY := hM.a2.lt
     have hXY := hM.a1.lt
     have hYw := hM.size
     refine rD (some 104) (.slice (some ⟨Y44.heap.size, 0, none⟩) 0 0) (Y44.alloc (.cells #[] 71)) (hS.alloc _) ?_
     replace hS := hS.alloc (.cells #[] 71)
     replace hM := hM.other (.cells #[] 71)
     refine oD 2 7 (lD (some 106) 37 (pt P 150) (v) (rld_lk (s := (qfp1 s t)) hM.a2) (hS) ?_)
     have hS1 : Blk W1 X 50 (txc t) := (hM0.at 1 rfl).below hb (hM0.at 1 rfl).lt
     replace hM := hM0.below hb
     have hYb := hb.size
     clear hM0
     have hk1 : ∀ k, v1.ownBlock = some k → Y44.heap.size ≤ k ∧ k < W1.heap.size := fun k hk => World.ownsRow.lt hO k hk
     refine oD 3 6 (stepH_append (d := some 107) (t := 37) (t' := 37) (ty := 37) (v := .slice (some ⟨Y44.heap.size, 0, none⟩) 0 0) (x := v) (by kernel_rfl) hrun hS1 ?_)
     replace hS := hS1
     clear hS1 hrun hb
     refine oD 9 5 (cD (some 113) 71 #[ivv t.iv, svv t.vr] ((refDigest_any _ _ ht.v _).mono ?_))
     rintro e W2 ⟨rfl, hb⟩
     refine And.intro (hS.below hb hS.lt) ?_
     replace hS := hS.below hb hS.lt
     replace hM := hM.below hb
     replace hO := OwnM.below hO hb
     have hk2 : ∀ k, v1.ownBlock = some k → Y44.heap.size ≤ k ∧ k < W2.heap.size := fun k hk => ⟨(hk1 k hk).1, Nat.lt_of_lt_of_le (hk1 k hk).2 hb.size⟩
     have hYc := Nat.le_trans hYb hb.size
     clear hk1 hb hYb
     refine tD 4 [.v 10 114 (lkv ⟨keyB t.iv, digB t.iv t.vr, 1⟩)] trivial hS ?_
     refine oD 11 3 (rD (some 115) (.slice (some ⟨W2.heap.size, 0, none⟩) 1 1) (W2.alloc (.cells (lkc ⟨keyB t.iv, digB t.iv t.vr, 1⟩).toArray 71)) (hS.alloc _) ?_)
     replace hS := hS.alloc (.cells (lkc ⟨keyB t.iv, digB t.iv t.vr, 1⟩).toArray 71)
     replace hM := hM.alloc 71 (lkc ⟨keyB t.iv, digB t.iv t.vr, 1⟩)
     replace hO := hO.alloc (.cells (lkc ⟨keyB t.iv, digB t.iv t.vr, 1⟩).toArray 71)
     generalize World.alloc _ _ = Y45 at *
     generalize hNe : W2.heap.size = N at *
     clear hNe
     obtain ⟨v2, W3, hrun2, hO2, hg2⟩ := rown_append hO (Nat.le_trans hYc (Nat.le_of_lt hM.a0.lt)) ⟨keyB t.iv, digB t.iv t.vr, 1⟩ hM.a0 hr 37
     have hM3 := hM.own hg2 (fun k hk => ⟨by have := hk2 k hk; omega, fun x hx => by
      have := hk2 k hk
      simp only [List.mem_cons, List.not_mem_nil, or_false] at hx
      rcases hx with rfl | rfl | rfl | rfl <;> (dsimp only; omega)⟩)
     refine oD 12 2 (stepH_append (d := some 116) (t := 37) (t' := 37) (ty := 37) (v := v1) (x := .slice (some ⟨N, 0, none⟩) 1 1) (by kernel_rfl) hrun2 (hM3.at 2 rfl) ?_)
     replace hS := hM3.at 2 rfl
     replace hM := hM3
     clear hM3 hrun2 hg2 hO hk2
     refine tD 1 [.v 13 117 (pt P 150)] trivial hS ?_
     have hPl := hM.a3.lt
     have hM1 := hM.set 3 (cs' := stc (qfp1 s t) v2) rfl rfl
     have hO3 := OwnM.row hO2 (B := P) (fun k hk e => by have := (World.ownsRow.lt hO2 k hk).1; omega) (stc (qfp1 s t) v2).toArray
     refine oD 14 0 (sD _ _ _ (rsto_lk (s := (qfp1 s t)) hM.a3 (OwnM.one hO2).1 (OwnM.one hO2).2) (hM1.at 2 rfl) ?_)
     replace hS := hM1.at 2 rfl
     replace hM := hM1
     clear hM1 hO2
     generalize W3.setRow P _ = W4 at *
     refine eD ?_
     clear hS
     go_upto_region 22 with fail
     refine wp_region_fromM (fun W => Mem w none [(N, 71, lkc ⟨keyB t.iv, digB t.iv t.vr, 1⟩), (R, 39, stc zS nilV), (X, 50, txc t), (P, 39, stc (qfp1 s t) v2)] W ∧ OwnM Y44.heap.size W v2 (s.lk ++ [⟨keyB t.iv, digB t.iv t.vr, 1⟩])) ⟨hM, hO3⟩ ?_
     clear hM hO3
     rintro Y46 ⟨hM, hO3⟩
     refine tF 1 [.l 0 118 39 (pt P 0) (stv (qfp1 s t) (v2))] ⟨rld_st (s := (qfp1 s t)) hM.a3, trivial⟩ ?_
     have hO4 := OwnM.row hO3 (B := R) (fun k hk e => by have := (World.ownsRow.lt hO3 k hk).1; omega) (stc (qfp1 s t) v2).toArray
     refine sF _ _ _ (rsto_st hM.a1 (stc_len _ _) (qfp1 s t) (OwnM.one hO3).1) ?_
     replace hM := hM.set 1 (cs' := stc (qfp1 s t) v2) rfl rfl
     generalize World.setRow _ _ _ = Y47 at *
     refine tF 3 [.v 2 5 (.int .i64 0)] trivial ?_
     refine eF ?_
     have fin : RetE (prepE orcB s t) w (.returned (.tuple #[stv (qfp1 s t) v2, .int .i64 0])) Y47 := (RetE.ok (s'' := { s with pu := (takeB s.pu t.fr t.iv.se (amV t)).1, he := updB s.he t.iv.se.toNat (s.he t.iv.se.toNat + amV t), lk := s.lk ++ [⟨keyB t.iv, digB t.iv t.vr, 1⟩] }) (by unfold prepE; rw [if_neg (show ¬ (placeE s.lk (orcB.ke t.iv)).isSome = true from h1.out), if_neg (show ¬ (t.vr.x ≤ s.tm ∨ s.tm + 1024 < t.vr.x) from fun e => e.elim h2.out h3.out), if_neg h4.out, if_neg (not_not_intro h5.out), if_neg (not_not_intro h6.out), if_neg (not_not_intro h7.out)]; rfl) rfl (OwnM.one hO4).1 ((OwnM.rsl hO4).mono (Nat.zero_le _) (Nat.le_refl _)) hM.b)
     go_wp2_with fail
     exact bodyPost_ret (v := .tuple #[stv (qfp1 s t) v2, .int .i64 0]) (res_two rfl _ rfl rfl (rlv_st hM.a1)) rfl fin
    ·
     refine lD (some 106) 37 (pt P 150) (v) (rld_lk (s := (qfp1 s t)) hM.a2) (hS) ?_
     obtain ⟨v1, W1, hrun, hO, hb⟩ := rapp_all HL.out hhi (by omega) Y44 hM.b
     have hM0 := hM
     have hRY := hM.a0.lt
     have hPY := hM.a2.lt
     have hXY := hM.a1.lt
     have hYw := hM.size
     refine oD 0 7 (rD (some 104) (.slice (some ⟨Y44.heap.size, 0, none⟩) 0 0) (Y44.alloc (.cells #[] 71)) (hS.alloc _) ?_)
     replace hS := hS.alloc (.cells #[] 71)
     replace hM := hM.other (.cells #[] 71)
     have hS1 : Blk W1 X 50 (txc t) := (hM0.at 1 rfl).below hb (hM0.at 1 rfl).lt
     replace hM := hM0.below hb
     have hYb := hb.size
     clear hM0
     have hk1 : ∀ k, v1.ownBlock = some k → Y44.heap.size ≤ k ∧ k < W1.heap.size := fun k hk => World.ownsRow.lt hO k hk
     refine oD 3 6 (stepH_append (d := some 107) (t := 37) (t' := 37) (ty := 37) (v := .slice (some ⟨Y44.heap.size, 0, none⟩) 0 0) (x := v) (by kernel_rfl) hrun hS1 ?_)
     replace hS := hS1
     clear hS1 hrun hb
     refine oD 9 5 (cD (some 113) 71 #[ivv t.iv, svv t.vr] ((refDigest_any _ _ ht.v _).mono ?_))
     rintro e W2 ⟨rfl, hb⟩
     refine And.intro (hS.below hb hS.lt) ?_
     replace hS := hS.below hb hS.lt
     replace hM := hM.below hb
     replace hO := OwnM.below hO hb
     have hk2 : ∀ k, v1.ownBlock = some k → Y44.heap.size ≤ k ∧ k < W2.heap.size := fun k hk => ⟨(hk1 k hk).1, Nat.lt_of_lt_of_le (hk1 k hk).2 hb.size⟩
     have hYc := Nat.le_trans hYb hb.size
     clear hk1 hb hYb
     refine tD 4 [.v 10 114 (lkv ⟨keyB t.iv, digB t.iv t.vr, 1⟩)] trivial hS ?_
     refine oD 11 3 (rD (some 115) (.slice (some ⟨W2.heap.size, 0, none⟩) 1 1) (W2.alloc (.cells (lkc ⟨keyB t.iv, digB t.iv t.vr, 1⟩).toArray 71)) (hS.alloc _) ?_)
     replace hS := hS.alloc (.cells (lkc ⟨keyB t.iv, digB t.iv t.vr, 1⟩).toArray 71)
     replace hM := hM.alloc 71 (lkc ⟨keyB t.iv, digB t.iv t.vr, 1⟩)
     replace hO := hO.alloc (.cells (lkc ⟨keyB t.iv, digB t.iv t.vr, 1⟩).toArray 71)
     generalize World.alloc _ _ = Y48 at *
     generalize hNe : W2.heap.size = N at *
     clear hNe
     obtain ⟨v2, W3, hrun2, hO2, hg2⟩ := rown_append hO (Nat.le_trans hYc (Nat.le_of_lt hM.a0.lt)) ⟨keyB t.iv, digB t.iv t.vr, 1⟩ hM.a0 hr 37
     have hM3 := hM.own hg2 (fun k hk => ⟨by have := hk2 k hk; omega, fun x hx => by
      have := hk2 k hk
      simp only [List.mem_cons, List.not_mem_nil, or_false] at hx
      rcases hx with rfl | rfl | rfl | rfl <;> (dsimp only; omega)⟩)
     refine oD 12 2 (stepH_append (d := some 116) (t := 37) (t' := 37) (ty := 37) (v := v1) (x := .slice (some ⟨N, 0, none⟩) 1 1) (by kernel_rfl) hrun2 (hM3.at 2 rfl) ?_)
     replace hS := hM3.at 2 rfl
     replace hM := hM3
     clear hM3 hrun2 hg2 hO hk2
     refine tD 1 [.v 13 117 (pt P 150)] trivial hS ?_
     have hPl := hM.a3.lt
     have hM1 := hM.set 3 (cs' := stc (qfp1 s t) v2) rfl rfl
     have hO3 := OwnM.row hO2 (B := P) (fun k hk e => by have := (World.ownsRow.lt hO2 k hk).1; omega) (stc (qfp1 s t) v2).toArray
     refine oD 14 0 (sD _ _ _ (rsto_lk (s := (qfp1 s t)) hM.a3 (OwnM.one hO2).1 (OwnM.one hO2).2) (hM1.at 2 rfl) ?_)
     replace hS := hM1.at 2 rfl
     replace hM := hM1
     clear hM1 hO2
     generalize W3.setRow P _ = W4 at *
     refine eD ?_
     clear hS
     go_upto_region 22 with fail
     refine wp_region_fromM (fun W => Mem w none [(N, 71, lkc ⟨keyB t.iv, digB t.iv t.vr, 1⟩), (R, 39, stc zS nilV), (X, 50, txc t), (P, 39, stc (qfp1 s t) v2)] W ∧ OwnM Y44.heap.size W v2 (s.lk ++ [⟨keyB t.iv, digB t.iv t.vr, 1⟩])) ⟨hM, hO3⟩ ?_
     clear hM hO3
     rintro Y49 ⟨hM, hO3⟩
     refine tF 1 [.l 0 118 39 (pt P 0) (stv (qfp1 s t) (v2))] ⟨rld_st (s := (qfp1 s t)) hM.a3, trivial⟩ ?_
     have hO4 := OwnM.row hO3 (B := R) (fun k hk e => by have := (World.ownsRow.lt hO3 k hk).1; omega) (stc (qfp1 s t) v2).toArray
     refine sF _ _ _ (rsto_st hM.a1 (stc_len _ _) (qfp1 s t) (OwnM.one hO3).1) ?_
     replace hM := hM.set 1 (cs' := stc (qfp1 s t) v2) rfl rfl
     generalize World.setRow _ _ _ = Y50 at *
     refine tF 3 [.v 2 5 (.int .i64 0)] trivial ?_
     refine eF ?_
     have fin : RetE (prepE orcB s t) w (.returned (.tuple #[stv (qfp1 s t) v2, .int .i64 0])) Y50 := (RetE.ok (s'' := { s with pu := (takeB s.pu t.fr t.iv.se (amV t)).1, he := updB s.he t.iv.se.toNat (s.he t.iv.se.toNat + amV t), lk := s.lk ++ [⟨keyB t.iv, digB t.iv t.vr, 1⟩] }) (by unfold prepE; rw [if_neg (show ¬ (placeE s.lk (orcB.ke t.iv)).isSome = true from h1.out), if_neg (show ¬ (t.vr.x ≤ s.tm ∨ s.tm + 1024 < t.vr.x) from fun e => e.elim h2.out h3.out), if_neg h4.out, if_neg (not_not_intro h5.out), if_neg (not_not_intro h6.out), if_neg (not_not_intro h7.out)]; rfl) rfl (OwnM.one hO4).1 ((OwnM.rsl hO4).mono (Nat.zero_le _) (Nat.le_refl _)) hM.b)
     go_wp2_with fail
     exact bodyPost_ret (v := .tuple #[stv (qfp1 s t) v2, .int .i64 0]) (res_two rfl _ rfl rfl (rlv_st hM.a1)) rfl fin
   have h7 := Lib.hid hq
   clear hq
   have h8 : Hid ((growE (qfp3 s t) t.iv.se.toNat (amV t)).2 ≠ 0) := Lib.hid (by rw [grow_no (s := (qfp3 s t)) h7.out]; exact n38)
   go_upto_region 19 with fail
   refine wp_region_fromM _ hM ?_
   clear hM
   rintro Y51 hM
   refine tF 2 [.a 0 101 (.bool (decide ((growE (qfp3 s t) t.iv.se.toNat (amV t)).2 = 0))) (.bool false), .v 1 102 (.bool true)] ⟨cB (decide_eq_false h8.out), trivial⟩ ?_
   refine eF ?_
   go_upto_region 20 with fail
   refine wp_region_fromM _ hM ?_
   clear hM
   rintro Y52 hM
   refine tF 1 [.l 0 103 39 (pt P 0) (stv ((growE (qfp3 s t) t.iv.se.toNat (amV t)).1) (v))] ⟨rld_st (s := (growE (qfp3 s t) t.iv.se.toNat (amV t)).1) hM.a2, trivial⟩ ?_
   refine sF _ _ _ (rsto_st hM.a0 (stc_len _ _) ((growE (qfp3 s t) t.iv.se.toNat (amV t)).1) hv) ?_
   replace hM := hM.set 0 (cs' := stc ((growE (qfp3 s t) t.iv.se.toNat (amV t)).1) v) rfl rfl
   generalize World.setRow _ _ _ = Y53 at *
   refine tF 3 [.v 2 5 (.int .i64 38)] trivial ?_
   refine eF ?_
   have fin : RetE (prepE orcB s t) w (.returned (.tuple #[stv ((growE (qfp3 s t) t.iv.se.toNat (amV t)).1) v, .int .i64 38])) Y53 := RetE.bad (by unfold prepE; rw [if_neg (show ¬ (placeE s.lk (orcB.ke t.iv)).isSome = true from h1.out), if_neg (show ¬ (t.vr.x ≤ s.tm ∨ s.tm + 1024 < t.vr.x) from fun e => e.elim h2.out h3.out), if_neg h4.out, if_neg (not_not_intro h5.out), if_neg (not_not_intro h6.out), if_pos h7.out]) (by decide) hv hM.b
   go_wp2_with fail
   exact bodyPost_ret (v := .tuple #[stv ((growE (qfp3 s t) t.iv.se.toNat (amV t)).1) v, .int .i64 38]) (res_two rfl _ rfl rfl (rlv_st hM.a0)) rfl fin
  have h6 := Lib.hid hq
  clear hq
  go_upto_region 16 with fail
  refine wp_region_fromM _ hM ?_
  clear hM
  rintro Y54 hM
  refine tF 2 [.a 0 87 (.bool (decide ((takeB s.pu t.fr t.iv.se (amV t)).2 = 0))) (.bool false), .v 1 88 (.bool true)] ⟨cB (decide_eq_false h6.out), trivial⟩ ?_
  refine eF ?_
  go_upto_region 17 with fail
  refine wp_region_fromM _ hM ?_
  clear hM
  rintro Y55 hM
  refine tF 1 [.l 0 89 39 (pt P 0) (stv (qfp3 s t) (v))] ⟨rld_st (s := (qfp3 s t)) hM.a2, trivial⟩ ?_
  refine sF _ _ _ (rsto_st hM.a0 (stc_len _ _) (qfp3 s t) hv) ?_
  replace hM := hM.set 0 (cs' := stc (qfp3 s t) v) rfl rfl
  generalize World.setRow _ _ _ = Y56 at *
  refine tF 3 [.v 2 5 (.int .i64 30)] trivial ?_
  refine eF ?_
  have fin : RetE (prepE orcB s t) w (.returned (.tuple #[stv (qfp3 s t) v, .int .i64 30])) Y56 := RetE.bad (by unfold prepE; rw [if_neg (show ¬ (placeE s.lk (orcB.ke t.iv)).isSome = true from h1.out), if_neg (show ¬ (t.vr.x ≤ s.tm ∨ s.tm + 1024 < t.vr.x) from fun e => e.elim h2.out h3.out), if_neg h4.out, if_neg (not_not_intro h5.out), if_pos h6.out]) (by decide) hv hM.b
  go_wp2_with fail
  exact bodyPost_ret (v := .tuple #[stv (qfp3 s t) v, .int .i64 30]) (res_two rfl _ rfl rfl (rlv_st hM.a0)) rfl fin
 have h5 := Lib.hid hq
 clear hq
 go_upto_region 13 with fail
 refine wp_region_fromM _ hM ?_
 clear hM
 rintro Y57 hM
 refine tF 6 [.v 0 63 (pt X 0), .l 1 64 3 (pt X 0) (.int .i64 t.fr), .v 2 65 (pt X 8), .v 3 66 (pt X 8), .l 4 67 3 (pt X 8) (.int .i64 t.iv.us), .a 5 68 (.bool (t.fr != t.iv.us)) (.bool true)] ⟨ld_int hM.a1 0 rfl, ld_int hM.a1 8 rfl, cB (bne_iff_ne.2 h5.out), trivial⟩ ?_
 refine eF ?_
 go_upto_region 14 with fail
 refine wp_region_fromM _ hM ?_
 clear hM
 rintro Y58 hM
 refine tF 1 [.l 0 69 39 (pt P 0) (stv (s) (v))] ⟨rld_st (s := s) hM.a2, trivial⟩ ?_
 refine sF _ _ _ (rsto_st hM.a0 (stc_len _ _) (s) hv) ?_
 replace hM := hM.set 0 (cs' := stc (s) v) rfl rfl
 generalize World.setRow _ _ _ = Y59 at *
 refine tF 3 [.v 2 5 (.int .i64 37)] trivial ?_
 refine eF ?_
 have fin : RetE (prepE orcB s t) w (.returned (.tuple #[stv (s) v, .int .i64 37])) Y59 := RetE.bad (by unfold prepE; rw [if_neg (show ¬ (placeE s.lk (orcB.ke t.iv)).isSome = true from h1.out), if_neg (show ¬ (t.vr.x ≤ s.tm ∨ s.tm + 1024 < t.vr.x) from fun e => e.elim h2.out h3.out), if_neg h4.out, if_pos h5.out]) (by decide) hv hM.b
 go_wp2_with fail
 exact bodyPost_ret (v := .tuple #[stv (s) v, .int .i64 37]) (res_two rfl _ rfl rfl (rlv_st hM.a0)) rfl fin
end Go.Proofs.YthhmdgmmeedhdaaGreat
