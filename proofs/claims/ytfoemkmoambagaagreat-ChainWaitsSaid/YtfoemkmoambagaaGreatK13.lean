/-
  A ledger is asked: does one wait; the next nonce; the events from a place on; '==' and '!=' of arrays and structs in a region that draws its order, whatever comes of them; A transaction is submitted; one of those that wait is included; One of those that wait is included; A ledger's events, from a place on
-/
import Derived.Laws.OwnMore
import Derived.ArgAppend
import Derived.Test.YtfoemkmoambagaaGreatK12
namespace Go.Proofs.YtfoemkmoambagaaGreat
open Go.RowKit Go.Shelf
attribute [local irreducible] wpFrom wpAnyH StepH
theorem ne_empty {s : ByteArray} {b : Bool} (h : s.toList.isEmpty = b) : (!(s.toList == ([] : List UInt8))) = !b := by
  subst h
  cases s.toList <;> rfl
theorem wpFrom_not {P : Program} {ops : Array Oper} {Q : Exit → Act → World → Prop} {k : Nat} {a : Act} {w : World} {d : Option Tmp} (hr : (ops[k]?).map (fun o => (Region.wanted o (yielded ops a.tmps), o.dst)) = some (false, d)) (h : wpFrom P ops Q (k + 1) (a.put d undef) w) : wpFrom P ops Q k a w := by
  obtain ⟨o, ho⟩ := some_of hr
  rw [ho] at hr
  have h0 := Option.some.inj hr
  have h1 : Region.wanted o (yielded ops a.tmps) = false := congrArg Prod.fst h0
  have h2 : o.dst = d := congrArg Prod.snd h0
  refine wpFrom_step ho fun K hK => ?_
  rw [if_neg (by rw [h1]; decide), h2]
  exact hK _ _ h
set_option maxRecDepth 100000 in
set_option maxHeartbeats 4000000 in
theorem chnWaits_any {B : Nat} {c : Ch} {v pv q : Value} {bs : List Nat} (a : Int) (s : ByteArray) (k : Int) (w : World) (hv : ChV w B c v pv q bs) : Calls Tryz.prog 25 #[.pointer (some ⟨B, 0, none⟩), .int .i64 a, .string s, .int .i64 k] w fun e W' => e = .returned (.bool (waitsC c a s k)) ∧ Below w.heap.size w W' := by
  have HV := Lib.hid hv
  clear hv
  have hM := Sep.start w
  go_enter Tryz.func25, Tryz.ntmps25
  go_upto_region 0 with fail
  refine wp_region_fromM (fun W => Sep w [] [] W) hM ?_
  clear hM
  rintro Y1 hM
  refine rF (some 5) (pt Y1.heap.size 0) (Y1.alloc (.cells ([.int .i64 a]).toArray 3)) ?_
  replace hM := hM.alloc 3 ([.int .i64 a])
  generalize World.alloc _ _ = Y2 at *
  generalize hNe : Y1.heap.size = A at *
  clear hNe
  refine rF (some 6) (pt Y2.heap.size 0) (Y2.alloc (.cells ([.string s]).toArray 9)) ?_
  replace hM := hM.alloc 9 ([.string s])
  generalize World.alloc _ _ = Y3 at *
  generalize hNe : Y2.heap.size = S at *
  clear hNe
  refine rF (some 7) (pt Y3.heap.size 0) (Y3.alloc (.cells ([.int .i64 k]).toArray 3)) ?_
  replace hM := hM.alloc 3 ([.int .i64 k])
  generalize World.alloc _ _ = Y4 at *
  generalize hNe : Y3.heap.size = K at *
  clear hNe
  refine tF 4 [.val 3 (some 8) (.bool false)] trivial ?_
  refine dF ?_
  try simp only [puts, Tk.put, Act.put, List.setIfInBounds_toArray, List.set_cons_zero, List.set_cons_succ]
  cases hk : s.toList.isEmpty with
  | true =>
    have HK := Lib.hid hk
    clear hk
    go_upto_region 1 with fail
    refine wp_region_fromM (fun W => Sep w [] [.blk K 3 ([.int .i64 k]), .blk S 9 ([.string s]), .blk A 3 ([.int .i64 a])] W) hM ?_
    clear hM
    rintro Y5 hM
    refine tF 5 [.load 0 (some 9) 9 (pt S 0) (.string s), .alt 1 (some 10) (.bool (!(s.toList == ([] : List UInt8)))) (.bool false), .val 2 (some 11) (.bool false), .skip 3 (some 12), .skip 4 (some 13)] ⟨ld_str (hM.at 1 rfl) 0 rfl, congrArg Value.bool (ne_empty HK.out), trivial⟩ ?_
    refine wpFrom_not (d := some 14) (by kernel_rfl) ?_
    refine tF 8 [.val 6 (some 15) (.bool false), .val 7 (some 8) (.bool false)] trivial ?_
    refine dF ?_
    try simp only [puts, Tk.put, Act.put, List.setIfInBounds_toArray, List.set_cons_zero, List.set_cons_succ]
    go_wp2_with fail
    go_ret
    exact ⟨by unfold waitsC; rw [HK.out]; rfl, hM.b⟩
  | false =>
    have HK := Lib.hid hk
    clear hk
    go_upto_region 1 with fail
    refine wp_region_fromM (fun W => Sep w [] [.blk K 3 ([.int .i64 k]), .blk S 9 ([.string s]), .blk A 3 ([.int .i64 a])] W) hM ?_
    clear hM
    rintro Y6 hM
    refine tF 5 [.load 0 (some 9) 9 (pt S 0) (.string s), .alt 1 (some 10) (.bool (!(s.toList == ([] : List UInt8)))) (.bool true), .val 2 (some 11) (.bool true), .val 3 (some 12) (pt B 0), .val 4 (some 13) (.func (.func 52) #[] #[pt A 0, pt K 0, pt S 0])] ⟨ld_str (hM.at 1 rfl) 0 rfl, congrArg Value.bool (ne_empty HK.out), trivial⟩ ?_
    refine cF (some 14) 32 #[pt B 0, .func (.func 52) #[] #[pt A 0, pt K 0, pt S 0]] ((waits1_some a k s _ (HV.out.below hM.b) (hM.at 2 rfl) (hM.at 0 rfl) (hM.at 1 rfl)).mono ?_)
    rintro e W1 ⟨rfl, hb⟩
    replace hM := hM.below hb
    clear hb
    refine tF 8 [.val 6 (some 15) (.bool (c.po.any (fun y => (decide (y.fr = a) && (decide (y.kd = k) && decide (keyB y.iv = s)))))), .val 7 (some 8) (.bool (c.po.any (fun y => (decide (y.fr = a) && (decide (y.kd = k) && decide (keyB y.iv = s))))))] trivial ?_
    refine dF ?_
    try simp only [puts, Tk.put, Act.put, List.setIfInBounds_toArray, List.set_cons_zero, List.set_cons_succ]
    go_wp2_with fail
    go_ret
    exact ⟨by unfold waitsC; rw [HK.out]; rfl, hM.b⟩
set_option maxRecDepth 100000 in
set_option maxHeartbeats 4000000 in
theorem chnWaits_no {p : Value} (a : Int) (s : ByteArray) (k : Int) (w : World) (h : NoC w p) : Calls Tryz.prog 25 #[p, .int .i64 a, .string s, .int .i64 k] w fun e W' => e = .returned (.bool false) ∧ Below w.heap.size w W' := by
  have HN := Lib.hid h
  clear h
  have hM := Sep.start w
  go_enter Tryz.func25, Tryz.ntmps25
  go_upto_region 0 with fail
  refine wp_region_fromM (fun W => Sep w [] [] W) hM ?_
  clear hM
  rintro Y1 hM
  refine rF (some 5) (pt Y1.heap.size 0) (Y1.alloc (.cells ([.int .i64 a]).toArray 3)) ?_
  replace hM := hM.alloc 3 ([.int .i64 a])
  generalize World.alloc _ _ = Y2 at *
  generalize hNe : Y1.heap.size = A at *
  clear hNe
  refine rF (some 6) (pt Y2.heap.size 0) (Y2.alloc (.cells ([.string s]).toArray 9)) ?_
  replace hM := hM.alloc 9 ([.string s])
  generalize World.alloc _ _ = Y3 at *
  generalize hNe : Y2.heap.size = S at *
  clear hNe
  refine rF (some 7) (pt Y3.heap.size 0) (Y3.alloc (.cells ([.int .i64 k]).toArray 3)) ?_
  replace hM := hM.alloc 3 ([.int .i64 k])
  generalize World.alloc _ _ = Y4 at *
  generalize hNe : Y3.heap.size = K at *
  clear hNe
  refine tF 4 [.val 3 (some 8) (.bool false)] trivial ?_
  refine dF ?_
  try simp only [puts, Tk.put, Act.put, List.setIfInBounds_toArray, List.set_cons_zero, List.set_cons_succ]
  cases hk : s.toList.isEmpty with
  | true =>
    have HK := Lib.hid hk
    clear hk
    go_upto_region 1 with fail
    refine wp_region_fromM (fun W => Sep w [] [.blk K 3 ([.int .i64 k]), .blk S 9 ([.string s]), .blk A 3 ([.int .i64 a])] W) hM ?_
    clear hM
    rintro Y5 hM
    refine tF 5 [.load 0 (some 9) 9 (pt S 0) (.string s), .alt 1 (some 10) (.bool (!(s.toList == ([] : List UInt8)))) (.bool false), .val 2 (some 11) (.bool false), .skip 3 (some 12), .skip 4 (some 13)] ⟨ld_str (hM.at 1 rfl) 0 rfl, congrArg Value.bool (ne_empty HK.out), trivial⟩ ?_
    refine wpFrom_not (d := some 14) (by kernel_rfl) ?_
    refine tF 8 [.val 6 (some 15) (.bool false), .val 7 (some 8) (.bool false)] trivial ?_
    refine dF ?_
    try simp only [puts, Tk.put, Act.put, List.setIfInBounds_toArray, List.set_cons_zero, List.set_cons_succ]
    go_wp2_with fail
    go_ret
    exact ⟨rfl, hM.b⟩
  | false =>
    have HK := Lib.hid hk
    clear hk
    go_upto_region 1 with fail
    refine wp_region_fromM (fun W => Sep w [] [.blk K 3 ([.int .i64 k]), .blk S 9 ([.string s]), .blk A 3 ([.int .i64 a])] W) hM ?_
    clear hM
    rintro Y6 hM
    refine tF 5 [.load 0 (some 9) 9 (pt S 0) (.string s), .alt 1 (some 10) (.bool (!(s.toList == ([] : List UInt8)))) (.bool true), .val 2 (some 11) (.bool true), .val 3 (some 12) (p), .val 4 (some 13) (.func (.func 52) #[] #[pt A 0, pt K 0, pt S 0])] ⟨ld_str (hM.at 1 rfl) 0 rfl, congrArg Value.bool (ne_empty HK.out), trivial⟩ ?_
    refine cF (some 14) 32 #[p, .func (.func 52) #[] #[pt A 0, pt K 0, pt S 0]] ((waits1_none _ (HN.out.below hM.b)).mono ?_)
    rintro e W1 ⟨rfl, rfl⟩
    refine tF 8 [.val 6 (some 15) (.bool false), .val 7 (some 8) (.bool false)] trivial ?_
    refine dF ?_
    try simp only [puts, Tk.put, Act.put, List.setIfInBounds_toArray, List.set_cons_zero, List.set_cons_succ]
    go_wp2_with fail
    go_ret
    exact ⟨rfl, hM.b⟩
def NextR (c : Ch) (a : Int) (w : World) (e : Ending) (W' : World) : Prop := ∃ n, e = .returned (.int .i64 n) ∧ NextN c.po a (c.st.no a.toNat) n ∧ Below w.heap.size w W'
def cellI (W : World) (B : Nat) : Int := match W.cell? ⟨B, 0, none⟩ with | some v => intOf v | none => 0
theorem cellI_of {W : World} {B : Nat} {T : TypeId} {n : Int} (h : Blk W B T [.int .i64 n]) : cellI W B = n := by
  unfold cellI
  rw [h.cell 0]
  rfl
theorem next_room {l : List Tr} {a n0 n : Int} (h0 : n0 ≤ n) (h : ∀ m, n0 ≤ m → m < n → hasN l a m = true) (h1 : hasN l a n = true) : n + 1 - n0 ≤ l.length := by
  have := many_le (n + 1 - n0).toNat n0 (l.map (·.no)) (fun m h2 h3 => by
    have hm : hasN l a m = true := by
      by_cases e : m = n
      · exact e ▸ h1
      · exact h m h2 (by omega)
    obtain ⟨t, ht, _, e⟩ := hasN_iff.1 hm
    exact List.mem_map.2 ⟨t, ht, e⟩)
  rw [List.length_map] at this
  omega
set_option maxRecDepth 100000 in
set_option maxHeartbeats 4000000 in
theorem chnNext_out {B : Nat} {c : Ch} {v pv q : Value} {bs : List Nat} (a : Int) (ha : a < 0 ∨ 8 ≤ a) (w : World) (hv : ChV w B c v pv q bs) : Calls Tryz.prog 22 #[.pointer (some ⟨B, 0, none⟩), .int .i64 a] w fun e W' => e = .returned (.int .i64 0) ∧ Below w.heap.size w W' := by
  have hmx : Tryz.prog.follows .mixedOrders = true := by kernel_rfl
  have HV := Lib.hid hv
  clear hv
  have HA := Lib.hid ha
  clear ha
  have hM := Sep.start w
  go_enter Tryz.func22, Tryz.ntmps22
  go_upto_region 0 with fail
  refine wp_region_fromM (fun W => Sep w [] [] W) hM ?_
  clear hM
  rintro Y1 hM
  refine rF (some 3) (pt Y1.heap.size 0) (Y1.alloc (.cells ([.int .i64 a]).toArray 3)) ?_
  replace hM := hM.alloc 3 ([.int .i64 a])
  generalize World.alloc _ _ = Y2 at *
  generalize hNe : Y1.heap.size = A at *
  clear hNe
  refine tF 2 [.val 1 (some 4) (.int .i64 0)] trivial ?_
  refine dF ?_
  try simp only [puts, Tk.put, Act.put, List.setIfInBounds_toArray, List.set_cons_zero, List.set_cons_succ]
  by_cases hq : a < 0
  · have ha2 := HA.out
    go_upto_region 1 with fail
    refine wp_region_fromM (fun W => Sep w [] [.blk A 3 ([.int .i64 a])] W) hM ?_
    clear hM
    rintro Y3 hM
    refine tF 1 [.val 0 (some 6) (pt B 0)] trivial ?_
    refine cF (some 7) 31 #[pt B 0] ((there_yes _ (HV.out.below hM.b).b).mono ?_)
    rintro e W1 ⟨rfl, rfl⟩
    refine tF 11 [.val 2 (some 8) (.bool false), .val 3 (some 9) (.bool false), .load 4 (some 10) 3 (pt A 0) (.int .i64 a), .alt 5 (some 11) (.bool (decide (a < 0))) (.bool true), .val 6 (some 12) (.bool true), .val 7 (some 13) (.bool true), .skip 8 (some 14), .skip 9 (some 15), .val 10 (some 16) (.bool true)] ⟨ld_int (hM.at 0 rfl) 0 rfl, congrArg Value.bool (decide_eq_true (by omega)), trivial⟩ ?_
    refine dF ?_
    try simp only [puts, Tk.put, Act.put, List.setIfInBounds_toArray, List.set_cons_zero, List.set_cons_succ]
    go_wp2_with fail
    go_ret
    exact ⟨rfl, hM.b⟩
  · have ha2 := HA.out
    go_upto_region 1 with fail
    refine wp_region_fromM (fun W => Sep w [] [.blk A 3 ([.int .i64 a])] W) hM ?_
    clear hM
    rintro Y4 hM
    refine tF 1 [.val 0 (some 6) (pt B 0)] trivial ?_
    refine cF (some 7) 31 #[pt B 0] ((there_yes _ (HV.out.below hM.b).b).mono ?_)
    rintro e W1 ⟨rfl, rfl⟩
    refine tF 11 [.val 2 (some 8) (.bool false), .val 3 (some 9) (.bool false), .load 4 (some 10) 3 (pt A 0) (.int .i64 a), .alt 5 (some 11) (.bool (decide (a < 0))) (.bool false), .val 6 (some 12) (.bool false), .val 7 (some 13) (.bool false), .load 8 (some 14) 3 (pt A 0) (.int .i64 a), .alt 9 (some 15) (.bool (decide (8 ≤ a))) (.bool true), .val 10 (some 16) (.bool true)] ⟨ld_int (hM.at 0 rfl) 0 rfl, congrArg Value.bool (decide_eq_false (by omega)), ld_int (hM.at 0 rfl) 0 rfl, congrArg Value.bool (decide_eq_true (by omega)), trivial⟩ ?_
    refine dF ?_
    try simp only [puts, Tk.put, Act.put, List.setIfInBounds_toArray, List.set_cons_zero, List.set_cons_succ]
    go_wp2_with fail
    go_ret
    exact ⟨rfl, hM.b⟩
theorem sto_int {W : World} {B : Nat} {T : TypeId} {m : Int} (h : Blk W B T [.int .i64 m]) (n : Int) : (Instr.storeAt 3 (.pointer (some ⟨B, 0, none⟩)) (.int .i64 n)).run Tryz.prog W = .ok () (W.setRow B [.int .i64 n].toArray) :=
  sto_part _ h 0 _ _ [.int .i64 n] rfl (by kernel_rfl) (by simp) rfl rfl
set_option maxRecDepth 100000 in
set_option maxHeartbeats 4000000 in
theorem chnNext_in {B : Nat} {c : Ch} {v pv q : Value} {bs : List Nat} {a : Nat} (ha : a < 8) (w : World) (hv : ChV w B c v pv q bs) (htx : ∀ t ∈ c.po, errT t = 0) : Calls Tryz.prog 22 #[.pointer (some ⟨B, 0, none⟩), .int .i64 (a : Int)] w (NextR c a w) := by
  have hmx : Tryz.prog.follows .mixedOrders = true := by kernel_rfl
  have HV := Lib.hid hv
  clear hv
  have HTX := Lib.hid htx
  clear htx
  have HA := Lib.hid ha
  have hM := Sep.start w
  go_enter Tryz.func22, Tryz.ntmps22
  go_upto_region 0 with fail
  refine wp_region_fromM (fun W => Sep w [] [] W) hM ?_
  clear hM
  rintro Y1 hM
  refine rF (some 3) (pt Y1.heap.size 0) (Y1.alloc (.cells ([.int .i64 (a : Int)]).toArray 3)) ?_
  replace hM := hM.alloc 3 ([.int .i64 (a : Int)])
  generalize World.alloc _ _ = Y2 at *
  generalize hNe : Y1.heap.size = A at *
  clear hNe
  refine tF 2 [.val 1 (some 4) (.int .i64 0)] trivial ?_
  refine dF ?_
  try simp only [puts, Tk.put, Act.put, List.setIfInBounds_toArray, List.set_cons_zero, List.set_cons_succ]
  go_upto_region 1 with fail
  refine wp_region_fromM (fun W => Sep w [] [.blk A 3 ([.int .i64 (a : Int)])] W) hM ?_
  clear hM
  rintro Y3 hM
  refine tF 1 [.val 0 (some 6) (pt B 0)] trivial ?_
  refine cF (some 7) 31 #[pt B 0] ((there_yes _ (HV.out.below hM.b).b).mono ?_)
  rintro e W1 ⟨rfl, rfl⟩
  refine tF 11 [.val 2 (some 8) (.bool false), .val 3 (some 9) (.bool false), .load 4 (some 10) 3 (pt A 0) (.int .i64 (a : Int)), .alt 5 (some 11) (.bool (decide ((a : Int) < 0))) (.bool false), .val 6 (some 12) (.bool false), .val 7 (some 13) (.bool false), .load 8 (some 14) 3 (pt A 0) (.int .i64 (a : Int)), .alt 9 (some 15) (.bool (decide (8 ≤ (a : Int)))) (.bool false), .val 10 (some 16) (.bool false)] ⟨ld_int (hM.at 0 rfl) 0 rfl, congrArg Value.bool (decide_eq_false (by omega)), ld_int (hM.at 0 rfl) 0 rfl, congrArg Value.bool (decide_eq_false (by omega)), trivial⟩ ?_
  refine dF ?_
  try simp only [puts, Tk.put, Act.put, List.setIfInBounds_toArray, List.set_cons_zero, List.set_cons_succ]
  go_upto_region 3 with fail
  refine wp_region_M (fun W => Sep w [] [.blk A 3 ([.int .i64 (a : Int)])] W) (fun W => Sep w [] [.blk A 3 ([.int .i64 (a : Int)])] W) hmx hM.drew ?_
  clear hM
  rintro Y4 hM
  have hS := hM.sub (.cons_cons _ .slnil)
  refine tD 2 [.val 0 (some 17) (pt B 0), .load 1 (some 18) 3 (pt A 0) (.int .i64 (a : Int)), .val 2 (some 19) (pt B 0), .val 3 (some 20) (pt B 1), .val 4 (some 21) (pt B 131), .idx 5 (some 22) 32 (pt B 131) (.int .i64 (a : Int)) (pt B (131 + a)), .load 6 (some 23) 3 (pt B (131 + a)) (.int .i64 ((c.st).no a))] ⟨fun W h => ld_int (h.at 0 rfl) 0 rfl, fun W h => idx_no (by omega), fun W h => ld_chno (HV.out.below h.b).b (by omega), trivial⟩ hS ?_
  refine oD 7 1 (rD (some 5) (pt Y4.heap.size 0) (Y4.alloc (.cells ([.int .i64 0]).toArray 3)) (hS.other _) ?_)
  replace hS := hS.other (.cells ([.int .i64 0]).toArray 3)
  replace hM := hM.alloc 3 ([.int .i64 0])
  generalize World.alloc _ _ = Y5 at *
  generalize hNe : Y4.heap.size = N at *
  clear hNe
  have hM1 := hM.set 0 (cs' := [.int .i64 (c.st.no a)]) rfl rfl
  refine oD 8 0 (sD 3 (pt N 0) (.int .i64 ((c.st).no a)) (sto_int (hM.at 0 rfl) (c.st.no a)) (hM1.sub (.cons _ (.cons_cons _ .slnil))) ?_)
  replace hS := hM1.sub (.cons _ (.cons_cons _ .slnil))
  replace hM := hM1
  clear hM1
  generalize World.setRow _ _ _ = Y6 at *
  refine dD ?_
  try simp only [puts, Tk.put, Act.put, List.setIfInBounds_toArray, List.set_cons_zero, List.set_cons_succ]
  clear hS
  go_wp2_with fail
  go_loopw [26] (fun _ wr => ∃ n : Int, (c.st.no a ≤ n ∧ ∀ m, c.st.no a ≤ m → m < n → hasN c.po a m = true) ∧ Sep w [] [.blk N 3 ([.int .i64 n]), .blk A 3 ([.int .i64 (a : Int)])] wr) (fun _ wr => ((c.po.length : Int) - (cellI wr N - c.st.no a)).toNat)
  case atStart => exact ⟨_, ⟨Int.le_refl _, fun m h1 h2 => absurd h1 (by omega)⟩, hM⟩
  clear hM
  case round =>
    obtain ⟨n, hn, hM⟩ := hrel
    have HN := Lib.hid hn
    have HC1 := Lib.hid (cellI_of (hM.at 0 rfl))
    clear hn
    go_upto_region 4 with fail
    refine wp_region_fromM (fun W => Sep w [] [.blk N 3 ([.int .i64 n]), .blk A 3 ([.int .i64 (a : Int)])] W) hM ?_
    clear hM
    rintro Y7 hM
    refine tF 2 [.val 0 (some 24) (pt B 0), .val 1 (some 25) (.func (.func 46) #[] #[pt A 0, pt N 0])] trivial ?_
    refine cF (some 26) 32 #[pt B 0, .func (.func 46) #[] #[pt A 0, pt N 0]] ((next1_some (a : Int) n _ (HV.out.below hM.b) (hM.at 1 rfl) (hM.at 0 rfl)).mono ?_)
    rintro e W1 ⟨rfl, hb⟩
    replace hM := hM.below hb
    clear hb
    refine dF ?_
    try simp only [puts, Tk.put, Act.put, List.setIfInBounds_toArray, List.set_cons_zero, List.set_cons_succ]
    cases hh : hasN c.po a n with
    | true =>
      have hh' : (c.po.any fun y => decide (y.fr = (a : Int)) && decide (y.no = n)) = true := hh
      try rw [hh']
      clear hh'
      obtain ⟨t, ht, _, hte⟩ := hasN_iff.1 hh
      obtain ⟨_, _, hnn, _⟩ := errT_all (HTX.out t ht)
      rw [hte] at hnn
      have HR := Lib.hid (next_room HN.out.1 HN.out.2 hh)
      have HH := Lib.hid hh
      clear ht hte hh
      go_upto_region 5 with fail
      refine wp_region_fromM (fun W => Sep w [] [.blk N 3 ([.int .i64 n]), .blk A 3 ([.int .i64 (a : Int)])] W) hM ?_
      clear hM
      rintro Y8 hM
      refine tF 2 [.load 0 (some 27) 3 (pt N 0) (.int .i64 n), .alt 1 (some 28) (.int .i64 (IntKind.i64.wrap (n + 1))) (.int .i64 (n + 1))] ⟨ld_int (hM.at 0 rfl) 0 rfl, congrArg (Value.int .i64) (IntWalk.i64_in _ (by omega)), trivial⟩ ?_
      refine sF 3 (pt N 0) (.int .i64 (n + 1)) (sto_int (hM.at 0 rfl) (n + 1)) ?_
      replace hM := hM.set 0 (cs' := [.int .i64 (n + 1)]) rfl rfl
      generalize World.setRow _ _ _ = Y9 at *
      refine dF ?_
      try simp only [puts, Tk.put, Act.put, List.setIfInBounds_toArray, List.set_cons_zero, List.set_cons_succ]
      have HC2 := Lib.hid (cellI_of (hM.at 0 rfl))
      go_wp2_with fail
      go_roundw
      case rel =>
        refine ⟨n + 1, ⟨Int.le_trans HN.out.1 (by omega), fun m h1 h2 => ?_⟩, hM⟩
        by_cases e : m = n
        · exact e ▸ HH.out
        · exact HN.out.2 m h1 (by omega)
      case measure =>
        have h1 := HC1.out
        have h2 := HC2.out
        have h3 := HR.out
        have h4 := HN.out.1
        rw [h1, h2]
        omega
    | false =>
      have hh' : (c.po.any fun y => decide (y.fr = (a : Int)) && decide (y.no = n)) = false := hh
      try rw [hh']
      clear hh'
      have HH := Lib.hid hh
      clear hh
      go_upto_region 6 with fail
      refine wp_region_fromM (fun W => Sep w [] [.blk N 3 ([.int .i64 n]), .blk A 3 ([.int .i64 (a : Int)])] W) hM ?_
      clear hM
      rintro Y10 hM
      refine tF 2 [.load 0 (some 29) 3 (pt N 0) (.int .i64 n), .val 1 (some 4) (.int .i64 n)] ⟨ld_int (hM.at 0 rfl) 0 rfl, trivial⟩ ?_
      refine dF ?_
      try simp only [puts, Tk.put, Act.put, List.setIfInBounds_toArray, List.set_cons_zero, List.set_cons_succ]
      go_wp2_with fail
      go_ret
      exact ⟨n, rfl, ⟨HN.out.1, HH.out, HN.out.2⟩, hM.b⟩
set_option maxRecDepth 100000 in
set_option maxHeartbeats 4000000 in
theorem chnNext_no {p : Value} (a : Int) (w : World) (h : NoC w p) : Calls Tryz.prog 22 #[p, .int .i64 a] w fun e W' => e = .returned (.int .i64 0) ∧ Below w.heap.size w W' := by
  have HN := Lib.hid h
  clear h
  have hM := Sep.start w
  go_enter Tryz.func22, Tryz.ntmps22
  go_upto_region 0 with fail
  refine wp_region_fromM (fun W => Sep w [] [] W) hM ?_
  clear hM
  rintro Y1 hM
  refine rF (some 3) (pt Y1.heap.size 0) (Y1.alloc (.cells ([.int .i64 a]).toArray 3)) ?_
  replace hM := hM.alloc 3 ([.int .i64 a])
  generalize World.alloc _ _ = Y2 at *
  generalize hNe : Y1.heap.size = A at *
  clear hNe
  refine tF 2 [.val 1 (some 4) (.int .i64 0)] trivial ?_
  refine dF ?_
  try simp only [puts, Tk.put, Act.put, List.setIfInBounds_toArray, List.set_cons_zero, List.set_cons_succ]
  go_upto_region 1 with fail
  refine wp_region_fromM (fun W => Sep w [] [.blk A 3 ([.int .i64 a])] W) hM ?_
  clear hM
  rintro Y3 hM
  refine tF 1 [.val 0 (some 6) (p)] trivial ?_
  refine cF (some 7) 31 #[p] ((there_no _ (HN.out.below hM.b)).mono ?_)
  rintro e W1 ⟨rfl, rfl⟩
  refine tF 11 [.val 2 (some 8) (.bool true), .val 3 (some 9) (.bool true), .skip 4 (some 10), .skip 5 (some 11), .val 6 (some 12) (.bool true), .val 7 (some 13) (.bool true), .skip 8 (some 14), .skip 9 (some 15), .val 10 (some 16) (.bool true)] trivial ?_
  refine dF ?_
  try simp only [puts, Tk.put, Act.put, List.setIfInBounds_toArray, List.set_cons_zero, List.set_cons_succ]
  go_wp2_with fail
  go_ret
  exact ⟨rfl, hM.b⟩
end Go.Proofs.YtfoemkmoambagaaGreat
namespace Go.Proofs.YtfoemkmoambagaaGreat
open Go.RowKit Go.Shelf
section
variable {ops : Array Oper} {Q : Exit → Act → World → Prop} {md : Region.Mode} {S : World → Prop}
theorem eqD {T : TypeId} (x y : Operand) (z : TypeId) (d : Option Tmp) (xs ys : Array Value) (b : Bool) {m i : Nat} {listed : Array Bool} {a : Act} {w : World} (he : (Op.equalIn 10000 T (.agg xs) (.agg ys)).run Tryz.prog w = .ok b w) (hS : S w) (h : wpAnyH Tryz.prog md ops Q S m (listed.setIfInBounds i true) (a.put d (.bool b)) w)
    (hm : Tryz.prog.eqGuardType Tryz.prog.depth T = false := by kernel_rfl) (hk : (ops[i]?).map (fun o => (Region.wanted o (yielded ops a.tmps), o.dst, o.op)) = some (true, d, .binOp .eql T x y z) := by kernel_rfl) (hx : a.eval x = .agg xs := by kernel_rfl) (hy : a.eval y = .agg ys := by kernel_rfl) : StepH Tryz.prog md ops Q S m listed a w i := by
  obtain ⟨o, _, _, _, hop, hr⟩ := op_at (P := Tryz.prog) hk
  refine stepH_run ((hr w).trans ?_) hS h
  unfold execOp
  simp only [hop, hx, hy, Sem.run_bind, run_eqGuard_agg w .eql T x y _ _ hm, run_eql_struct, he, Result.andThen_ok]
  rfl
theorem unD {T : TypeId} (x y : Operand) (z : TypeId) (d : Option Tmp) (xs ys : Array Value) (b : Bool) {m i : Nat} {listed : Array Bool} {a : Act} {w : World} (he : (Op.equalIn 10000 T (.agg xs) (.agg ys)).run Tryz.prog w = .ok b w) (hS : S w) (h : wpAnyH Tryz.prog md ops Q S m (listed.setIfInBounds i true) (a.put d (.bool (!b))) w)
    (hm : Tryz.prog.eqGuardType Tryz.prog.depth T = false := by kernel_rfl) (hk : (ops[i]?).map (fun o => (Region.wanted o (yielded ops a.tmps), o.dst, o.op)) = some (true, d, .binOp .neq T x y z) := by kernel_rfl) (hx : a.eval x = .agg xs := by kernel_rfl) (hy : a.eval y = .agg ys := by kernel_rfl) : StepH Tryz.prog md ops Q S m listed a w i := by
  obtain ⟨o, _, _, _, hop, hr⟩ := op_at (P := Tryz.prog) hk
  refine stepH_run ((hr w).trans ?_) hS h
  unfold execOp
  simp only [hop, hx, hy, Sem.run_bind, run_eqGuard_agg w .neq T x y _ _ hm, run_neq_struct, he, Result.andThen_ok]
  rfl
end
end Go.Proofs.YtfoemkmoambagaaGreat
namespace Go.Proofs.YtfoemkmoambagaaGreat
open Go.RowKit Go.Shelf
attribute [local irreducible] wpFrom wpAnyH StepH
theorem submit_no {c : Ch} {t : Tr} (h : submitB c t = false) : submitC c t = c := if_neg (by rw [h]; decide)
theorem submit_yes {c : Ch} {t : Tr} (h : submitB c t = true) : submitC c t = { c with po := c.po ++ [t] } := if_pos h
theorem clip_app {W : World} {pa : Option Addr} {pc : Nat} {l : List Tr} (h : RSl (fun t => txc t) 0 W.heap.size W (.slice pa l.length pc) l) (t : Tr) {N : Nat} {T : TypeId} (hN : Blk W N T (txc t)) (hl : l.length ≤ 16384) :
    ∃ v' W', (Builtin.append_ #[37, 37] 37 #[.slice pa l.length l.length, .slice (some ⟨N, 0, none⟩) 1 1]).run Tryz.prog W = .ok v' W' ∧ W'.ownsRow W.heap.size 44 25 v' (l ++ [t]).length (flatR (fun t => txc t) (l ++ [t])) ∧ Below W.heap.size W W' := by
  obtain ⟨i0, hi, hz0, hz1, hz2⟩ := info_parts infoTx
  have hnews : ∀ j u, (txc t)[j]? = some u → W.cell? ((⟨N, 0, none⟩ : Addr).add j) = some u := fun j u hj => by rw [addr_add, Nat.zero_add]; exact (hN.cell j).trans hj
  rw [List.length_append, List.length_singleton, flat_app, flat_one]
  cases pa with
  | some ad =>
    obtain ⟨v', W', h1, h2, hg⟩ := run_append_arg_grows (P := Tryz.prog) W 37 37 44 i0 _ 25 224 Tryz.underlying37 hi hz0 hz1 hz2 rfl (by decide) ad l.length l.length (flatR (fun t => txc t) l) (flat_len txc_25 l) h.cells ⟨N, 0, none⟩ 1 1 (txc t) rfl hnews (by omega) (by unfold maxLen; omega) (by omega)
    exact ⟨v', W', h1, h2, ⟨hg.os, hg.tape, hg.output, hg.size, fun k hk => hg.block k hk (by simp)⟩⟩
  | none =>
    have hl0 : l = [] := by
      obtain ⟨_, _, e', _, _, h0' | ⟨_, _, ha, _⟩⟩ := h
      · exact h0'
      · cases e'; cases ha
    subst hl0
    obtain ⟨v', W', h1, h2, hg, _⟩ := run_append_own (P := Tryz.prog) W W.heap.size 37 37 44 i0 _ 25 224 Tryz.underlying37 hi hz0 hz1 hz2 rfl (by decide) (.slice none 0 0) 0 [] (World.ownsRow_nil _ _ _ _) ⟨N, 0, none⟩ 1 1 (txc t) rfl hnews (fun u hu => txc_one t u hu) (by unfold maxLen; omega) (by omega) (Nat.le_refl _)
    exact ⟨v', W', h1, h2, ⟨hg.os, hg.tape, hg.output, hg.size, fun k hk => hg.block k hk (by simp [Value.ownBlock])⟩⟩
theorem own_shape {α : Type} {f : α → List Value} {e : TypeId} {n : Nat} {v : Value} {l : List α} {W : World} (hn : ∀ x, (f x).length = n) (h : ROk (.own f e n v l) W) : v.oneCell' = true ∧ v.cells.toList = [v] := by
  obtain ⟨a, c, rfl⟩ := h.slice hn
  exact ⟨rfl, rfl⟩
theorem EvL.ptr {W : World} : ∀ {q : Value} {bs : List Nat} {xs : List Ev}, EvL W q bs xs → ∃ p, q = .pointer p
  | _, [], [], h => ⟨none, h⟩
  | _, _ :: _, _ :: _, ⟨_, h1, _, _⟩ => ⟨_, h1⟩
  | _, [], _ :: _, h => h.elim
  | _, _ :: _, [], h => h.elim
set_option maxRecDepth 100000 in
set_option maxHeartbeats 4000000 in
theorem chnSubmit_any {B : Nat} {c : Ch} {v pv q : Value} {bs : List Nat} (t : Tr) (w : World) (h : ROk (.join (CHR B c v pv q bs)) w) (hlen : c.po.length ≤ 128) : Calls Tryz.prog 12 #[.pointer (some ⟨B, 0, none⟩), txv t] w (ChR B (.join (CHR B c v pv q bs)) (submitC c t) (.bool (submitB c t)) w) := by
  have hmx : Tryz.prog.follows .mixedOrders = true := by kernel_rfl
  obtain ⟨pa, pc, rfl⟩ := (ChV.of h).po.slice
  have HL := Lib.hid hlen
  clear hlen
  have hM : Sep w (Res.join (CHR B c v (.slice pa c.po.length pc) q bs)).foot [.blk B 71 (lgc true c.st v (.slice pa c.po.length pc) (c.ev.length : Int) q), .own lkc 91 3 (v) (c.st.lk), .own (fun t => txc t) 44 25 ((.slice pa c.po.length pc)) (c.po), .evs q bs c.ev] w := Sep.begin h
  clear h
  go_enter Tryz.func12, Tryz.ntmps12
  go_upto_region 0 with fail
  refine wp_region_fromM (fun W => Sep w (Res.join (CHR B c v (.slice pa c.po.length pc) q bs)).foot [.blk B 71 (lgc true c.st v (.slice pa c.po.length pc) (c.ev.length : Int) q), .own lkc 91 3 (v) (c.st.lk), .own (fun t => txc t) 44 25 ((.slice pa c.po.length pc)) (c.po), .evs q bs c.ev] W) hM ?_
  clear hM
  rintro Y1 hM
  refine rF (some 3) (pt Y1.heap.size 0) (Y1.alloc (.cells (txc t).toArray 44)) ?_
  replace hM := hM.alloc 44 (txc t)
  generalize World.alloc _ _ = Y2 at *
  generalize hNe : Y1.heap.size = T at *
  clear hNe
  refine tF 2 [.val 1 (some 4) (.bool false)] trivial ?_
  refine dF ?_
  try simp only [puts, Tk.put, Act.put, List.setIfInBounds_toArray, List.set_cons_zero, List.set_cons_succ]
  by_cases hq1 : errT t = 0
  · have HQ1 := Lib.hid hq1
    clear hq1
    by_cases hq2 : ¬ c.po.length < 128
    · have HQ2 := Lib.hid hq2
      clear hq2
      go_upto_region 1 with fail
      refine wp_region_fromM (fun W => Sep w (Res.join (CHR B c v (.slice pa c.po.length pc) q bs)).foot [.blk T 44 (txc t), .blk B 71 (lgc true c.st v (.slice pa c.po.length pc) (c.ev.length : Int) q), .own lkc 91 3 (v) (c.st.lk), .own (fun t => txc t) 44 25 ((.slice pa c.po.length pc)) (c.po), .evs q bs c.ev] W) hM ?_
      clear hM
      rintro Y3 hM
      refine tF 1 [.val 0 (some 5) (pt B 0)] trivial ?_
      refine cF (some 6) 31 #[pt B 0] ((there_yes _ (hM.at 1 rfl)).mono ?_)
      rintro e W1 ⟨rfl, rfl⟩
      refine tF 5 [.val 2 (some 7) (.bool false), .val 3 (some 8) (.bool false), .load 4 (some 9) 44 (pt T 0) (txv t)] ⟨ld_tx (hM.at 0 rfl), trivial⟩ ?_
      refine cF (some 10) 10 #[txv t] ((txsCheck_any t _).mono ?_)
      rintro e W1 ⟨rfl, hb⟩
      replace hM := hM.below hb
      clear hb
      refine tF 13 [.alt 6 (some 11) (.bool (errT t != 0)) (.bool false), .val 7 (some 12) (.bool false), .val 8 (some 13) (.bool false), .val 9 (some 14) (pt B 0), .val 10 (some 15) (pt B 0), .val 11 (some 16) (pt B 152), .load 12 (some 17) 37 (pt B 152) ((.slice pa c.po.length pc))] ⟨congrArg Value.bool (bne_eq_false_iff_eq.2 HQ1.out), ld_chpo (hM.at 1 rfl), trivial⟩ ?_
      refine rF (some 18) (.int .i64 c.po.length) (W1) ?_
      refine tF 16 [.alt 14 (some 19) (.bool (decide (128 ≤ (c.po.length : Int)))) (.bool true), .val 15 (some 20) (.bool true)] ⟨congrArg Value.bool (decide_eq_true (by have := HQ2.out; omega)), trivial⟩ ?_
      refine dF ?_
      try simp only [puts, Tk.put, Act.put, List.setIfInBounds_toArray, List.set_cons_zero, List.set_cons_succ]
      have hM2 : RTurn (.join (CHR B c v (.slice pa c.po.length pc) q bs)) (.join (CHR B c v (.slice pa c.po.length pc) q bs)) _ _ := Sep.fin (hM.pick [1, 2, 3, 4] (by decide) rfl) (List.Sublist.refl _)
      clear hM
      go_wp2_with fail
      go_ret
      have HS : submitB c t = false := by
        unfold submitB
        rw [decide_eq_false (show ¬ c.po.length < 128 by have := HQ2.out; omega), Bool.false_and, Bool.and_false]
      exact ⟨by rw [HS]; rfl, v, .slice pa c.po.length pc, q, bs, by rw [submit_no HS]; exact hM2⟩
    · have HQ2 := Lib.hid hq2
      clear hq2
      go_upto_region 1 with fail
      refine wp_region_fromM (fun W => Sep w (Res.join (CHR B c v (.slice pa c.po.length pc) q bs)).foot [.blk T 44 (txc t), .blk B 71 (lgc true c.st v (.slice pa c.po.length pc) (c.ev.length : Int) q), .own lkc 91 3 (v) (c.st.lk), .own (fun t => txc t) 44 25 ((.slice pa c.po.length pc)) (c.po), .evs q bs c.ev] W) hM ?_
      clear hM
      rintro Y4 hM
      refine tF 1 [.val 0 (some 5) (pt B 0)] trivial ?_
      refine cF (some 6) 31 #[pt B 0] ((there_yes _ (hM.at 1 rfl)).mono ?_)
      rintro e W1 ⟨rfl, rfl⟩
      refine tF 5 [.val 2 (some 7) (.bool false), .val 3 (some 8) (.bool false), .load 4 (some 9) 44 (pt T 0) (txv t)] ⟨ld_tx (hM.at 0 rfl), trivial⟩ ?_
      refine cF (some 10) 10 #[txv t] ((txsCheck_any t _).mono ?_)
      rintro e W1 ⟨rfl, hb⟩
      replace hM := hM.below hb
      clear hb
      refine tF 13 [.alt 6 (some 11) (.bool (errT t != 0)) (.bool false), .val 7 (some 12) (.bool false), .val 8 (some 13) (.bool false), .val 9 (some 14) (pt B 0), .val 10 (some 15) (pt B 0), .val 11 (some 16) (pt B 152), .load 12 (some 17) 37 (pt B 152) ((.slice pa c.po.length pc))] ⟨congrArg Value.bool (bne_eq_false_iff_eq.2 HQ1.out), ld_chpo (hM.at 1 rfl), trivial⟩ ?_
      refine rF (some 18) (.int .i64 c.po.length) (W1) ?_
      refine tF 16 [.alt 14 (some 19) (.bool (decide (128 ≤ (c.po.length : Int)))) (.bool false), .val 15 (some 20) (.bool false)] ⟨congrArg Value.bool (decide_eq_false (by have := HQ2.out; omega)), trivial⟩ ?_
      refine dF ?_
      try simp only [puts, Tk.put, Act.put, List.setIfInBounds_toArray, List.set_cons_zero, List.set_cons_succ]
      go_upto_region 3 with fail
      refine wp_region_fromM (fun W => Sep w (Res.join (CHR B c v (.slice pa c.po.length pc) q bs)).foot [.blk T 44 (txc t), .blk B 71 (lgc true c.st v (.slice pa c.po.length pc) (c.ev.length : Int) q), .own lkc 91 3 (v) (c.st.lk), .own (fun t => txc t) 44 25 ((.slice pa c.po.length pc)) (c.po), .evs q bs c.ev] W) hM ?_
      clear hM
      rintro Y5 hM
      refine tF 2 [.val 0 (some 21) (pt B 0), .val 1 (some 22) (.func (.func 33) #[] #[pt T 0])] trivial ?_
      refine cF (some 23) 32 #[pt B 0, .func (.func 33) #[] #[pt T 0]] ((same1_some t _ (show ChV _ B c v (.slice pa c.po.length pc) q bs from ⟨hM.at 1 rfl, (hM.oka 2 rfl).rsl lkc_len, (hM.oka 3 rfl).rsl txc_25, (hM.oka 4 rfl).h⟩) (hM.at 0 rfl)).mono ?_)
      rintro e W1 ⟨rfl, hb⟩
      replace hM := hM.below hb
      clear hb
      refine dF ?_
      try simp only [puts, Tk.put, Act.put, List.setIfInBounds_toArray, List.set_cons_zero, List.set_cons_succ]
      cases hb : c.po.any fun y => eqT y t with
      | true =>
        have HB := Lib.hid hb
        clear hb
        have hM2 : RTurn (.join (CHR B c v (.slice pa c.po.length pc) q bs)) (.join (CHR B c v (.slice pa c.po.length pc) q bs)) _ _ := Sep.fin (hM.pick [1, 2, 3, 4] (by decide) rfl) (List.Sublist.refl _)
        clear hM
        go_wp2_with fail
        go_ret
        have HS : submitB c t = false := by
          unfold submitB
          rw [HB.out, Bool.not_true, Bool.and_false, Bool.and_false]
        exact ⟨by rw [HS]; rfl, v, .slice pa c.po.length pc, q, bs, by rw [submit_no HS]; exact hM2⟩
      | false =>
        have HB := Lib.hid hb
        clear hb
        go_upto_region 5 with fail
        refine wp_region_M (fun W => Sep w (Res.join (CHR B c v (.slice pa c.po.length pc) q bs)).foot [.blk T 44 (txc t)] W) (fun W => Sep w (Res.join (CHR B c v (.slice pa c.po.length pc) q bs)).foot [.blk T 44 (txc t), .blk B 71 (lgc true c.st v (.slice pa c.po.length pc) (c.ev.length : Int) q), .own lkc 91 3 (v) (c.st.lk), .own (fun t => txc t) 44 25 ((.slice pa c.po.length pc)) (c.po), .evs q bs c.ev] W) hmx hM.drew ?_
        clear hM
        rintro Y6 hM
        have hS := hM.sub (.cons_cons _ (.cons _ (.cons _ (.cons _ (.cons _ .slnil)))))
        refine tD 7 [.val 0 (some 24) (pt B 0), .val 1 (some 25) (pt B 0), .val 2 (some 26) (pt B 0), .val 3 (some 27) (pt B 152), .load 6 (some 30) 44 (pt T 0) (txv t)] ⟨fun W h => ld_tx (h.at 0 rfl), trivial⟩ hS ?_
        refine oT 4 7 6 ?_ ?_
        · refine lD (some 28) 37 (pt B 152) ((.slice pa c.po.length pc)) (ld_chpo (hM.at 1 rfl)) (hS) ?_
          refine oT 5 7 5 ?_ ?_
          · refine cD (some 29) 35 #[(.slice pa c.po.length pc)] ((clip_any _ ((hM.oka 3 rfl).rsl txc_25)).mono ?_)
            rintro e W2 ⟨rfl, rfl⟩
            refine And.intro (hS) ?_
            refine oD 7 4 (rD (some 31) (.slice (some ⟨W2.heap.size, 0, none⟩) 1 1) (W2.alloc (.cells (txc t).toArray 44)) (hS.other _) ?_)
            replace hS := hS.other (.cells (txc t).toArray 44)
            replace hM := hM.alloc 44 (txc t)
            generalize World.alloc _ _ = Y7 at *
            generalize hNe : W2.heap.size = N at *
            clear hNe
            obtain ⟨v', Z, hrun, hO, hb⟩ := clip_app ((hM.oka 4 rfl).rsl txc_25) t (hM.at 0 rfl) (by have := HL.out; omega)
            refine oD 8 3 (stepH_append (d := some 32) (t := 37) (t' := 37) (ty := 37) (v := .slice pa c.po.length c.po.length) (x := .slice (some ⟨N, 0, none⟩) 1 1) (by kernel_rfl) hrun (hS.below hb) ?_)
            replace hS := hS.below hb
            replace hM := hM.row hO hb
            clear hO hb hrun
            have hv1 := own_shape txc_25 (hM.oka 0 rfl)
            refine tD 1 [.val 9 (some 33) (pt B 0), .val 10 (some 34) (pt B 152)] trivial hS ?_
            have hM1 := hM.set 3 (cs' := lgc true c.st v v' (c.ev.length : Int) q) rfl rfl
            refine oD 11 0 (sD 37 (pt B 152) (v') (sto_chpo (hM.at 3 rfl) hv1.1 hv1.2) (hM1.sub (.cons _ (.cons _ (.cons_cons _ (.cons _ (.cons _ (.cons _ (.cons _ .slnil)))))))) ?_)
            replace hS := hM1.sub (.cons _ (.cons _ (.cons_cons _ (.cons _ (.cons _ (.cons _ (.cons _ .slnil)))))))
            replace hM := hM1
            clear hM1
            generalize World.setRow _ _ _ = Y8 at *
            refine dD ?_
            try simp only [puts, Tk.put, Act.put, List.setIfInBounds_toArray, List.set_cons_zero, List.set_cons_succ]
            clear hS
            have HS : submitB c t = true := by
              unfold submitB
              rw [HB.out, decide_eq_true HQ1.out, decide_eq_true (show c.po.length < 128 by have := HQ2.out; omega)]
              rfl
            have hM2 : RTurn (.join (CHR B c v (.slice pa c.po.length pc) q bs)) (.join (CHR B { c with po := c.po ++ [t] } v v' q bs)) _ _ := Sep.fin (hM.pick [3, 4, 0, 6] (by decide) rfl) (List.Sublist.refl _)
            clear hM
            go_wp2_with fail
            go_ret
            exact ⟨by rw [HS]; rfl, v, v', q, bs, by rw [submit_yes HS]; exact hM2⟩
          · refine rD (some 31) (.slice (some ⟨Y6.heap.size, 0, none⟩) 1 1) (Y6.alloc (.cells (txc t).toArray 44)) (hS.other _) ?_
            replace hS := hS.other (.cells (txc t).toArray 44)
            replace hM := hM.alloc 44 (txc t)
            generalize World.alloc _ _ = Y9 at *
            generalize hNe : Y6.heap.size = N at *
            clear hNe
            refine oD 5 4 (cD (some 29) 35 #[(.slice pa c.po.length pc)] ((clip_any _ ((hM.oka 4 rfl).rsl txc_25)).mono ?_))
            rintro e W2 ⟨rfl, rfl⟩
            refine And.intro (hS) ?_
            obtain ⟨v', Z, hrun, hO, hb⟩ := clip_app ((hM.oka 4 rfl).rsl txc_25) t (hM.at 0 rfl) (by have := HL.out; omega)
            refine oD 8 3 (stepH_append (d := some 32) (t := 37) (t' := 37) (ty := 37) (v := .slice pa c.po.length c.po.length) (x := .slice (some ⟨N, 0, none⟩) 1 1) (by kernel_rfl) hrun (hS.below hb) ?_)
            replace hS := hS.below hb
            replace hM := hM.row hO hb
            clear hO hb hrun
            have hv1 := own_shape txc_25 (hM.oka 0 rfl)
            refine tD 1 [.val 9 (some 33) (pt B 0), .val 10 (some 34) (pt B 152)] trivial hS ?_
            have hM1 := hM.set 3 (cs' := lgc true c.st v v' (c.ev.length : Int) q) rfl rfl
            refine oD 11 0 (sD 37 (pt B 152) (v') (sto_chpo (hM.at 3 rfl) hv1.1 hv1.2) (hM1.sub (.cons _ (.cons _ (.cons_cons _ (.cons _ (.cons _ (.cons _ (.cons _ .slnil)))))))) ?_)
            replace hS := hM1.sub (.cons _ (.cons _ (.cons_cons _ (.cons _ (.cons _ (.cons _ (.cons _ .slnil)))))))
            replace hM := hM1
            clear hM1
            generalize World.setRow _ _ _ = Y10 at *
            refine dD ?_
            try simp only [puts, Tk.put, Act.put, List.setIfInBounds_toArray, List.set_cons_zero, List.set_cons_succ]
            clear hS
            have HS : submitB c t = true := by
              unfold submitB
              rw [HB.out, decide_eq_true HQ1.out, decide_eq_true (show c.po.length < 128 by have := HQ2.out; omega)]
              rfl
            have hM2 : RTurn (.join (CHR B c v (.slice pa c.po.length pc) q bs)) (.join (CHR B { c with po := c.po ++ [t] } v v' q bs)) _ _ := Sep.fin (hM.pick [3, 4, 0, 6] (by decide) rfl) (List.Sublist.refl _)
            clear hM
            go_wp2_with fail
            go_ret
            exact ⟨by rw [HS]; rfl, v, v', q, bs, by rw [submit_yes HS]; exact hM2⟩
        · refine rD (some 31) (.slice (some ⟨Y6.heap.size, 0, none⟩) 1 1) (Y6.alloc (.cells (txc t).toArray 44)) (hS.other _) ?_
          replace hS := hS.other (.cells (txc t).toArray 44)
          replace hM := hM.alloc 44 (txc t)
          generalize World.alloc _ _ = Y11 at *
          generalize hNe : Y6.heap.size = N at *
          clear hNe
          refine oD 4 5 (lD (some 28) 37 (pt B 152) ((.slice pa c.po.length pc)) (ld_chpo (hM.at 2 rfl)) (hS) ?_)
          refine oD 5 4 (cD (some 29) 35 #[(.slice pa c.po.length pc)] ((clip_any _ ((hM.oka 4 rfl).rsl txc_25)).mono ?_))
          rintro e W2 ⟨rfl, rfl⟩
          refine And.intro (hS) ?_
          obtain ⟨v', Z, hrun, hO, hb⟩ := clip_app ((hM.oka 4 rfl).rsl txc_25) t (hM.at 0 rfl) (by have := HL.out; omega)
          refine oD 8 3 (stepH_append (d := some 32) (t := 37) (t' := 37) (ty := 37) (v := .slice pa c.po.length c.po.length) (x := .slice (some ⟨N, 0, none⟩) 1 1) (by kernel_rfl) hrun (hS.below hb) ?_)
          replace hS := hS.below hb
          replace hM := hM.row hO hb
          clear hO hb hrun
          have hv1 := own_shape txc_25 (hM.oka 0 rfl)
          refine tD 1 [.val 9 (some 33) (pt B 0), .val 10 (some 34) (pt B 152)] trivial hS ?_
          have hM1 := hM.set 3 (cs' := lgc true c.st v v' (c.ev.length : Int) q) rfl rfl
          refine oD 11 0 (sD 37 (pt B 152) (v') (sto_chpo (hM.at 3 rfl) hv1.1 hv1.2) (hM1.sub (.cons _ (.cons _ (.cons_cons _ (.cons _ (.cons _ (.cons _ (.cons _ .slnil)))))))) ?_)
          replace hS := hM1.sub (.cons _ (.cons _ (.cons_cons _ (.cons _ (.cons _ (.cons _ (.cons _ .slnil)))))))
          replace hM := hM1
          clear hM1
          generalize World.setRow _ _ _ = Y12 at *
          refine dD ?_
          try simp only [puts, Tk.put, Act.put, List.setIfInBounds_toArray, List.set_cons_zero, List.set_cons_succ]
          clear hS
          have HS : submitB c t = true := by
            unfold submitB
            rw [HB.out, decide_eq_true HQ1.out, decide_eq_true (show c.po.length < 128 by have := HQ2.out; omega)]
            rfl
          have hM2 : RTurn (.join (CHR B c v (.slice pa c.po.length pc) q bs)) (.join (CHR B { c with po := c.po ++ [t] } v v' q bs)) _ _ := Sep.fin (hM.pick [3, 4, 0, 6] (by decide) rfl) (List.Sublist.refl _)
          clear hM
          go_wp2_with fail
          go_ret
          exact ⟨by rw [HS]; rfl, v, v', q, bs, by rw [submit_yes HS]; exact hM2⟩
  · have HQ1 := Lib.hid hq1
    clear hq1
    go_upto_region 1 with fail
    refine wp_region_fromM (fun W => Sep w (Res.join (CHR B c v (.slice pa c.po.length pc) q bs)).foot [.blk T 44 (txc t), .blk B 71 (lgc true c.st v (.slice pa c.po.length pc) (c.ev.length : Int) q), .own lkc 91 3 (v) (c.st.lk), .own (fun t => txc t) 44 25 ((.slice pa c.po.length pc)) (c.po), .evs q bs c.ev] W) hM ?_
    clear hM
    rintro Y13 hM
    refine tF 1 [.val 0 (some 5) (pt B 0)] trivial ?_
    refine cF (some 6) 31 #[pt B 0] ((there_yes _ (hM.at 1 rfl)).mono ?_)
    rintro e W1 ⟨rfl, rfl⟩
    refine tF 5 [.val 2 (some 7) (.bool false), .val 3 (some 8) (.bool false), .load 4 (some 9) 44 (pt T 0) (txv t)] ⟨ld_tx (hM.at 0 rfl), trivial⟩ ?_
    refine cF (some 10) 10 #[txv t] ((txsCheck_any t _).mono ?_)
    rintro e W1 ⟨rfl, hb⟩
    replace hM := hM.below hb
    clear hb
    refine tF 13 [.alt 6 (some 11) (.bool (errT t != 0)) (.bool true), .val 7 (some 12) (.bool true), .val 8 (some 13) (.bool true), .skip 9 (some 14), .skip 10 (some 15), .skip 11 (some 16), .skip 12 (some 17)] ⟨congrArg Value.bool (bne_iff_ne.2 HQ1.out), trivial⟩ ?_
    refine wpFrom_not (d := some 18) (by kernel_rfl) ?_
    refine tF 16 [.skip 14 (some 19), .val 15 (some 20) (.bool true)] trivial ?_
    refine dF ?_
    try simp only [puts, Tk.put, Act.put, List.setIfInBounds_toArray, List.set_cons_zero, List.set_cons_succ]
    have hM2 : RTurn (.join (CHR B c v (.slice pa c.po.length pc) q bs)) (.join (CHR B c v (.slice pa c.po.length pc) q bs)) _ _ := Sep.fin (hM.pick [1, 2, 3, 4] (by decide) rfl) (List.Sublist.refl _)
    clear hM
    go_wp2_with fail
    go_ret
    have HS : submitB c t = false := by
      unfold submitB
      rw [decide_eq_false HQ1.out, Bool.false_and]
    exact ⟨by rw [HS]; rfl, v, .slice pa c.po.length pc, q, bs, by rw [submit_no HS]; exact hM2⟩
set_option maxRecDepth 100000 in
set_option maxHeartbeats 4000000 in
theorem chnSubmit_no {p : Value} (t : Tr) (w : World) (h : NoC w p) : Calls Tryz.prog 12 #[p, txv t] w fun e W' => e = .returned (.bool false) ∧ Below w.heap.size w W' := by
  have HN := Lib.hid h
  clear h
  have hM := Sep.start w
  go_enter Tryz.func12, Tryz.ntmps12
  go_upto_region 0 with fail
  refine wp_region_fromM (fun W => Sep w [] [] W) hM ?_
  clear hM
  rintro Y1 hM
  refine rF (some 3) (pt Y1.heap.size 0) (Y1.alloc (.cells (txc t).toArray 44)) ?_
  replace hM := hM.alloc 44 (txc t)
  generalize World.alloc _ _ = Y2 at *
  generalize hNe : Y1.heap.size = T at *
  clear hNe
  refine tF 2 [.val 1 (some 4) (.bool false)] trivial ?_
  refine dF ?_
  try simp only [puts, Tk.put, Act.put, List.setIfInBounds_toArray, List.set_cons_zero, List.set_cons_succ]
  go_upto_region 1 with fail
  refine wp_region_fromM (fun W => Sep w [] [.blk T 44 (txc t)] W) hM ?_
  clear hM
  rintro Y3 hM
  refine tF 1 [.val 0 (some 5) (p)] trivial ?_
  refine cF (some 6) 31 #[p] ((there_no _ (HN.out.below hM.b)).mono ?_)
  rintro e W1 ⟨rfl, rfl⟩
  refine tF 5 [.val 2 (some 7) (.bool true), .val 3 (some 8) (.bool true), .skip 4 (some 9)] trivial ?_
  refine wpFrom_not (d := some 10) (by kernel_rfl) ?_
  refine tF 13 [.skip 6 (some 11), .val 7 (some 12) (.bool true), .val 8 (some 13) (.bool true), .skip 9 (some 14), .skip 10 (some 15), .skip 11 (some 16), .skip 12 (some 17)] trivial ?_
  refine wpFrom_not (d := some 18) (by kernel_rfl) ?_
  refine tF 16 [.skip 14 (some 19), .val 15 (some 20) (.bool true)] trivial ?_
  refine dF ?_
  try simp only [puts, Tk.put, Act.put, List.setIfInBounds_toArray, List.set_cons_zero, List.set_cons_succ]
  go_wp2_with fail
  go_ret
  exact ⟨rfl, hM.b⟩
end Go.Proofs.YtfoemkmoambagaaGreat
namespace Go.Proofs.YtfoemkmoambagaaGreat
open Go.RowKit Go.Shelf
attribute [local irreducible] wpFrom wpAnyH StepH
theorem incl_none {c : Ch} (i : Int) (h : c.po = []) : inclC c i = (c, false) := by
  unfold inclC
  rw [h]
  rfl
theorem incl_of {c : Ch} {i : Int} {t : Tr} {S : Es} {E : Int} {b : Bool} (hp : c.po[atC i c.po.length]? = some t) (h : applyP c.st t = (S, E, b)) : inclC c i = if b = true then (⟨S, c.po.eraseIdx (atC i c.po.length), c.ev ++ [⟨S.tm, E, t⟩]⟩, true) else (c, false) := by
  unfold inclC
  rw [hp]
  dsimp only
  unfold tookC
  rw [h]
theorem two_cells {W : World} {G : Nat} {T : TypeId} {u1 u2 : Value} {l1 l2 : List Tr} (h : Blk W G T [u1, u2]) : ∀ (k : Nat) (x : Value × List Tr), [(u1, l1), (u2, l2)][k]? = some x → W.cell? ⟨G, 0 + k, none⟩ = some x.1 := by
  intro k x hx
  rw [Nat.zero_add, h.cell k]
  match k, hx with
  | 0, hx => cases hx; rfl
  | 1, hx => cases hx; rfl
theorem two_rows {W : World} {u1 u2 : Value} {l1 l2 : List Tr} (h1 : RSl (fun t => txc t) 0 W.heap.size W u1 l1) (h2 : RSl (fun t => txc t) 0 W.heap.size W u2 l2) : ∀ (k : Nat) (x : Value × List Tr), [(u1, l1), (u2, l2)][k]? = some x → RSl (fun t => txc t) 0 W.heap.size W x.1 x.2 := by
  intro k x hx
  match k, hx with
  | 0, hx => cases hx; exact h1
  | 1, hx => cases hx; exact h2
theorem cat_two (u1 u2 : Value) (l : List Tr) (k : Nat) : catTx [(u1, l.take k), (u2, l.drop (k + 1))] = l.eraseIdx k := by
  unfold catTx
  rw [List.eraseIdx_eq_take_drop_succ]
  simp
theorem sto_txB {W : World} {B : Nat} {T : TypeId} {t : Tr} (h : Blk W B T (txc t)) (x : Tr) : (Instr.storeAt 44 (.pointer (some ⟨B, 0, none⟩)) (txv x)).run Tryz.prog W = .ok () (W.setRow B (txc x).toArray) :=
  sto_part _ h 0 _ _ (txc x) rfl (by kernel_rfl) (by simp) (List.all_eq_true.2 (txc_one x)) rfl
set_option maxRecDepth 100000 in
set_option maxHeartbeats 4000000 in
theorem chnInclude_any {B : Nat} {c : Ch} {v pv q : Value} {bs : List Nat} (i : Int) (w : World) (h : ROk (.join (CHR B c v pv q bs)) w) (hst : OkE c.st) (htx : ∀ t ∈ c.po, OkT t ∧ errT t = 0) (hlen : c.po.length ≤ 128) (hlk : c.st.lk.length ≤ 1000000) (hev : c.ev.length ≤ 1000000) : Calls Tryz.prog 14 #[.pointer (some ⟨B, 0, none⟩), .int .i64 i] w (ChR B (.join (CHR B c v pv q bs)) (inclC c i).1 (.bool (inclC c i).2) w) := by
  have hmx : Tryz.prog.follows .mixedOrders = true := by kernel_rfl
  obtain ⟨pa, pc, rfl⟩ := (ChV.of h).po.slice
  obtain ⟨qp, rfl⟩ := (ChV.of h).ev.ptr
  have HL := Lib.hid hlen
  have HS := Lib.hid hst
  have HTX := Lib.hid htx
  have HLK := Lib.hid hlk
  have HEV := Lib.hid hev
  clear hlen hst htx hlk hev
  have hM : Sep w (Res.join (CHR B c v (.slice pa c.po.length pc) (Value.pointer qp) bs)).foot [.blk B 71 (lgc true c.st v (.slice pa c.po.length pc) (c.ev.length : Int) (Value.pointer qp)), .own lkc 91 3 (v) (c.st.lk), .own (fun t => txc t) 44 25 ((.slice pa c.po.length pc)) (c.po), .evs (Value.pointer qp) bs c.ev] w := Sep.begin h
  clear h
  go_enter Tryz.func14, Tryz.ntmps14
  by_cases hq1 : c.po.length = 0
  · have HQ1 := Lib.hid hq1
    clear hq1
    go_upto_region 1 with fail
    refine wp_region_fromM (fun W => Sep w (Res.join (CHR B c v (.slice pa c.po.length pc) (Value.pointer qp) bs)).foot [.blk B 71 (lgc true c.st v (.slice pa c.po.length pc) (c.ev.length : Int) (Value.pointer qp)), .own lkc 91 3 (v) (c.st.lk), .own (fun t => txc t) 44 25 ((.slice pa c.po.length pc)) (c.po), .evs (Value.pointer qp) bs c.ev] W) hM ?_
    clear hM
    rintro Y1 hM
    refine tF 1 [.val 0 (some 10) (pt B 0)] trivial ?_
    refine cF (some 11) 31 #[pt B 0] ((there_yes _ (hM.at 0 rfl)).mono ?_)
    rintro e W1 ⟨rfl, rfl⟩
    refine tF 8 [.val 2 (some 12) (.bool false), .val 3 (some 13) (.bool false), .val 4 (some 14) (pt B 0), .val 5 (some 15) (pt B 0), .val 6 (some 16) (pt B 152), .load 7 (some 17) 37 (pt B 152) ((.slice pa c.po.length pc))] ⟨ld_chpo (hM.at 0 rfl), trivial⟩ ?_
    refine rF (some 18) (.int .i64 c.po.length) (W1) ?_
    refine tF 11 [.alt 9 (some 19) (.bool ((c.po.length : Int) == 0)) (.bool true), .val 10 (some 20) (.bool true)] ⟨congrArg Value.bool (beq_iff_eq.2 (by have := HQ1.out; omega)), trivial⟩ ?_
    refine dF ?_
    try simp only [puts, Tk.put, Act.put, List.setIfInBounds_toArray, List.set_cons_zero, List.set_cons_succ]
    have hM2 : RTurn (.join (CHR B c v (.slice pa c.po.length pc) (Value.pointer qp) bs)) (.join (CHR B c v (.slice pa c.po.length pc) (Value.pointer qp) bs)) _ _ := Sep.fin (hM.pick [0, 1, 2, 3] (by decide) rfl) (List.Sublist.refl _)
    clear hM
    go_wp2_with fail
    go_ret
    have HI : inclC c i = (c, false) := incl_none i (List.eq_nil_of_length_eq_zero HQ1.out)
    exact ⟨by rw [HI]; rfl, v, (.slice pa c.po.length pc), (Value.pointer qp), bs, by rw [HI]; exact hM2⟩
  · have HQ1 := Lib.hid hq1
    clear hq1
    go_upto_region 1 with fail
    refine wp_region_fromM (fun W => Sep w (Res.join (CHR B c v (.slice pa c.po.length pc) (Value.pointer qp) bs)).foot [.blk B 71 (lgc true c.st v (.slice pa c.po.length pc) (c.ev.length : Int) (Value.pointer qp)), .own lkc 91 3 (v) (c.st.lk), .own (fun t => txc t) 44 25 ((.slice pa c.po.length pc)) (c.po), .evs (Value.pointer qp) bs c.ev] W) hM ?_
    clear hM
    rintro Y2 hM
    refine tF 1 [.val 0 (some 10) (pt B 0)] trivial ?_
    refine cF (some 11) 31 #[pt B 0] ((there_yes _ (hM.at 0 rfl)).mono ?_)
    rintro e W1 ⟨rfl, rfl⟩
    refine tF 8 [.val 2 (some 12) (.bool false), .val 3 (some 13) (.bool false), .val 4 (some 14) (pt B 0), .val 5 (some 15) (pt B 0), .val 6 (some 16) (pt B 152), .load 7 (some 17) 37 (pt B 152) ((.slice pa c.po.length pc))] ⟨ld_chpo (hM.at 0 rfl), trivial⟩ ?_
    refine rF (some 18) (.int .i64 c.po.length) (W1) ?_
    refine tF 11 [.alt 9 (some 19) (.bool ((c.po.length : Int) == 0)) (.bool false), .val 10 (some 20) (.bool false)] ⟨congrArg Value.bool (beq_eq_false_iff_ne.2 (by have := HQ1.out; omega)), trivial⟩ ?_
    refine dF ?_
    try simp only [puts, Tk.put, Act.put, List.setIfInBounds_toArray, List.set_cons_zero, List.set_cons_succ]
    have hk0 := atC_lt i (Nat.pos_of_ne_zero HQ1.out)
    obtain ⟨t, ht⟩ : ∃ t, c.po[atC i c.po.length]? = some t := ⟨_, List.getElem?_eq_getElem hk0⟩
    obtain ⟨ht1, ht2⟩ := HTX.out t (List.mem_of_getElem? ht)
    obtain ⟨S, E, b, hA, hAE, hS1, _, hlkE⟩ := app_any HS.out t
    have HIC := Lib.hid (incl_of ht ((apply_eq HS.out t).trans hA))
    generalize hk : atC i c.po.length = k at *
    have HKK := Lib.hid hk
    have HK := Lib.hid hk0
    have HT := Lib.hid ht
    have HT1 := Lib.hid ht1
    have HAE := Lib.hid hAE
    obtain ⟨bo, oo, hio, hco⟩ := (hM.oka 2 rfl).elem txc_25 ht Tryz.underlying37 (fun W => by kernel_rfl)
    have HIO := Lib.hid hio
    have HCO := Lib.hid hco
    obtain ⟨vlo, hvlo, hrlo⟩ := ((hM.oka 2 rfl).rsl txc_25).low (n := 25) (k := k) (by omega) Tryz.underlying37 elemTx (fun W => by kernel_rfl)
    obtain ⟨vhi, hvhi, hrhi⟩ := ((hM.oka 2 rfl).rsl txc_25).high (n := 25) txc_25 (k := k + 1) (by omega) Tryz.underlying37 elemTx (fun W => by kernel_rfl)
    obtain ⟨a1, c1, rfl⟩ := hrlo.slice
    obtain ⟨a2, c2, rfl⟩ := hrhi.slice
    have HVLO := Lib.hid hvlo
    have HVHI := Lib.hid hvhi
    clear hrlo hrhi hvlo hvhi hk hk0 ht ht1 hAE hio hco hA
    go_upto_region 3 with fail
    refine wp_region_fromM (fun W => Sep w (Res.join (CHR B c v (.slice pa c.po.length pc) (Value.pointer qp) bs)).foot [.blk B 71 (lgc true c.st v (.slice pa c.po.length pc) (c.ev.length : Int) (Value.pointer qp)), .own lkc 91 3 (v) (c.st.lk), .own (fun t => txc t) 44 25 ((.slice pa c.po.length pc)) (c.po), .evs (Value.pointer qp) bs c.ev] W) hM ?_
    clear hM
    rintro Y3 hM
    refine tF 5 [.val 0 (some 21) (.int .i64 i), .val 1 (some 22) (pt B 0), .val 2 (some 23) (pt B 0), .val 3 (some 24) (pt B 152), .load 4 (some 25) 37 (pt B 152) ((.slice pa c.po.length pc))] ⟨ld_chpo (hM.at 0 rfl), trivial⟩ ?_
    refine rF (some 26) (.int .i64 c.po.length) (Y3) ?_
    refine cF (some 27) 41 #[.int .i64 i, .int .i64 c.po.length] ((mod_any i c.po.length (Nat.pos_of_ne_zero HQ1.out) (by have := HL.out; omega) _).mono ?_)
    rintro e W1 ⟨rfl, rfl⟩
    rw [HKK.out]
    refine tF 8 [.val 7 (some 5) (.int .i64 (k : Int))] trivial ?_
    refine dF ?_
    try simp only [puts, Tk.put, Act.put, List.setIfInBounds_toArray, List.set_cons_zero, List.set_cons_succ]
    go_upto_region 4 with fail
    refine wp_region_fromM (fun W => Sep w (Res.join (CHR B c v (.slice pa c.po.length pc) (Value.pointer qp) bs)).foot [.blk B 71 (lgc true c.st v (.slice pa c.po.length pc) (c.ev.length : Int) (Value.pointer qp)), .own lkc 91 3 (v) (c.st.lk), .own (fun t => txc t) 44 25 ((.slice pa c.po.length pc)) (c.po), .evs (Value.pointer qp) bs c.ev] W) hM ?_
    clear hM
    rintro Y4 hM
    refine tF 7 [.val 0 (some 28) (pt B 0), .val 1 (some 29) (pt B 0), .val 2 (some 30) (pt B 152), .load 3 (some 31) 37 (pt B 152) ((.slice pa c.po.length pc)), .val 4 (some 32) (.int .i64 (k : Int)), .idx 5 (some 33) 37 ((.slice pa c.po.length pc)) (.int .i64 (k : Int)) (pt bo oo), .load 6 (some 34) 44 (pt bo oo) (txv t)] ⟨ld_chpo (hM.at 0 rfl), HIO.out _, ld_txS (HCO.out _ (hM.oka 2 rfl)), trivial⟩ ?_
    refine rF (some 6) (pt Y4.heap.size 0) (Y4.alloc (.cells (txc noT).toArray 44)) ?_
    replace hM := hM.alloc 44 (txc noT)
    generalize World.alloc _ _ = Y5 at *
    generalize hNe : Y4.heap.size = X at *
    clear hNe
    refine sF 44 (pt X 0) (txv t) (sto_txB (hM.at 0 rfl) t) ?_
    replace hM := hM.set 0 (cs' := txc t) rfl rfl
    generalize World.setRow _ _ _ = Y6 at *
    refine dF ?_
    try simp only [puts, Tk.put, Act.put, List.setIfInBounds_toArray, List.set_cons_zero, List.set_cons_succ]
    go_upto_region 5 with fail
    go_cut [7, 8, 9] (fun p e2 b2 wc => ∃ (N : Nat) (v1 : Value), p = .pointer (some ⟨N, 0, none⟩) ∧ e2 = .int .i64 E ∧ b2 = .bool b ∧ Sep w (Res.join (CHR B c v (.slice pa c.po.length pc) (Value.pointer qp) bs)).foot [.blk N 35 (stc S v1), .own lkc 91 3 (v1) (S.lk), .blk X 44 (txc t), .blk B 71 (lgc true c.st v (.slice pa c.po.length pc) (c.ev.length : Int) (Value.pointer qp)), .own lkc 91 3 (v) (c.st.lk), .own (fun t => txc t) 44 25 ((.slice pa c.po.length pc)) (c.po), .evs (Value.pointer qp) bs c.ev] wc)
    case first =>
      refine wp_region_M (fun W => Sep w (Res.join (CHR B c v (.slice pa c.po.length pc) (Value.pointer qp) bs)).foot [.blk X 44 (txc t), .blk B 71 (lgc true c.st v (.slice pa c.po.length pc) (c.ev.length : Int) (Value.pointer qp)), .own lkc 91 3 (v) (c.st.lk), .own (fun t => txc t) 44 25 ((.slice pa c.po.length pc)) (c.po), .evs (Value.pointer qp) bs c.ev] W) (fun W => Sep w (Res.join (CHR B c v (.slice pa c.po.length pc) (Value.pointer qp) bs)).foot [.blk X 44 (txc t), .blk B 71 (lgc true c.st v (.slice pa c.po.length pc) (c.ev.length : Int) (Value.pointer qp)), .own lkc 91 3 (v) (c.st.lk), .own (fun t => txc t) 44 25 ((.slice pa c.po.length pc)) (c.po), .evs (Value.pointer qp) bs c.ev] W) hmx hM.drew ?_
      clear hM
      rintro Y7 hM
      have hS := hM.sub (.cons_cons _ (.cons_cons _ (.cons_cons _ (.cons_cons _ (.cons_cons _ .slnil)))))
      refine tD 9 [.val 0 (some 36) (pt B 0), .val 1 (some 37) (pt B 0), .val 2 (some 38) (pt B 1), .load 3 (some 39) 35 (pt B 1) (stv c.st v), .load 4 (some 40) 44 (pt X 0) (txv t)] ⟨fun W h => ld_chst (h.at 1 rfl), fun W h => ld_tx (h.at 0 rfl), trivial⟩ hS ?_
      refine oT 5 10 8 ?_ ?_
      · refine cD (some 41) 13 #[stv c.st v, txv t] ((((esc_apply_any c.st v HS.out t HT1.out _ ((hM.oka 2 rfl).rsl lkc_len) (Nat.le_refl _) (by have := HLK.out; omega)).mono fun _ _ h => HAE.out _ _ _ h)).mono ?_)
        rintro e Y8 ⟨v1, rfl, hO, hb⟩
        refine And.intro (hS.below hb) ?_
        replace hS := hS.below hb
        replace hM := hM.row (f := lkc) hO hb
        clear hO hb
        refine tD 4 [.val 6 (some 35) (.tuple #[stv S v1, .int .i64 E, .bool b]), .val 7 (some 42) (stv S v1), .val 8 (some 43) (.int .i64 E), .val 9 (some 44) (.bool b)] trivial hS ?_
        refine oD 10 3 (rD (some 7) (pt Y8.heap.size 0) (Y8.alloc (.cells (stc zS nilV).toArray 35)) (hS.other _) ?_)
        replace hS := hS.other (.cells (stc zS nilV).toArray 35)
        replace hM := hM.alloc 35 (stc zS nilV)
        generalize World.alloc _ _ = Y9 at *
        generalize hNe : Y8.heap.size = N at *
        clear hNe
        have hv1 := (hM.oka 1 rfl).one lkc_len
        have hM1 := hM.set 0 (cs' := stc S v1) rfl rfl
        refine oD 11 2 (sD 35 (pt N 0) (stv S v1) (sto_st (hM.at 0 rfl) (stc_len _ _) S hv1) (hM1.sub (.cons _ (.cons _ (.cons_cons _ (.cons_cons _ (.cons_cons _ (.cons_cons _ (.cons_cons _ .slnil)))))))) ?_)
        replace hS := hM1.sub (.cons _ (.cons _ (.cons_cons _ (.cons_cons _ (.cons_cons _ (.cons_cons _ (.cons_cons _ .slnil)))))))
        replace hM := hM1
        clear hM1
        generalize World.setRow _ _ _ = Y10 at *
        refine tD 0 [.val 12 (some 8) (.int .i64 E), .val 13 (some 9) (.bool b)] trivial hS ?_
        refine dD ?_
        try simp only [puts, Tk.put, Act.put, List.setIfInBounds_toArray, List.set_cons_zero, List.set_cons_succ]
        clear hS
        go_wp2_with fail
        go_meet
        exact ⟨N, v1, rfl, rfl, rfl, hM.pick [0, 1, 2, 3, 4, 5, 6] (by decide) rfl⟩
      · refine rD (some 7) (pt Y7.heap.size 0) (Y7.alloc (.cells (stc zS nilV).toArray 35)) (hS.other _) ?_
        replace hS := hS.other (.cells (stc zS nilV).toArray 35)
        replace hM := hM.alloc 35 (stc zS nilV)
        generalize World.alloc _ _ = Y11 at *
        generalize hNe : Y7.heap.size = N at *
        clear hNe
        refine oD 5 7 (cD (some 41) 13 #[stv c.st v, txv t] ((((esc_apply_any c.st v HS.out t HT1.out _ ((hM.oka 3 rfl).rsl lkc_len) (Nat.le_refl _) (by have := HLK.out; omega)).mono fun _ _ h => HAE.out _ _ _ h)).mono ?_))
        rintro e Y12 ⟨v1, rfl, hO, hb⟩
        refine And.intro (hS.below hb) ?_
        replace hS := hS.below hb
        replace hM := hM.row (f := lkc) hO hb
        clear hO hb
        refine tD 3 [.val 6 (some 35) (.tuple #[stv S v1, .int .i64 E, .bool b]), .val 7 (some 42) (stv S v1), .val 8 (some 43) (.int .i64 E), .val 9 (some 44) (.bool b)] trivial hS ?_
        have hv1 := (hM.oka 0 rfl).one lkc_len
        have hM1 := hM.set 1 (cs' := stc S v1) rfl rfl
        refine oD 11 2 (sD 35 (pt N 0) (stv S v1) (sto_st (hM.at 1 rfl) (stc_len _ _) S hv1) (hM1.sub (.cons _ (.cons _ (.cons_cons _ (.cons_cons _ (.cons_cons _ (.cons_cons _ (.cons_cons _ .slnil)))))))) ?_)
        replace hS := hM1.sub (.cons _ (.cons _ (.cons_cons _ (.cons_cons _ (.cons_cons _ (.cons_cons _ (.cons_cons _ .slnil)))))))
        replace hM := hM1
        clear hM1
        generalize World.setRow _ _ _ = Y13 at *
        refine tD 0 [.val 12 (some 8) (.int .i64 E), .val 13 (some 9) (.bool b)] trivial hS ?_
        refine dD ?_
        try simp only [puts, Tk.put, Act.put, List.setIfInBounds_toArray, List.set_cons_zero, List.set_cons_succ]
        clear hS
        go_wp2_with fail
        go_meet
        exact ⟨N, v1, rfl, rfl, rfl, hM.pick [1, 0, 2, 3, 4, 5, 6] (by decide) rfl⟩
    case rest =>
      obtain ⟨N, v1, rfl, rfl, rfl, hM⟩ := hcut
      go_upto_region 6 with fail
      refine wp_region_fromM (fun W => Sep w (Res.join (CHR B c v (.slice pa c.po.length pc) (Value.pointer qp) bs)).foot [.blk N 35 (stc S v1), .own lkc 91 3 (v1) (S.lk), .blk X 44 (txc t), .blk B 71 (lgc true c.st v (.slice pa c.po.length pc) (c.ev.length : Int) (Value.pointer qp)), .own lkc 91 3 (v) (c.st.lk), .own (fun t => txc t) 44 25 ((.slice pa c.po.length pc)) (c.po), .evs (Value.pointer qp) bs c.ev] W) hM ?_
      clear hM
      rintro Y14 hM
      refine tF 2 [.val 0 (some 45) (.bool b), .val 1 (some 46) (.bool (!b))] trivial ?_
      refine dF ?_
      try simp only [puts, Tk.put, Act.put, List.setIfInBounds_toArray, List.set_cons_zero, List.set_cons_succ]
      cases b with
      | false =>
        have hM2 : RTurn (.join (CHR B c v (.slice pa c.po.length pc) (Value.pointer qp) bs)) (.join (CHR B c v (.slice pa c.po.length pc) (Value.pointer qp) bs)) _ _ := Sep.fin (hM.pick [3, 4, 5, 6] (by decide) rfl) (List.Sublist.refl _)
        clear hM
        go_wp2_with fail
        go_ret
        have HI : inclC c i = (c, false) := HIC.out
        exact ⟨by rw [HI]; rfl, v, (.slice pa c.po.length pc), (Value.pointer qp), bs, by rw [HI]; exact hM2⟩
      | true =>
        go_upto_region 8 with fail
        refine wp_region_fromM (fun W => Sep w (Res.join (CHR B c v (.slice pa c.po.length pc) (Value.pointer qp) bs)).foot [.blk N 35 (stc S v1), .own lkc 91 3 (v1) (S.lk), .blk X 44 (txc t), .blk B 71 (lgc true c.st v (.slice pa c.po.length pc) (c.ev.length : Int) (Value.pointer qp)), .own lkc 91 3 (v) (c.st.lk), .own (fun t => txc t) 44 25 ((.slice pa c.po.length pc)) (c.po), .evs (Value.pointer qp) bs c.ev] W) hM ?_
        clear hM
        rintro Y15 hM
        refine tF 4 [.val 0 (some 47) (pt B 0), .load 1 (some 48) 35 (pt N 0) (stv (S) (v1)), .val 2 (some 49) (pt B 0), .val 3 (some 50) (pt B 1)] ⟨ld_st (hM.at 0 rfl), trivial⟩ ?_
        have hv1 := (hM.oka 1 rfl).one lkc_len
        refine sF 35 (pt B 1) (stv (S) (v1)) (sto_chst (hM.at 3 rfl) S hv1) ?_
        replace hM := hM.set 3 (cs' := lgc true S v1 (.slice pa c.po.length pc) (c.ev.length : Int) (Value.pointer qp)) rfl rfl
        generalize World.setRow _ _ _ = Y16 at *
        refine dF ?_
        try simp only [puts, Tk.put, Act.put, List.setIfInBounds_toArray, List.set_cons_zero, List.set_cons_succ]
        go_upto_region 9 with fail
        refine wp_region_M (fun W => Sep w (Res.join (CHR B c v (.slice pa c.po.length pc) (Value.pointer qp) bs)).foot [] W) (fun W => Sep w (Res.join (CHR B c v (.slice pa c.po.length pc) (Value.pointer qp) bs)).foot [.blk N 35 (stc S v1), .own lkc 91 3 (v1) (S.lk), .blk X 44 (txc t), .blk B 71 (lgc true S v1 (.slice pa c.po.length pc) (c.ev.length : Int) (Value.pointer qp)), .own lkc 91 3 (v) (c.st.lk), .own (fun t => txc t) 44 25 ((.slice pa c.po.length pc)) (c.po), .evs (Value.pointer qp) bs c.ev] W) hmx hM.drew ?_
        clear hM
        rintro Y17 hM
        have hS := hM.sub (.cons _ (.cons _ (.cons _ (.cons _ (.cons _ (.cons _ (.cons _ .slnil)))))))
        have hwk : IntKind.i64.wrap ((k : Int) + 1) = ((k + 1 : Nat) : Int) := (IntWalk.i64_in _ (by have := HK.out; have := HL.out; omega)).trans (by omega)
        have HWK := Lib.hid hwk
        clear hwk
        refine tD 9 [.val 0 (some 51) (pt B 0), .val 1 (some 52) (pt B 0), .val 2 (some 53) (pt B 0), .val 3 (some 54) (pt B 152), .val 5 (some 56) (.int .i64 (k : Int)), .val 7 (some 58) (pt B 0), .val 8 (some 59) (pt B 0), .val 9 (some 60) (pt B 152), .val 11 (some 62) (.int .i64 (k : Int)), .alt 12 (some 63) (.int .i64 (IntKind.i64.wrap ((k : Int) + 1))) (.int .i64 ((k + 1 : Nat) : Int))] ⟨congrArg (Value.int .i64) HWK.out, trivial⟩ hS ?_
        refine oT 4 10 8 ?_ ?_
        · refine lD (some 55) 37 (pt B 152) ((.slice pa c.po.length pc)) (ld_chpo (hM.at 3 rfl)) (hS) ?_
          refine tD 7 [.slc 6 (some 57) 37 ((.slice pa c.po.length pc)) none (some (.int .i64 (k : Int))) none (.slice a1 (c.po.take k).length c1)] ⟨fun W h => HVLO.out _, trivial⟩ hS ?_
          refine oD 10 6 (lD (some 61) 37 (pt B 152) ((.slice pa c.po.length pc)) (ld_chpo (hM.at 3 rfl)) (hS) ?_)
          refine tD 5 [.slc 13 (some 64) 37 ((.slice pa c.po.length pc)) (some (.int .i64 ((k + 1 : Nat) : Int))) none none (.slice a2 (c.po.drop (k + 1)).length c2)] ⟨fun W h => HVHI.out _, trivial⟩ hS ?_
          obtain ⟨vl, hvl, hrl⟩ := ((hM.oka 5 rfl).rsl txc_25).low (n := 25) (k := k) (by have := HK.out; omega) Tryz.underlying37 elemTx (fun W => by kernel_rfl)
          obtain rfl : vl = .slice a1 (c.po.take k).length c1 := by have h1 := (hvl w).symm.trans (HVLO.out w); simpa using h1
          obtain ⟨vh, hvh, hrh⟩ := ((hM.oka 5 rfl).rsl txc_25).high (n := 25) txc_25 (k := k + 1) (by have := HK.out; omega) Tryz.underlying37 elemTx (fun W => by kernel_rfl)
          obtain rfl : vh = .slice a2 (c.po.drop (k + 1)).length c2 := by have h1 := (hvh w).symm.trans (HVHI.out w); simpa using h1
          clear hvl hvh
          refine oD 14 4 (rD (some 65) (.slice (some ⟨Y17.heap.size, 0, none⟩) 2 2) (Y17.alloc (.cells ([.slice a1 (c.po.take k).length c1, .slice a2 (c.po.drop (k + 1)).length c2]).toArray 37)) (hS.other _) ?_)
          have hbG : Below Y17.heap.size Y17 (Y17.alloc (.cells ([.slice a1 (c.po.take k).length c1, .slice a2 (c.po.drop (k + 1)).length c2]).toArray 37)) := (Below.refl _ _).alloc (Nat.le_refl _) _
          replace hrl := hrl.up hbG
          replace hrh := hrh.up hbG
          clear hbG
          replace hS := hS.other (.cells ([.slice a1 (c.po.take k).length c1, .slice a2 (c.po.drop (k + 1)).length c2]).toArray 37)
          replace hM := hM.alloc 37 ([.slice a1 (c.po.take k).length c1, .slice a2 (c.po.drop (k + 1)).length c2])
          generalize World.alloc _ _ = Y18 at *
          generalize hNe : Y17.heap.size = G at *
          clear hNe
          refine oD 15 3 (cD (some 66) 42 #[.slice (some ⟨G, 0, none⟩) 2 2] ((concatX_any (b := G) (off := 0) (cap := 2) [(.slice a1 (c.po.take k).length c1, c.po.take k), (.slice a2 (c.po.drop (k + 1)).length c2, c.po.drop (k + 1))] _ (hM.at 0 rfl).lt (two_cells (hM.at 0 rfl)) (two_rows hrl hrh) (by show (2 : Nat) ≤ 16; decide) (by rw [cat_two]; exact Nat.le_trans (List.length_eraseIdx_le _ _) (by have := HL.out; omega))).mono ?_))
          rintro e Y19 ⟨v', rfl, hO, hb⟩
          refine And.intro (hS.below hb) ?_
          rw [cat_two] at hO
          replace hS := hS.below hb
          replace hM := hM.row hO hb
          clear hO hb
          have hv2 := own_shape txc_25 (hM.oka 0 rfl)
          refine tD 1 [.val 16 (some 67) (pt B 0), .val 17 (some 68) (pt B 152)] trivial hS ?_
          have hM1 := hM.set 5 (cs' := lgc true S v1 v' (c.ev.length : Int) (Value.pointer qp)) rfl rfl
          refine oD 18 0 (sD 37 (pt B 152) (v') (sto_chpo (hM.at 5 rfl) hv2.1 hv2.2) (hM1.sub (.cons _ (.cons _ (.cons _ (.cons _ (.cons _ (.cons _ (.cons _ (.cons _ (.cons _ .slnil)))))))))) ?_)
          replace hS := hM1.sub (.cons _ (.cons _ (.cons _ (.cons _ (.cons _ (.cons _ (.cons _ (.cons _ (.cons _ .slnil)))))))))
          replace hM := hM1
          clear hM1
          generalize World.setRow _ _ _ = Y20 at *
          refine dD ?_
          try simp only [puts, Tk.put, Act.put, List.setIfInBounds_toArray, List.set_cons_zero, List.set_cons_succ]
          clear hS
          replace hM := Sep.pick (l' := [.blk N 35 (stc S v1), .own lkc 91 3 (v1) (S.lk), .blk X 44 (txc t), .blk B 71 (lgc true S v1 v' (c.ev.length : Int) (Value.pointer qp)), .own (fun t => txc t) 44 25 (v') (c.po.eraseIdx k), .evs (Value.pointer qp) bs c.ev]) hM [2, 3, 4, 5, 0, 8] (by decide) rfl
          go_upto_region 10 with fail
          refine wp_region_M (fun W => Sep w (Res.join (CHR B c v (.slice pa c.po.length pc) (Value.pointer qp) bs)).foot [.blk N 35 (stc S v1), .own lkc 91 3 (v1) (S.lk), .blk X 44 (txc t), .own (fun t => txc t) 44 25 (v') (c.po.eraseIdx k), .evs (Value.pointer qp) bs c.ev] W) (fun W => Sep w (Res.join (CHR B c v (.slice pa c.po.length pc) (Value.pointer qp) bs)).foot [.blk N 35 (stc S v1), .own lkc 91 3 (v1) (S.lk), .blk X 44 (txc t), .blk B 71 (lgc true S v1 v' (c.ev.length : Int) (Value.pointer qp)), .own (fun t => txc t) 44 25 (v') (c.po.eraseIdx k), .evs (Value.pointer qp) bs c.ev] W) hmx hM.drew ?_
          clear hM
          rintro Y21 hM
          have hS := hM.sub (.cons_cons _ (.cons_cons _ (.cons_cons _ (.cons _ (.cons_cons _ (.cons_cons _ .slnil))))))
          refine tD 6 [.val 0 (some 69) (pt B 0), .val 1 (some 70) (pt N 1), .load 2 (some 71) 3 (pt N 1) (.int .i64 S.tm), .val 3 (some 72) (.int .i64 E), .load 4 (some 73) 44 (pt X 0) (txv t), .val 5 (some 74) (.agg (evc (⟨S.tm, E, t⟩ : Ev)).toArray), .val 6 (some 75) (pt B 0), .val 7 (some 76) (pt B 0), .val 8 (some 77) (pt B 154)] ⟨fun W h => ld_int (h.at 0 rfl) 1 rfl, fun W h => ld_tx (h.at 2 rfl), trivial⟩ hS ?_
          refine oD 9 5 (lD (some 78) 69 (pt B 154) ((Value.pointer qp)) (ld_chq (hM.at 3 rfl)) (hS) ?_)
          refine tD 4 [.val 10 (some 79) (.agg (evc (⟨S.tm, E, t⟩ : Ev) ++ [(Value.pointer qp)]).toArray)] trivial hS ?_
          refine oD 11 3 (rD (some 80) (pt Y21.heap.size 0) (Y21.alloc (.cells (evc (⟨S.tm, E, t⟩ : Ev) ++ [(Value.pointer qp)]).toArray 88)) (hS.other _) ?_)
          replace hS := hS.other (.cells (evc (⟨S.tm, E, t⟩ : Ev) ++ [(Value.pointer qp)]).toArray 88)
          replace hM := hM.alloc 88 (evc (⟨S.tm, E, t⟩ : Ev) ++ [(Value.pointer qp)])
          generalize World.alloc _ _ = Y22 at *
          generalize hNe : Y21.heap.size = A at *
          clear hNe
          refine tD 1 [.val 12 (some 81) (pt B 0), .val 13 (some 82) (pt B 154)] trivial hS ?_
          have hM1 := hM.set 4 (cs' := lgc true S v1 v' (c.ev.length : Int) (.pointer (some ⟨A, 0, none⟩))) rfl rfl
          refine oD 14 0 (sD 69 (pt B 154) (pt A 0) (sto_chq (hM.at 4 rfl) rfl rfl) (hM1.sub (.cons _ (.cons_cons _ (.cons_cons _ (.cons_cons _ (.cons _ (.cons_cons _ (.cons_cons _ .slnil)))))))) ?_)
          replace hS := hM1.sub (.cons _ (.cons_cons _ (.cons_cons _ (.cons_cons _ (.cons _ (.cons_cons _ (.cons_cons _ .slnil)))))))
          replace hM := hM1
          clear hM1
          generalize World.setRow _ _ _ = Y23 at *
          refine dD ?_
          try simp only [puts, Tk.put, Act.put, List.setIfInBounds_toArray, List.set_cons_zero, List.set_cons_succ]
          clear hS
          go_upto_region 11 with fail
          refine wp_region_fromM (fun W => Sep w (Res.join (CHR B c v (.slice pa c.po.length pc) (Value.pointer qp) bs)).foot [.blk A 88 (evc (⟨S.tm, E, t⟩ : Ev) ++ [(Value.pointer qp)]), .blk N 35 (stc S v1), .own lkc 91 3 (v1) (S.lk), .blk X 44 (txc t), .blk B 71 (lgc true S v1 v' (c.ev.length : Int) (.pointer (some ⟨A, 0, none⟩))), .own (fun t => txc t) 44 25 (v') (c.po.eraseIdx k), .evs (Value.pointer qp) bs c.ev] W) hM ?_
          clear hM
          rintro Y24 hM
          refine tF 7 [.val 0 (some 83) (pt B 0), .val 1 (some 84) (pt B 0), .val 2 (some 85) (pt B 153), .load 3 (some 86) 3 (pt B 153) (.int .i64 (c.ev.length : Int)), .alt 4 (some 87) (.int .i64 (IntKind.i64.wrap ((c.ev.length : Int) + 1))) (.int .i64 ((c.ev ++ [(⟨S.tm, E, t⟩ : Ev)]).length : Int)), .val 5 (some 88) (pt B 0), .val 6 (some 89) (pt B 153)] ⟨ld_chn (hM.at 4 rfl), congrArg (Value.int .i64) ((IntWalk.i64_in _ (by have := HEV.out; omega)).trans (by rw [List.length_append, List.length_singleton]; omega)), trivial⟩ ?_
          refine sF 3 (pt B 153) (.int .i64 ((c.ev ++ [(⟨S.tm, E, t⟩ : Ev)]).length : Int)) (sto_chn (hM.at 4 rfl) _) ?_
          replace hM := hM.set 4 (cs' := lgc true S v1 v' ((c.ev ++ [(⟨S.tm, E, t⟩ : Ev)]).length : Int) (.pointer (some ⟨A, 0, none⟩))) rfl rfl
          generalize World.setRow _ _ _ = Y25 at *
          refine dF ?_
          try simp only [puts, Tk.put, Act.put, List.setIfInBounds_toArray, List.set_cons_zero, List.set_cons_succ]
          have hM1 := (Sep.pick (l' := [.blk A 88 (evc (⟨S.tm, E, t⟩ : Ev) ++ [(Value.pointer qp)]), .evs (Value.pointer qp) bs c.ev, .blk B 71 (lgc true S v1 v' ((c.ev ++ [(⟨S.tm, E, t⟩ : Ev)]).length : Int) (.pointer (some ⟨A, 0, none⟩))), .own lkc 91 3 (v1) (S.lk), .own (fun t => txc t) 44 25 (v') (c.po.eraseIdx k)]) hM [0, 6, 4, 2, 5] (by decide) rfl).push
          clear hM
          have hM := hM1
          clear hM1
          have hM2 : RTurn (.join (CHR B c v (.slice pa c.po.length pc) (Value.pointer qp) bs)) (.join (CHR B (⟨S, c.po.eraseIdx k, c.ev ++ [⟨S.tm, E, t⟩]⟩ : Ch) v1 v' (.pointer (some ⟨A, 0, none⟩)) (A :: bs))) _ _ := Sep.fin (hM.pick [1, 2, 3, 0] (by decide) rfl) (List.Sublist.refl _)
          clear hM
          go_wp2_with fail
          go_ret
          have HI : inclC c i = (⟨S, c.po.eraseIdx k, c.ev ++ [⟨S.tm, E, t⟩]⟩, true) := HIC.out
          exact ⟨by rw [HI]; rfl, v1, v', _, _, by rw [HI]; exact hM2⟩
        · refine lD (some 61) 37 (pt B 152) ((.slice pa c.po.length pc)) (ld_chpo (hM.at 3 rfl)) (hS) ?_
          refine tD 7 [.slc 13 (some 64) 37 ((.slice pa c.po.length pc)) (some (.int .i64 ((k + 1 : Nat) : Int))) none none (.slice a2 (c.po.drop (k + 1)).length c2)] ⟨fun W h => HVHI.out _, trivial⟩ hS ?_
          refine oD 4 6 (lD (some 55) 37 (pt B 152) ((.slice pa c.po.length pc)) (ld_chpo (hM.at 3 rfl)) (hS) ?_)
          refine tD 5 [.slc 6 (some 57) 37 ((.slice pa c.po.length pc)) none (some (.int .i64 (k : Int))) none (.slice a1 (c.po.take k).length c1)] ⟨fun W h => HVLO.out _, trivial⟩ hS ?_
          obtain ⟨vl, hvl, hrl⟩ := ((hM.oka 5 rfl).rsl txc_25).low (n := 25) (k := k) (by have := HK.out; omega) Tryz.underlying37 elemTx (fun W => by kernel_rfl)
          obtain rfl : vl = .slice a1 (c.po.take k).length c1 := by have h1 := (hvl w).symm.trans (HVLO.out w); simpa using h1
          obtain ⟨vh, hvh, hrh⟩ := ((hM.oka 5 rfl).rsl txc_25).high (n := 25) txc_25 (k := k + 1) (by have := HK.out; omega) Tryz.underlying37 elemTx (fun W => by kernel_rfl)
          obtain rfl : vh = .slice a2 (c.po.drop (k + 1)).length c2 := by have h1 := (hvh w).symm.trans (HVHI.out w); simpa using h1
          clear hvl hvh
          refine oD 14 4 (rD (some 65) (.slice (some ⟨Y17.heap.size, 0, none⟩) 2 2) (Y17.alloc (.cells ([.slice a1 (c.po.take k).length c1, .slice a2 (c.po.drop (k + 1)).length c2]).toArray 37)) (hS.other _) ?_)
          have hbG : Below Y17.heap.size Y17 (Y17.alloc (.cells ([.slice a1 (c.po.take k).length c1, .slice a2 (c.po.drop (k + 1)).length c2]).toArray 37)) := (Below.refl _ _).alloc (Nat.le_refl _) _
          replace hrl := hrl.up hbG
          replace hrh := hrh.up hbG
          clear hbG
          replace hS := hS.other (.cells ([.slice a1 (c.po.take k).length c1, .slice a2 (c.po.drop (k + 1)).length c2]).toArray 37)
          replace hM := hM.alloc 37 ([.slice a1 (c.po.take k).length c1, .slice a2 (c.po.drop (k + 1)).length c2])
          generalize World.alloc _ _ = Y26 at *
          generalize hNe : Y17.heap.size = G at *
          clear hNe
          refine oD 15 3 (cD (some 66) 42 #[.slice (some ⟨G, 0, none⟩) 2 2] ((concatX_any (b := G) (off := 0) (cap := 2) [(.slice a1 (c.po.take k).length c1, c.po.take k), (.slice a2 (c.po.drop (k + 1)).length c2, c.po.drop (k + 1))] _ (hM.at 0 rfl).lt (two_cells (hM.at 0 rfl)) (two_rows hrl hrh) (by show (2 : Nat) ≤ 16; decide) (by rw [cat_two]; exact Nat.le_trans (List.length_eraseIdx_le _ _) (by have := HL.out; omega))).mono ?_))
          rintro e Y27 ⟨v', rfl, hO, hb⟩
          refine And.intro (hS.below hb) ?_
          rw [cat_two] at hO
          replace hS := hS.below hb
          replace hM := hM.row hO hb
          clear hO hb
          have hv2 := own_shape txc_25 (hM.oka 0 rfl)
          refine tD 1 [.val 16 (some 67) (pt B 0), .val 17 (some 68) (pt B 152)] trivial hS ?_
          have hM1 := hM.set 5 (cs' := lgc true S v1 v' (c.ev.length : Int) (Value.pointer qp)) rfl rfl
          refine oD 18 0 (sD 37 (pt B 152) (v') (sto_chpo (hM.at 5 rfl) hv2.1 hv2.2) (hM1.sub (.cons _ (.cons _ (.cons _ (.cons _ (.cons _ (.cons _ (.cons _ (.cons _ (.cons _ .slnil)))))))))) ?_)
          replace hS := hM1.sub (.cons _ (.cons _ (.cons _ (.cons _ (.cons _ (.cons _ (.cons _ (.cons _ (.cons _ .slnil)))))))))
          replace hM := hM1
          clear hM1
          generalize World.setRow _ _ _ = Y28 at *
          refine dD ?_
          try simp only [puts, Tk.put, Act.put, List.setIfInBounds_toArray, List.set_cons_zero, List.set_cons_succ]
          clear hS
          replace hM := Sep.pick (l' := [.blk N 35 (stc S v1), .own lkc 91 3 (v1) (S.lk), .blk X 44 (txc t), .blk B 71 (lgc true S v1 v' (c.ev.length : Int) (Value.pointer qp)), .own (fun t => txc t) 44 25 (v') (c.po.eraseIdx k), .evs (Value.pointer qp) bs c.ev]) hM [2, 3, 4, 5, 0, 8] (by decide) rfl
          go_upto_region 10 with fail
          refine wp_region_M (fun W => Sep w (Res.join (CHR B c v (.slice pa c.po.length pc) (Value.pointer qp) bs)).foot [.blk N 35 (stc S v1), .own lkc 91 3 (v1) (S.lk), .blk X 44 (txc t), .own (fun t => txc t) 44 25 (v') (c.po.eraseIdx k), .evs (Value.pointer qp) bs c.ev] W) (fun W => Sep w (Res.join (CHR B c v (.slice pa c.po.length pc) (Value.pointer qp) bs)).foot [.blk N 35 (stc S v1), .own lkc 91 3 (v1) (S.lk), .blk X 44 (txc t), .blk B 71 (lgc true S v1 v' (c.ev.length : Int) (Value.pointer qp)), .own (fun t => txc t) 44 25 (v') (c.po.eraseIdx k), .evs (Value.pointer qp) bs c.ev] W) hmx hM.drew ?_
          clear hM
          rintro Y29 hM
          have hS := hM.sub (.cons_cons _ (.cons_cons _ (.cons_cons _ (.cons _ (.cons_cons _ (.cons_cons _ .slnil))))))
          refine tD 6 [.val 0 (some 69) (pt B 0), .val 1 (some 70) (pt N 1), .load 2 (some 71) 3 (pt N 1) (.int .i64 S.tm), .val 3 (some 72) (.int .i64 E), .load 4 (some 73) 44 (pt X 0) (txv t), .val 5 (some 74) (.agg (evc (⟨S.tm, E, t⟩ : Ev)).toArray), .val 6 (some 75) (pt B 0), .val 7 (some 76) (pt B 0), .val 8 (some 77) (pt B 154)] ⟨fun W h => ld_int (h.at 0 rfl) 1 rfl, fun W h => ld_tx (h.at 2 rfl), trivial⟩ hS ?_
          refine oD 9 5 (lD (some 78) 69 (pt B 154) ((Value.pointer qp)) (ld_chq (hM.at 3 rfl)) (hS) ?_)
          refine tD 4 [.val 10 (some 79) (.agg (evc (⟨S.tm, E, t⟩ : Ev) ++ [(Value.pointer qp)]).toArray)] trivial hS ?_
          refine oD 11 3 (rD (some 80) (pt Y29.heap.size 0) (Y29.alloc (.cells (evc (⟨S.tm, E, t⟩ : Ev) ++ [(Value.pointer qp)]).toArray 88)) (hS.other _) ?_)
          replace hS := hS.other (.cells (evc (⟨S.tm, E, t⟩ : Ev) ++ [(Value.pointer qp)]).toArray 88)
          replace hM := hM.alloc 88 (evc (⟨S.tm, E, t⟩ : Ev) ++ [(Value.pointer qp)])
          generalize World.alloc _ _ = Y30 at *
          generalize hNe : Y29.heap.size = A at *
          clear hNe
          refine tD 1 [.val 12 (some 81) (pt B 0), .val 13 (some 82) (pt B 154)] trivial hS ?_
          have hM1 := hM.set 4 (cs' := lgc true S v1 v' (c.ev.length : Int) (.pointer (some ⟨A, 0, none⟩))) rfl rfl
          refine oD 14 0 (sD 69 (pt B 154) (pt A 0) (sto_chq (hM.at 4 rfl) rfl rfl) (hM1.sub (.cons _ (.cons_cons _ (.cons_cons _ (.cons_cons _ (.cons _ (.cons_cons _ (.cons_cons _ .slnil)))))))) ?_)
          replace hS := hM1.sub (.cons _ (.cons_cons _ (.cons_cons _ (.cons_cons _ (.cons _ (.cons_cons _ (.cons_cons _ .slnil)))))))
          replace hM := hM1
          clear hM1
          generalize World.setRow _ _ _ = Y31 at *
          refine dD ?_
          try simp only [puts, Tk.put, Act.put, List.setIfInBounds_toArray, List.set_cons_zero, List.set_cons_succ]
          clear hS
          go_upto_region 11 with fail
          refine wp_region_fromM (fun W => Sep w (Res.join (CHR B c v (.slice pa c.po.length pc) (Value.pointer qp) bs)).foot [.blk A 88 (evc (⟨S.tm, E, t⟩ : Ev) ++ [(Value.pointer qp)]), .blk N 35 (stc S v1), .own lkc 91 3 (v1) (S.lk), .blk X 44 (txc t), .blk B 71 (lgc true S v1 v' (c.ev.length : Int) (.pointer (some ⟨A, 0, none⟩))), .own (fun t => txc t) 44 25 (v') (c.po.eraseIdx k), .evs (Value.pointer qp) bs c.ev] W) hM ?_
          clear hM
          rintro Y32 hM
          refine tF 7 [.val 0 (some 83) (pt B 0), .val 1 (some 84) (pt B 0), .val 2 (some 85) (pt B 153), .load 3 (some 86) 3 (pt B 153) (.int .i64 (c.ev.length : Int)), .alt 4 (some 87) (.int .i64 (IntKind.i64.wrap ((c.ev.length : Int) + 1))) (.int .i64 ((c.ev ++ [(⟨S.tm, E, t⟩ : Ev)]).length : Int)), .val 5 (some 88) (pt B 0), .val 6 (some 89) (pt B 153)] ⟨ld_chn (hM.at 4 rfl), congrArg (Value.int .i64) ((IntWalk.i64_in _ (by have := HEV.out; omega)).trans (by rw [List.length_append, List.length_singleton]; omega)), trivial⟩ ?_
          refine sF 3 (pt B 153) (.int .i64 ((c.ev ++ [(⟨S.tm, E, t⟩ : Ev)]).length : Int)) (sto_chn (hM.at 4 rfl) _) ?_
          replace hM := hM.set 4 (cs' := lgc true S v1 v' ((c.ev ++ [(⟨S.tm, E, t⟩ : Ev)]).length : Int) (.pointer (some ⟨A, 0, none⟩))) rfl rfl
          generalize World.setRow _ _ _ = Y33 at *
          refine dF ?_
          try simp only [puts, Tk.put, Act.put, List.setIfInBounds_toArray, List.set_cons_zero, List.set_cons_succ]
          have hM1 := (Sep.pick (l' := [.blk A 88 (evc (⟨S.tm, E, t⟩ : Ev) ++ [(Value.pointer qp)]), .evs (Value.pointer qp) bs c.ev, .blk B 71 (lgc true S v1 v' ((c.ev ++ [(⟨S.tm, E, t⟩ : Ev)]).length : Int) (.pointer (some ⟨A, 0, none⟩))), .own lkc 91 3 (v1) (S.lk), .own (fun t => txc t) 44 25 (v') (c.po.eraseIdx k)]) hM [0, 6, 4, 2, 5] (by decide) rfl).push
          clear hM
          have hM := hM1
          clear hM1
          have hM2 : RTurn (.join (CHR B c v (.slice pa c.po.length pc) (Value.pointer qp) bs)) (.join (CHR B (⟨S, c.po.eraseIdx k, c.ev ++ [⟨S.tm, E, t⟩]⟩ : Ch) v1 v' (.pointer (some ⟨A, 0, none⟩)) (A :: bs))) _ _ := Sep.fin (hM.pick [1, 2, 3, 0] (by decide) rfl) (List.Sublist.refl _)
          clear hM
          go_wp2_with fail
          go_ret
          have HI : inclC c i = (⟨S, c.po.eraseIdx k, c.ev ++ [⟨S.tm, E, t⟩]⟩, true) := HIC.out
          exact ⟨by rw [HI]; rfl, v1, v', _, _, by rw [HI]; exact hM2⟩
end Go.Proofs.YtfoemkmoambagaaGreat
namespace Go.Proofs.YtfoemkmoambagaaGreat
open Go.RowKit Go.Shelf
attribute [local irreducible] wpFrom wpAnyH StepH
theorem infoEv : (Tryz.prog.info? 54).map (fun i => (i.zero, i.size, i.bytes)) = some (some (.agg (evc ⟨0, 0, noT⟩).toArray), 27, 240) := by kernel_rfl
def mnE (m a : Int) : Int := if m < a then m else a
def mxE (a : Int) : Int := if a > 0 then a else 0
def fromE (n : Int) (m : Nat) : Nat := (mxE (mnE (m : Int) n)).toNat
theorem fromE_le (n : Int) (m : Nat) : fromE n m ≤ m := by unfold fromE mxE mnE; split <;> (try split) <;> omega
theorem fromE_is (n : Int) (m : Nat) : mxE (mnE (m : Int) n) = (fromE n m : Nat) := by unfold fromE mxE mnE; split <;> (try split) <;> omega
theorem make_rep {z : Ev} : ∀ n : Nat, (madeCells (Value.agg (evc z).toArray).cells (n * 27)).toList = flatR evc (List.replicate n z) := by
  intro n
  apply List.ext_getElem?
  intro j
  have hl : (flatR evc (List.replicate n z)).length = n * 27 := by rw [flat_len evc_len, List.length_replicate]
  by_cases hj : j < n * 27
  · have hk : j / 27 < n := by omega
    have hx : (List.replicate n z)[j / 27]? = some z := List.getElem?_replicate_of_lt hk
    have h1 := flat_cell (f := evc) evc_len hx (j := j % 27) (Nat.mod_lt _ (by decide))
    rw [show j / 27 * 27 + j % 27 = j by omega] at h1
    rw [h1]
    have hsz : (Value.agg (evc z).toArray).cells.size = 27 := rfl
    have hlt : j % 27 < 27 := Nat.mod_lt _ (by decide)
    simp only [madeCells, hsz, Array.getElem?_toList]
    rw [Array.getElem?_map]
    rw [Array.getElem?_range]
    rw [if_pos hj]
    obtain ⟨u, hu⟩ : ∃ u, (evc z)[j % 27]? = some u := ⟨_, List.getElem?_eq_getElem (by rw [evc_len]; exact hlt)⟩
    have e : (evc z).toArray[j % 27]? = some u := by rw [List.getElem?_toArray]; exact hu
    rw [hu]
    show some ((evc z).toArray[j % 27]!) = some u
    simp only [getElem!_def, e]
  · have hm : (madeCells (Value.agg (evc z).toArray).cells (n * 27)).toList.length = n * 27 := (Array.length_toList).trans (size_madeCells _ _)
    rw [List.getElem?_eq_none (by omega), List.getElem?_eq_none (by omega)]
theorem ld_evE {W : World} {b : Nat} {T : TypeId} {x : Ev} {q : Value} (h : Blk W b T (evc x ++ [q])) : (Instr.loadAt 54 (.pointer (some ⟨b, 0, none⟩))).run Tryz.prog W = .ok (.agg (evc x).toArray) W :=
  load_part h 0 (evc x) rfl _ _ Tryz.underlying54 rfl (by kernel_rfl)
theorem ld_evQ {W : World} {b : Nat} {T : TypeId} {x : Ev} {q : Value} (h : Blk W b T (evc x ++ [q])) : (Instr.loadAt 69 (.pointer (some ⟨b, 27, none⟩))).run Tryz.prog W = .ok q W :=
  ld_any _ _ Tryz.underlying69 rfl h 27 rfl
theorem EvL.here {W : World} {q : Value} {bs : List Nat} {l : List Ev} {k : Nat} {x : Ev} (h : EvL W q bs (l.take (k + 1)).reverse) (hx : l[k]? = some x) : ∃ b bs' q', q = .pointer (some ⟨b, 0, none⟩) ∧ Blk W b 88 (evc x ++ [q']) ∧ EvL W q' bs' (l.take k).reverse := by
  obtain ⟨hk, rfl⟩ := List.getElem?_eq_some_iff.1 hx
  rw [List.take_succ_eq_append_getElem hk, List.reverse_append] at h
  exact h.step
def RowE (l : List Ev) (w : World) (e : Ending) (W' : World) : Prop := ∃ v, e = .returned v ∧ Sep w [] [.own evc 54 27 v l] W'
theorem ev_all {l L : List Ev} {f : Nat} (h2 : ∀ i, 0 ≤ i → L[i]? = l[f + i]?) : L = l.drop f := by
  apply List.ext_getElem?
  intro i
  rw [h2 i (Nat.zero_le _), List.getElem?_drop]
theorem evc_all (x : Ev) : (Value.agg (evc x).toArray).cells.all (·.oneCell') = true := by
  show ((evc x).toArray.all (·.oneCell')) = true
  rw [← Array.all_toList]
  exact List.all_eq_true.2 (evc_one x)
theorem ev_laid (y x : Ev) : laid (evc y) 0 (Value.agg (evc x).toArray).cells.toList = evc x := rfl
theorem runAt_make {P : Program} {ops : Array Oper} {i : Nat} {a : Act} {w w' : World} {d : Option Tmp} {t : TypeId} {x y v : Value} (hr : (ops[i]?).map (fun o => (Region.wanted o (yielded ops a.tmps), o.dst, match o.op with | .makeSlice t' l c => some (t', a.eval l, a.eval c) | _ => none)) = some (true, d, some (t, x, y))) (h : (Instr.makeSlice t x y).run P w = .ok v w') : runAt P ops i a w = some (true, d, .ok (.value v) w') := by
  obtain ⟨o, ho⟩ := some_of hr
  rw [ho] at hr
  have h0 := Option.some.inj hr
  have h1 : Region.wanted o (yielded ops a.tmps) = true := congrArg Prod.fst h0
  have h2 : o.dst = d := congrArg (fun x => x.2.1) h0
  have h3 := congrArg (fun x => x.2.2) h0
  dsimp only at h3
  split at h3
  · rename_i t' l c hop
    obtain ⟨rfl, rfl, rfl⟩ := by simpa using h3
    unfold runAt
    rw [ho]
    simp only [Option.map_some]
    rw [h1, h2]
    unfold execOp
    simp only [hop, Sem.run_bind, h, Result.andThen_ok]
    rfl
  · cases h3
set_option maxRecDepth 100000 in
set_option maxHeartbeats 4000000 in
theorem chnEvents_any {B : Nat} {c : Ch} {v pv q : Value} {bs : List Nat} (n : Int) (w : World) (hv : ChV w B c v pv q bs) (hr : c.ev.length ≤ 100000000) : Calls Tryz.prog 18 #[.pointer (some ⟨B, 0, none⟩), .int .i64 n] w (RowE (c.ev.drop (fromE n c.ev.length)) w) := by
  have hmx : Tryz.prog.follows .mixedOrders = true := by kernel_rfl
  have HV := Lib.hid hv
  have HLEN := Lib.hid hr
  have hev := hv.ev
  clear hv hr
  obtain ⟨i0, hi, hz0, hz1, hz2⟩ := info_parts infoEv
  have hM := Sep.start w
  go_enter Tryz.func18, Tryz.ntmps18
  go_upto_region 1 with fail
  refine wp_region_fromM (fun W => Sep w [] [] W) hM ?_
  clear hM
  rintro Y1 hM
  refine tF 1 [.val 0 (some 8) (pt B 0)] trivial ?_
  refine cF (some 9) 31 #[pt B 0] ((there_yes _ (HV.out.below hM.b).b).mono ?_)
  rintro e W1 ⟨rfl, rfl⟩
  refine tF 3 [.val 2 (some 10) (.bool false)] trivial ?_
  refine dF ?_
  try simp only [puts, Tk.put, Act.put, List.setIfInBounds_toArray, List.set_cons_zero, List.set_cons_succ]
  go_upto_region 3 with fail
  refine wp_region_M (fun W => Sep w [] [] W) (fun W => Sep w [] [] W) hmx hM.drew ?_
  clear hM
  rintro Y2 hM
  have hS := hM.sub .slnil
  refine tD 5 [.val 0 (some 11) (pt B 0), .val 1 (some 12) (pt B 0), .val 2 (some 13) (pt B 153), .load 3 (some 14) 3 (pt B 153) (.int .i64 (c.ev.length : Int)), .val 4 (some 15) (.int .i64 n), .val 5 (some 16) (pt B 0), .val 6 (some 17) (pt B 0), .val 7 (some 18) (pt B 153), .load 8 (some 19) 3 (pt B 153) (.int .i64 (c.ev.length : Int))] ⟨fun W h => ld_chn (HV.out.below h.b).b, fun W h => ld_chn (HV.out.below h.b).b, trivial⟩ hS ?_
  refine oD 9 4 (rD (some 20) (.int .i64 (mnE (c.ev.length : Int) n)) (Y2) (hS) ?_)
  refine oD 10 3 (rD (some 21) (.int .i64 (mxE (mnE (c.ev.length : Int) n))) (Y2) (hS) ?_)
  refine tD 2 [.alt 11 (some 22) (.int .i64 (IntKind.i64.wrap ((c.ev.length : Int) - mxE (mnE (c.ev.length : Int) n)))) (.int .i64 ((c.ev.length - fromE n c.ev.length) : Nat))] ⟨congrArg (Value.int .i64) (by have h1 := HLEN.out; have h2 := fromE_le n c.ev.length; rw [fromE_is]; exact (IntWalk.i64_in _ (by omega)).trans (by omega)), trivial⟩ hS ?_
  obtain ⟨Wm, hrun, hO, hg⟩ := run_make_full Y2 Y2.heap.size 38 54 i0 _ 27 Tryz.underlying38 hi hz0 hz1 .i64 .i64 (c.ev.length - fromE n c.ev.length) (by have h1 := HLEN.out; rw [hz2]; omega) (by have h1 := HLEN.out; unfold maxLen; omega) (Nat.le_refl _)
  have hb : Below Y2.heap.size Y2 Wm := ⟨hg.os, hg.tape, hg.output, hg.size, fun k hk => hg.block k hk (by simp)⟩
  rw [make_rep] at hO
  have hO2 : Wm.ownsRow Y2.heap.size 54 27 (.slice (some ⟨Y2.heap.size, 0, none⟩) (c.ev.length - fromE n c.ev.length) (c.ev.length - fromE n c.ev.length)) (List.replicate (c.ev.length - fromE n c.ev.length) (⟨0, 0, noT⟩ : Ev)).length (flatR evc (List.replicate (c.ev.length - fromE n c.ev.length) ⟨0, 0, noT⟩)) := by rw [List.length_replicate]; exact hO
  clear hO hg
  refine oD 12 1 (rD (some 23) (.slice (some ⟨Y2.heap.size, 0, none⟩) (c.ev.length - fromE n c.ev.length) (c.ev.length - fromE n c.ev.length)) Wm (hS.below hb) ?_ (runAt_make (by kernel_rfl) hrun))
  replace hS := hS.below hb
  replace hM := hM.row hO2 hb
  generalize hNe : Y2.heap.size = G at *
  clear hNe hb hO2
  refine tD 0 [.val 13 (some 5) (.slice (some ⟨G, 0, none⟩) (c.ev.length - fromE n c.ev.length) (c.ev.length - fromE n c.ev.length))] trivial hS ?_
  refine dD ?_
  try simp only [puts, Tk.put, Act.put, List.setIfInBounds_toArray, List.set_cons_zero, List.set_cons_succ]
  clear hS
  go_upto_region 4 with fail
  refine wp_region_fromM (fun W => Sep w [] [.own evc 54 27 (.slice (some ⟨G, 0, none⟩) (c.ev.length - fromE n c.ev.length) (c.ev.length - fromE n c.ev.length)) (List.replicate (c.ev.length - fromE n c.ev.length) ⟨0, 0, noT⟩)] W) hM ?_
  clear hM
  rintro Y3 hM
  refine tF 5 [.val 0 (some 24) (pt B 0), .val 1 (some 25) (pt B 0), .val 2 (some 26) (pt B 154), .load 3 (some 27) 69 (pt B 154) (q), .val 4 (some 6) (q)] ⟨ld_chq (HV.out.below hM.b).b, trivial⟩ ?_
  refine dF ?_
  try simp only [puts, Tk.put, Act.put, List.setIfInBounds_toArray, List.set_cons_zero, List.set_cons_succ]
  go_upto_region 5 with fail
  refine wp_region_fromM (fun W => Sep w [] [.own evc 54 27 (.slice (some ⟨G, 0, none⟩) (c.ev.length - fromE n c.ev.length) (c.ev.length - fromE n c.ev.length)) (List.replicate (c.ev.length - fromE n c.ev.length) ⟨0, 0, noT⟩)] W) hM ?_
  clear hM
  rintro Y4 hM
  refine tF 1 [.val 0 (some 28) (.slice (some ⟨G, 0, none⟩) (c.ev.length - fromE n c.ev.length) (c.ev.length - fromE n c.ev.length))] trivial ?_
  refine rF (some 29) (.int .i64 ((c.ev.length - fromE n c.ev.length) : Nat)) (Y4) ?_
  refine tF 4 [.alt 2 (some 30) (.int .i64 (IntKind.i64.wrap ((((c.ev.length - fromE n c.ev.length) : Nat) : Int) - 1))) (.int .i64 ((((c.ev.length - fromE n c.ev.length) : Nat) : Int) - 1)), .val 3 (some 7) (.int .i64 ((((c.ev.length - fromE n c.ev.length) : Nat) : Int) - 1))] ⟨congrArg (Value.int .i64) (IntWalk.i64_in _ (by have h1 := HLEN.out; omega)), trivial⟩ ?_
  refine dF ?_
  try simp only [puts, Tk.put, Act.put, List.setIfInBounds_toArray, List.set_cons_zero, List.set_cons_succ]
  go_wp2_with fail
  go_loopw [6, 7] (fun p i wr => ∃ (k : Nat) (L : List Ev) (bs' : List Nat), k ≤ (c.ev.length - fromE n c.ev.length) ∧ i = .int .i64 ((k : Int) - 1) ∧ EvL w p bs' (c.ev.take ((fromE n c.ev.length) + k)).reverse ∧ (L.length = (c.ev.length - fromE n c.ev.length) ∧ ∀ j, k ≤ j → L[j]? = c.ev[(fromE n c.ev.length) + j]?) ∧ Sep w [] [.own evc 54 27 (.slice (some ⟨G, 0, none⟩) (c.ev.length - fromE n c.ev.length) (c.ev.length - fromE n c.ev.length)) (L)] wr) (fun _ i _ => (intOf i + 1).toNat)
  case atStart =>
    refine ⟨(c.ev.length - fromE n c.ev.length), _, bs, Nat.le_refl _, rfl, ?_, ⟨List.length_replicate, fun j hj => ?_⟩, hM⟩
    · rw [List.take_of_length_le (by have := fromE_le n c.ev.length; omega)]
      exact hev
    · rw [List.getElem?_eq_none (by rw [List.length_replicate]; exact hj), List.getElem?_eq_none (by have := fromE_le n c.ev.length; omega)]
  clear hM hev
  case round =>
    obtain ⟨k, L, bs', hk, rfl, hq, hL, hM⟩ := hrel
    have HLL := Lib.hid hL
    have HK := Lib.hid hk
    have HQ := Lib.hid hq
    clear hL hk hq
    cases k with
    | zero =>
      go_upto_region 6 with fail
      refine wp_region_fromM (fun W => Sep w [] [.own evc 54 27 (.slice (some ⟨G, 0, none⟩) (c.ev.length - fromE n c.ev.length) (c.ev.length - fromE n c.ev.length)) (L)] W) hM ?_
      clear hM
      rintro Y5 hM
      refine tF 2 [.val 0 (some 31) (.int .i64 (((0 : Nat) : Int) - 1)), .alt 1 (some 32) (.bool (decide (0 ≤ ((0 : Nat) : Int) - 1))) (.bool false)] ⟨rfl, trivial⟩ ?_
      refine dF ?_
      try simp only [puts, Tk.put, Act.put, List.setIfInBounds_toArray, List.set_cons_zero, List.set_cons_succ]
      go_upto_region 9 with fail
      refine wp_region_fromM (fun W => Sep w [] [.own evc 54 27 (.slice (some ⟨G, 0, none⟩) (c.ev.length - fromE n c.ev.length) (c.ev.length - fromE n c.ev.length)) (L)] W) hM ?_
      clear hM
      rintro Y6 hM
      refine tF 2 [.val 0 (some 46) (.slice (some ⟨G, 0, none⟩) (c.ev.length - fromE n c.ev.length) (c.ev.length - fromE n c.ev.length)), .val 1 (some 4) (.slice (some ⟨G, 0, none⟩) (c.ev.length - fromE n c.ev.length) (c.ev.length - fromE n c.ev.length))] trivial ?_
      refine dF ?_
      try simp only [puts, Tk.put, Act.put, List.setIfInBounds_toArray, List.set_cons_zero, List.set_cons_succ]
      have hl := ev_all HLL.out.2
      subst hl
      go_wp2_with fail
      go_ret
      exact ⟨_, rfl, hM⟩
    | succ k =>
      have hkm := HK.out
      have hFl := fromE_le n c.ev.length
      have hlen1 := HLEN.out
      have HP : Hid ((((k + 1 : Nat) : Int) - 1) = (k : Int)) := Lib.hid (by omega)
      obtain ⟨x, hx⟩ : ∃ x, c.ev[(fromE n c.ev.length) + k]? = some x := ⟨_, List.getElem?_eq_getElem (by omega)⟩
      obtain ⟨b, bs2, q', hqe, hbx, hq'⟩ := HQ.out.here hx
      obtain ⟨y, hy⟩ : ∃ y, L[k]? = some y := ⟨_, List.getElem?_eq_getElem (by have := HLL.out.1; omega)⟩
      obtain ⟨bo, oo, hio, _⟩ := (hM.oka 0 rfl).elem evc_len hy Tryz.underlying38 (fun W => by kernel_rfl)
      have HX := Lib.hid hx
      have HY := Lib.hid hy
      have HBX := Lib.hid hbx
      have HQ2 := Lib.hid hq'
      have HIO := Lib.hid hio
      subst hqe
      rw [HP.out]
      have HB := Lib.hid (And.intro hkm (And.intro hFl hlen1))
      clear hx hy hbx hq' hio hkm hFl hlen1
      go_upto_region 6 with fail
      refine wp_region_fromM (fun W => Sep w [] [.own evc 54 27 (.slice (some ⟨G, 0, none⟩) (c.ev.length - fromE n c.ev.length) (c.ev.length - fromE n c.ev.length)) (L)] W) hM ?_
      clear hM
      rintro Y7 hM
      refine tF 2 [.val 0 (some 31) (.int .i64 (k : Int)), .alt 1 (some 32) (.bool (decide (0 ≤ (k : Int)))) (.bool true)] ⟨congrArg Value.bool (decide_eq_true (by omega)), trivial⟩ ?_
      refine dF ?_
      try simp only [puts, Tk.put, Act.put, List.setIfInBounds_toArray, List.set_cons_zero, List.set_cons_succ]
      go_upto_region 8 with fail
      refine wp_region_M (fun W => Sep w [] [] W) (fun W => Sep w [] [.own evc 54 27 (.slice (some ⟨G, 0, none⟩) (c.ev.length - fromE n c.ev.length) (c.ev.length - fromE n c.ev.length)) (L)] W) hmx hM.drew ?_
      clear hM
      rintro Y8 hM
      have hS := hM.sub (.cons _ .slnil)
      refine tD 2 [.val 0 (some 35) (.slice (some ⟨G, 0, none⟩) (c.ev.length - fromE n c.ev.length) (c.ev.length - fromE n c.ev.length)), .val 1 (some 36) (.int .i64 (k : Int)), .val 2 (some 37) (pt b 0), .val 3 (some 38) (pt b 0), .val 4 (some 39) (pt b 0), .load 5 (some 40) 54 (pt b 0) (.agg (evc x).toArray), .val 6 (some 41) (pt b 0), .val 7 (some 42) (pt b 0), .val 8 (some 43) (pt b 27), .load 9 (some 44) 69 (pt b 27) (q'), .idx 10 (some 45) 38 (.slice (some ⟨G, 0, none⟩) (c.ev.length - fromE n c.ev.length) (c.ev.length - fromE n c.ev.length)) (.int .i64 (k : Int)) (pt bo oo)] ⟨fun W h => ld_evE (HBX.out.below h.b HBX.out.lt), fun W h => ld_evQ (HBX.out.below h.b HBX.out.lt), fun W h => HIO.out _, trivial⟩ hS ?_
      obtain ⟨Z, hst, ht⟩ := own_store (hM.oka 0 rfl) evc_len HY.out Tryz.underlying38 (fun W => by kernel_rfl) (HIO.out Y8) x 0 54 (.agg (evc x).toArray) (by kernel_rfl) (by exact Nat.le_refl 27) (evc_all x) (ev_laid y x)
      have hM1 := hM.turn 0 rfl ht rfl
      refine oD 11 1 (sD 54 (pt bo oo) (.agg (evc x).toArray) hst (hM1.sub (.cons _ .slnil)) ?_)
      replace hS := hM1.sub (.cons _ .slnil)
      replace hM := hM1
      clear hM1 hst ht
      refine tD 0 [.val 12 (some 6) (q')] trivial hS ?_
      refine dD ?_
      try simp only [puts, Tk.put, Act.put, List.setIfInBounds_toArray, List.set_cons_zero, List.set_cons_succ]
      clear hS
      have hwr : IntKind.i64.wrap ((k : Int) - 1) = (k : Int) - 1 := IntWalk.i64_in _ (by have := HB.out; omega)
      have HM := Lib.hid hM
      clear hM
      go_wp2_with fail
      go_roundw
      case rel =>
        refine ⟨k, L.set k x, bs2, by have := HB.out; omega, rfl, HQ2.out, ⟨by rw [List.length_set]; exact HLL.out.1, fun j hj => ?_⟩, HM.out⟩
        by_cases e : k = j
        · subst e
          rw [List.getElem?_set, if_pos rfl, if_pos (List.getElem?_eq_some_iff.1 HY.out).1, HX.out]
        · rw [List.getElem?_set, if_neg e]
          exact HLL.out.2 j (by omega)
      case measure => simp [intOf] <;> omega
end Go.Proofs.YtfoemkmoambagaaGreat
