/-
  AuctionRuns answers true at every input, and leaves its arguments as they are.
-/
import Derived.Deep.Slices
import Derived.SizedLaws
import Derived.Carry
import Derived.ChangeMaps5
import Derived.Test.YtbhfajnejibaoaaGreatK14
namespace Go.Proofs.YtbhfajnejibaoaaGreat
open Go.RowKit Go.Shelf
attribute [local irreducible] wpFrom wpAnyH StepH
def okN (u a : Bool) : Bool := u && !a
def okV (a b : Bool) : Bool := a && b
theorem okN_0 (u : Bool) : okN u false = u := by cases u <;> rfl
theorem okN_step {u a : Bool} {n : Int} {y : Bd} (h : okN u a = true) : (y.ro != n) = okN u (a || byB n y) := by
  cases u
  · cases h
  · cases a
    · rfl
    · cases h
theorem okN_out {u : Bool} {l : List Bd} {k : Nat} {p : Bd → Bool} (h : okN u ((l.take k).any p) = false) : okN u (l.any p) = false := by
  cases u
  · rfl
  · cases e : (l.take k).any p with
    | false => rw [e] at h; cases h
    | true => rw [any_of_take e]; rfl
theorem okN_all {u : Bool} {l : List Bd} {k : Nat} {p : Bd → Bool} (h : okN u ((l.take k).any p) = true) (hk : l.length ≤ k) : okN u (l.any p) = true := by rwa [List.take_of_length_le hk] at h
theorem okV_f {a b : Bool} (h : a = false) : okV a b = false := by rw [h]; rfl
theorem okV_n {a b : Bool} (h : a = true) (h' : b = false) : okV a b = false := by rw [h, h']; rfl
theorem okV_v {a b c : Bool} (h : a = true) (h' : b = c) : okV a b = c := by rw [h, h']; rfl
theorem bid_E {es : List En} {bs : List Bd} {b : Bd} {now : Int} {e : En} {r0 r1 : ByteArray} (hf : es.find? (isEn b.k) = some e) (hb : e.bs = forB bs b.k anyB) : bidR (validB b (rootR (Rm.mk r0 r1 (es.map toLt) bs) b.ro)) (Rm.mk r0 r1 (es.map toLt) bs) b now =
    (Rm.mk r0 r1 (es.map toLt) (bs ++ gotL (okV (okN (decide (now ≤ b.un)) (e.bs.any (byB b.ro))) (validB b (rootR (Rm.mk r0 r1 (es.map toLt) bs) b.ro))) b), okV (okN (decide (now ≤ b.un)) (e.bs.any (byB b.ro))) (validB b (rootR (Rm.mk r0 r1 (es.map toLt) bs) b.ro))) := by
  have ht : takesB (validB b (rootR (Rm.mk r0 r1 (es.map toLt) bs) b.ro)) (Rm.mk r0 r1 (es.map toLt) bs) b now = okV (okN (decide (now ≤ b.un)) (e.bs.any (byB b.ro))) (validB b (rootR (Rm.mk r0 r1 (es.map toLt) bs) b.ro)) := by
    rw [takes_en (e := e) (is_yes hf) hb]
    unfold okV okN
    rw [Bool.and_assoc, Bool.and_comm (!e.bs.any (byB b.ro))]
  unfold bidR
  rw [ht]
  unfold gotL
  split
  · rename_i h; rw [h]
  · rename_i h; rw [List.append_nil, Bool.eq_false_iff.2 h]
theorem slice_all (a : Option Addr) (l c : Nat) : (Value.slice a l c).cells.all (·.oneCell') = true := by simp [Value.cells, Value.oneCell']
theorem bne_self_eq_false' (z : Int) : (z != z) = false := by simp
theorem lens_a {es : List En} {n : Nat} (h : n = ((es.map toLt).map askL).length) : ((n : Int) != (es.length : Int)) = false := by
  rw [h, List.length_map, List.length_map]
  simp
theorem slice_n {v : Value} {m : Nat} (h : ∃ a c, v = Value.slice a m c) : ∃ a n c, n = m ∧ v = Value.slice a n c := by
  obtain ⟨a, c, h⟩ := h
  exact ⟨a, m, c, rfl, h⟩
theorem best_a {es : List En} {bs : List Bd} {r0 r1 : ByteArray} {e : En} {a : Ak} {now : Int} (hk : e.k = a) (hf : es.find? (isEn a) = some e) (hb : e.bs = forB bs a anyB) : bestR (Rm.mk r0 r1 (es.map toLt) bs) a now = bestE e.bs now e.si := by
  subst hk
  exact best_en hf hb
theorem idx_str20 (B : Nat) (W : World) : (Instr.indexAt 26 (.slice (some ⟨B, 0, none⟩) 2 2) (.int .i64 0)).run Tryz.prog W = .ok (pt B 0) W := by
  have h := idx_sl (W := W) (b := B) (off := 0) (len := 2) (cap := 2) (k := 0) (c := 1) Tryz.underlying26 (by kernel_rfl) (by decide)
  exact h
theorem idx_str21 (B : Nat) (W : World) : (Instr.indexAt 26 (.slice (some ⟨B, 0, none⟩) 2 2) (.int .i64 1)).run Tryz.prog W = .ok (pt B 1) W := by
  have h := idx_sl (W := W) (b := B) (off := 0) (len := 2) (cap := 2) (k := 1) (c := 1) Tryz.underlying26 (by kernel_rfl) (by decide)
  exact h
set_option maxRecDepth 100000 in
set_option maxHeartbeats 4000000 in
theorem auctionRuns_any (l : List Oq) (v : Value) (w : World) {lo hi : Nat} (hl : RSl oqc lo hi w v l) (hhi : hi ≤ w.heap.size) (hok : ∀ x ∈ l, OkO x) : Calls Tryz.prog 3 #[v] w fun e W' => e = .returned (.bool true) ∧ Below w.heap.size w W' := by
  have hmx : Tryz.prog.follows .mixedOrders = true := by kernel_rfl
  have HEl := Lib.hid (fun k x (hx : l[k]? = some x) => hl.elem oqc_len hx Tryz.underlying22 (fun W => by kernel_rfl))
  obtain ⟨pl, cl, rfl⟩ := hl.slice
  have HLl := Lib.hid hl
  have HHl := Lib.hid hhi
  have HLENl := Lib.hid (show l.length ≤ 9223372036854775807 from by have h := hl.len; unfold maxLen at h; omega)
  clear hl hhi
  have HOK := Lib.hid hok
  clear hok
  have hM := Sep.start w
  go_enter Tryz.func3, Tryz.ntmps3
  go_upto_region 0 with fail
  refine wp_region_fromM (fun W => Sep w [] [] W) hM ?_
  clear hM
  rintro Y1 hM
  refine tF 1 [.val 0 (some 2) (.bool false)] trivial ?_
  refine dF ?_
  try simp only [puts, Tk.put, Act.put, List.setIfInBounds_toArray, List.set_cons_zero, List.set_cons_succ]
  go_upto_region 1 with fail
  refine wp_region_fromM (fun W => Sep w [] [] W) hM ?_
  clear hM
  rintro Y2 hM
  refine cF (some 21) 5 #[] ((alive19_any _).mono ?_)
  rintro e Y3 ⟨rfl, hb⟩
  replace hM := hM.below hb
  clear hb
  refine tF 2 [.val 1 (some 22) (.bool false)] trivial ?_
  refine dF ?_
  try simp only [puts, Tk.put, Act.put, List.setIfInBounds_toArray, List.set_cons_zero, List.set_cons_succ]
  go_upto_region 3 with fail
  refine wp_region_fromM (fun W => Sep w [] [] W) hM ?_
  clear hM
  rintro Y4 hM
  refine cF (some 23) 7 #[.int .i64 2] ((seed8_any 2 _).mono ?_)
  rintro e Y5 ⟨rfl, hb⟩
  replace hM := hM.below hb
  clear hb
  refine cF (some 24) 6 #[.string (seedB 2)] ((root_any (seedB 2) (seed_small _) _).mono ?_)
  rintro e Y6 ⟨rfl, hb⟩
  replace hM := hM.below hb
  clear hb
  refine cF (some 25) 7 #[.int .i64 3] ((seed8_any 3 _).mono ?_)
  rintro e Y7 ⟨rfl, hb⟩
  replace hM := hM.below hb
  clear hb
  refine cF (some 26) 6 #[.string (seedB 3)] ((root_any (seedB 3) (seed_small _) _).mono ?_)
  rintro e Y8 ⟨rfl, hb⟩
  replace hM := hM.below hb
  clear hb
  refine rF (some 27) (.slice (some ⟨Y8.heap.size, 0, none⟩) 2 2) (Y8.alloc (.cells ([.string (rootB (seedB 2)), .string (rootB (seedB 3))]).toArray 9)) ?_
  replace hM := hM.alloc 9 ([.string (rootB (seedB 2)), .string (rootB (seedB 3))])
  generalize World.alloc _ _ = Y9 at *
  generalize hNe : Y8.heap.size = N9 at *
  clear hNe
  refine tF 6 [.val 5 (some 3) (.slice (some ⟨N9, 0, none⟩) 2 2)] trivial ?_
  refine dF ?_
  try simp only [puts, Tk.put, Act.put, List.setIfInBounds_toArray, List.set_cons_zero, List.set_cons_succ]
  go_upto_region 4 with fail
  refine wp_region_fromM (fun W => Sep w [] [.blk N9 9 ([.string (rootB (seedB 2)), .string (rootB (seedB 3))])] W) hM ?_
  clear hM
  rintro Y10 hM
  refine tF 1 [.val 0 (some 28) (.slice (some ⟨N9, 0, none⟩) 2 2)] trivial ?_
  refine cF (some 29) 8 #[.slice (some ⟨N9, 0, none⟩) 2 2] ((rmNew_two (rootB (seedB 2)) (rootB (seedB 3)) _ (hM.at 0 rfl)).mono ?_)
  rintro e Y11 ⟨B11, va11, vb11, rfl, hR⟩
  replace hM := hM.gain (Sep.close (ps := RMR B11 (Rm.mk (rootB (seedB 2)) (rootB (seedB 3)) [] []) va11 vb11) (l := []) hR)
  clear hR
  refine tF 3 [.val 2 (some 4) (pt B11 0)] trivial ?_
  refine dF ?_
  try simp only [puts, Tk.put, Act.put, List.setIfInBounds_toArray, List.set_cons_zero, List.set_cons_succ]
  go_upto_region 5 with fail
  refine wp_region_fromM (fun W => Sep w [] [.join (RMR B11 (Rm.mk (rootB (seedB 2)) (rootB (seedB 3)) [] []) va11 vb11), .blk N9 9 ([.string (rootB (seedB 2)), .string (rootB (seedB 3))])] W) hM ?_
  clear hM
  rintro Y12 hM
  refine tF 1 [.val 0 (some 5) (.slice none 0 0)] trivial ?_
  refine dF ?_
  try simp only [puts, Tk.put, Act.put, List.setIfInBounds_toArray, List.set_cons_zero, List.set_cons_succ]
  go_upto_region 6 with fail
  refine wp_region_fromM (fun W => Sep w [] [.join (RMR B11 (Rm.mk (rootB (seedB 2)) (rootB (seedB 3)) [] []) va11 vb11), .blk N9 9 ([.string (rootB (seedB 2)), .string (rootB (seedB 3))])] W) hM ?_
  clear hM
  rintro Y13 hM
  refine tF 1 [.val 0 (some 6) (.int .i64 0)] trivial ?_
  refine dF ?_
  try simp only [puts, Tk.put, Act.put, List.setIfInBounds_toArray, List.set_cons_zero, List.set_cons_succ]
  replace hM := Sep.close (ps := []) (l := _) (hM.nil enc 45 11)
  go_wp2_with fail
  refine wp_loop_fit [.k (.slice pl l.length cl), .k (undef), .s 2, .k (.slice (some ⟨N9, 0, none⟩) 2 2), .k (pt B11 0), .s 5, .s 6, .s 7, .s 8, .s 9, .s 10, .s 11, .s 12, .s 13, .s 14, .s 15, .s 16, .s 17, .s 18, .s 19, .s 20, .s 21, .s 22, .s 23, .s 24, .s 25, .s 26, .s 27, .s 28, .s 29, .s 30, .s 31, .s 32, .s 33, .s 34, .s 35, .s 36, .s 37, .s 38, .s 39, .s 40, .s 41, .s 42, .s 43, .s 44, .s 45, .s 46, .s 47, .s 48, .s 49, .s 50, .s 51, .s 52, .s 53, .s 54, .s 55, .s 56, .s 57, .s 58, .s 59, .s 60, .s 61, .s 62, .s 63, .s 64, .s 65, .s 66, .s 67, .s 68, .s 69, .s 70, .s 71, .s 72, .s 73, .s 74, .s 75, .s 76, .s 77, .s 78, .s 79, .s 80, .s 81, .s 82, .s 83, .s 84, .s 85, .s 86, .s 87, .s 88, .s 89, .s 90, .s 91, .s 92, .s 93, .s 94, .s 95, .s 96, .s 97, .s 98, .s 99, .s 100, .s 101, .s 102, .s 103, .s 104, .s 105, .s 106, .s 107, .s 108, .s 109, .s 110, .s 111, .s 112, .s 113, .s 114, .s 115, .s 116, .s 117, .s 118, .s 119, .s 120, .s 121, .s 122, .s 123, .s 124, .s 125, .s 126, .s 127, .s 128, .s 129, .s 130, .s 131, .s 132, .s 133, .s 134, .s 135, .s 136, .s 137, .s 138, .s 139, .s 140, .s 141, .s 142, .s 143, .s 144, .s 145, .s 146, .s 147, .s 148, .s 149, .s 150, .s 151, .s 152, .s 153, .s 154, .s 155, .s 156, .s 157, .s 158, .s 159, .s 160, .s 161, .s 162, .s 163, .s 164, .s 165, .s 166, .s 167, .s 168, .s 169, .s 170, .s 171, .s 172, .s 173, .s 174, .s 175, .s 176, .s 177, .s 178, .s 179, .s 180, .s 181, .s 182, .s 183, .s 184, .s 185, .s 186, .s 187, .s 188, .s 189, .s 190, .s 191, .s 192, .s 193, .s 194, .s 195, .s 196, .s 197, .s 198, .s 199, .s 200, .s 201, .s 202, .s 203, .s 204, .s 205, .s 206, .s 207, .s 208, .s 209, .s 210, .s 211, .s 212, .s 213, .s 214, .s 215, .s 216, .s 217, .s 218, .s 219, .s 220, .s 221, .s 222, .s 223, .s 224, .s 225, .s 226, .s 227, .s 228, .s 229, .s 230, .s 231, .s 232, .s 233, .s 234, .s 235, .s 236, .s 237, .s 238, .s 239, .s 240, .s 241, .s 242, .s 243, .s 244, .s 245, .s 246, .s 247, .s 248, .s 249, .s 250, .s 251, .s 252, .s 253, .s 254, .s 255, .s 256, .s 257, .s 258, .s 259, .s 260, .s 261, .s 262, .s 263, .s 264] (fun (s1 : Nat → Value) wr => ∃ (j : Nat) (es : List En) (bs : List Bd) (va vb : Value), j ≤ l.length ∧ Inv19 j es bs ∧ (s1 6 : Value) = .int .i64 (j : Int) ∧ Sep w [] [.own enc 45 11 ((s1 5 : Value)) (es), .join (es.map enR), .join (RMR B11 (Rm.mk rho2 rho3 (es.map toLt) bs) va vb), .blk N9 9 ([.string (rootB (seedB 2)), .string (rootB (seedB 3))])] wr) (fun (s1 : Nat → Value) _ => l.length - (intOf (s1 6 : Value)).toNat) rfl rfl (show (fun (u5 u6 : Value) => ∃ (j : Nat) (es : List En) (bs : List Bd) (va vb : Value), j ≤ l.length ∧ Inv19 j es bs ∧ u6 = .int .i64 (j : Int) ∧ Sep w [] [.own enc 45 11 (u5) (es), .join (es.map enR), .join (RMR B11 (Rm.mk rho2 rho3 (es.map toLt) bs) va vb), .blk N9 9 ([.string (rootB (seedB 2)), .string (rootB (seedB 3))])] _) (.slice none 0 0) (.int .i64 0) from ⟨0, [], [], _, _, Nat.zero_le _, inv_nil, rfl, hM.pick [1, 0, 2, 3] (by decide) rfl⟩) ?_
  clear hM
  intro s1 wr hrel Js1 Ks1 hJs1 hKs1
  dsimp only [fillS]
  try dsimp only at hrel
  try dsimp only at hJs1
  generalize s1 5 = u5 at hrel hJs1 ⊢
  generalize s1 6 = u6 at hrel hJs1 ⊢
  obtain ⟨j, es, bs, va, vb, hj, hi, rfl, hM⟩ := hrel
  have HI := Lib.hid hi
  clear hi
  obtain ⟨pu5, cu5, rfl⟩ := (hM.oka 0 rfl).slice enc_len
  go_upto_region 7 with fail
  refine wp_region_fromM (fun W => Sep w [] [.own enc 45 11 (.slice pu5 es.length cu5) (es), .join (es.map enR), .join (RMR B11 (Rm.mk rho2 rho3 (es.map toLt) bs) va vb), .blk N9 9 ([.string (rootB (seedB 2)), .string (rootB (seedB 3))])] W) hM ?_
  clear hM
  rintro Y14 hM
  refine tF 5 [.val 0 (some 30) (.int .i64 (j : Int)), .val 1 (some 31) (.slice pl l.length cl), .val 2 (some 32) (.int .i64 (l.length : Int)), .val 3 (some 33) (.bool (decide ((j : Int) < (l.length : Int)))), .val 4 (some 34) (.bool (decide ((j : Int) < (l.length : Int))))] trivial ?_
  cases hb1 : decide ((j : Int) < (l.length : Int)) with
  | false =>
    have Hhb1 := Lib.hid hb1
    clear hb1
    refine tF 8 [.skip 5 (some 35), .skip 6 (some 36), .val 7 (some 37) (.bool false)] trivial ?_
    refine dF ?_
    try simp only [puts, Tk.put, Act.put, List.setIfInBounds_toArray, List.set_cons_zero, List.set_cons_succ]
    go_upto_region 59 with fail
    refine wp_region_fromM (fun W => Sep w [] [.own enc 45 11 (.slice pu5 es.length cu5) (es), .join (es.map enR), .join (RMR B11 (Rm.mk rho2 rho3 (es.map toLt) bs) va vb), .blk N9 9 ([.string (rootB (seedB 2)), .string (rootB (seedB 3))])] W) hM ?_
    clear hM
    rintro Y15 hM
    refine tF 1 [.val 0 (some 2) (.bool true)] trivial ?_
    refine dF ?_
    try simp only [puts, Tk.put, Act.put, List.setIfInBounds_toArray, List.set_cons_zero, List.set_cons_succ]
    go_wp2_with fail
    go_ret
    exact ⟨rfl, hM.b⟩
  | true =>
    have Hhb1 := Lib.hid hb1
    clear hb1
    refine tF 8 [.val 5 (some 35) (.int .i64 (j : Int)), .val 6 (some 36) (.bool (decide ((j : Int) < 25))), .val 7 (some 37) (.bool (decide ((j : Int) < 25)))] trivial ?_
    refine dF ?_
    try simp only [puts, Tk.put, Act.put, List.setIfInBounds_toArray, List.set_cons_zero, List.set_cons_succ]
    cases hb2 : decide ((j : Int) < 25) with
    | false =>
      have Hhb2 := Lib.hid hb2
      clear hb2
      go_upto_region 59 with fail
      refine wp_region_fromM (fun W => Sep w [] [.own enc 45 11 (.slice pu5 es.length cu5) (es), .join (es.map enR), .join (RMR B11 (Rm.mk rho2 rho3 (es.map toLt) bs) va vb), .blk N9 9 ([.string (rootB (seedB 2)), .string (rootB (seedB 3))])] W) hM ?_
      clear hM
      rintro Y16 hM
      refine tF 1 [.val 0 (some 2) (.bool true)] trivial ?_
      refine dF ?_
      try simp only [puts, Tk.put, Act.put, List.setIfInBounds_toArray, List.set_cons_zero, List.set_cons_succ]
      go_wp2_with fail
      go_ret
      exact ⟨rfl, hM.b⟩
    | true =>
      have Hhb2 := Lib.hid hb2
      clear hb2
      have hlt : j < l.length := by have h := of_decide_eq_true Hhb1.out; omega
      have hj25 : j < 25 := by have h := of_decide_eq_true Hhb2.out; omega
      obtain ⟨xo, hx⟩ : ∃ x, l[j]? = some x := ⟨_, List.getElem?_eq_getElem hlt⟩
      have HXO := Lib.hid (HOK.out _ (List.mem_of_getElem? hx))
      obtain ⟨bl, ol, _, _, hit, hct⟩ := HEl.out j _ hx
      have HJ := Lib.hid hlt
      have HJB : Hid (j ≤ 1000) := Lib.hid (by omega)
      have HJJ : Hid (j + 1 ≤ 1000) := Lib.hid (by omega)
      have HIl := Lib.hid hit
      have HCl := Lib.hid hct
      clear hx hit hct hlt hj25
      have HK3 := Lib.hid (show Int.tmod (Int.tmod xo.kd 3 + 3) 3 = ((atC xo.kd 3 : Nat) : Int) from atC_eq xo.kd (n := 3) (by decide))
      have HS3 := Lib.hid (show IntKind.i64.wrap (Int.tmod xo.kd 3 + 3) = Int.tmod xo.kd 3 + 3 from atC_sum xo.kd (n := 3) (by decide) (by decide))
      go_upto_region 9 with fail
      refine wp_region_fromM (fun W => Sep w [] [.own enc 45 11 (.slice pu5 es.length cu5) (es), .join (es.map enR), .join (RMR B11 (Rm.mk rho2 rho3 (es.map toLt) bs) va vb), .blk N9 9 ([.string (rootB (seedB 2)), .string (rootB (seedB 3))])] W) hM ?_
      clear hM
      rintro Y17 hM
      refine tF 4 [.val 0 (some 40) (.slice pl l.length cl), .val 1 (some 41) (.int .i64 (j : Int)), .idx 2 (some 42) 22 (.slice pl l.length cl) (.int .i64 (j : Int)) (pt bl ol), .load 3 (some 43) 38 (pt bl ol) (oqv xo)] ⟨HIl.out _, ld_cells (oqc xo) _ _ Tryz.underlying38 rfl (by kernel_rfl) (HCl.out _ (HLl.out.below hM.b HHl.out)), trivial⟩ ?_
      refine rF (some 7) (pt Y17.heap.size 0) (Y17.alloc (.cells (oqc noO).toArray 38)) ?_
      replace hM := hM.alloc 38 (oqc noO)
      generalize World.alloc _ _ = Y18 at *
      generalize hNe : Y17.heap.size = N18 at *
      clear hNe
      have hst := sto_part (oqc xo) (hM.at 0 rfl) 0 38 (oqv xo) (oqc xo) rfl (by kernel_rfl) (Nat.le_of_ble_eq_true rfl) rfl rfl
      refine sF 38 (pt N18 0) (oqv xo) (hst) ?_
      clear hst
      replace hM := hM.set 0 (cs' := oqc xo) rfl rfl
      generalize World.setRow _ _ _ = Y19 at *
      refine dF ?_
      try simp only [puts, Tk.put, Act.put, List.setIfInBounds_toArray, List.set_cons_zero, List.set_cons_succ]
      go_upto_region 10 with fail
      refine wp_region_fromM (fun W => Sep w [] [.blk N18 38 (oqc xo), .own enc 45 11 (.slice pu5 es.length cu5) (es), .join (es.map enR), .join (RMR B11 (Rm.mk rho2 rho3 (es.map toLt) bs) va vb), .blk N9 9 ([.string (rootB (seedB 2)), .string (rootB (seedB 3))])] W) hM ?_
      clear hM
      rintro Y20 hM
      refine tF 4 [.val 0 (some 44) (.slice pu5 es.length cu5), .val 1 (some 45) (pt N18 1), .val 2 (some 46) (pt N18 2), .load 3 (some 47) 34 (pt N18 2) (akv xo.b.k)] ⟨load_part (hM.at 0 rfl) 2 (akc xo.b.k) rfl _ _ Tryz.underlying34 rfl (by kernel_rfl), trivial⟩ ?_
      refine cF (some 48) 9 #[.slice pu5 es.length cu5, akv xo.b.k] ((find19_any xo.b.k es _ _ ((hM.oka 1 rfl).rsl enc_len) (Nat.le_refl _)).mono ?_)
      rintro e Y21 ⟨rfl, hb⟩
      replace hM := hM.below hb
      clear hb
      refine tF 6 [.val 5 (some 8) (.int .i64 (idxG (isEn xo.b.k) es))] trivial ?_
      refine dF ?_
      try simp only [puts, Tk.put, Act.put, List.setIfInBounds_toArray, List.set_cons_zero, List.set_cons_succ]
      go_upto_region 11 with fail
      refine wp_region_fromM (fun W => Sep w [] [.blk N18 38 (oqc xo), .own enc 45 11 (.slice pu5 es.length cu5) (es), .join (es.map enR), .join (RMR B11 (Rm.mk rho2 rho3 (es.map toLt) bs) va vb), .blk N9 9 ([.string (rootB (seedB 2)), .string (rootB (seedB 3))])] W) hM ?_
      clear hM
      rintro Y22 hM
      refine tF 2 [.val 0 (some 49) (pt N18 0), .load 1 (some 50) 3 (pt N18 0) (.int .i64 xo.kd)] ⟨ld_any _ _ Tryz.underlying3 rfl (hM.at 0 rfl) 0 rfl, trivial⟩ ?_
      refine remF (.tmp 50) (.const (.int .i64 3)) 3 3 (some 51) xo.kd 3 (Int.tmod xo.kd 3) (by decide) rfl ?_
      refine tF 4 [.alt 3 (some 52) (.int .i64 (IntKind.i64.wrap ((Int.tmod xo.kd 3) + 3))) (.int .i64 (Int.tmod xo.kd 3 + 3))] ⟨congrArg (Value.int .i64) (HS3.out), trivial⟩ ?_
      refine remF (.tmp 52) (.const (.int .i64 3)) 3 3 (some 53) (Int.tmod xo.kd 3 + 3) 3 ((atC xo.kd 3 : Nat) : Int) (by decide) HK3.out ?_
      refine dF ?_
      try simp only [puts, Tk.put, Act.put, List.setIfInBounds_toArray, List.set_cons_zero, List.set_cons_succ]
      generalize hqi : idxG (isEn xo.b.k) es = qa
      have HQa := Lib.hid hqi
      clear hqi
      go_upto_block 2 with fail
      refine wp_cut_fit [.k (.slice pl l.length cl), .k (undef), .s 2, .k (.slice (some ⟨N9, 0, none⟩) 2 2), .k (pt B11 0), .s 5, .k (.int .i64 (j : Int)), .k (pt N18 0), .k (.int .i64 qa), .s 9, .s 10, .s 11, .s 12, .s 13, .s 14, .s 15, .s 16, .k (s1 17), .k (s1 18), .k (s1 19), .k (s1 20), .s 21, .s 22, .s 23, .s 24, .s 25, .s 26, .s 27, .s 28, .s 29, .s 30, .s 31, .s 32, .s 33, .s 34, .s 35, .s 36, .s 37, .s 38, .s 39, .s 40, .s 41, .s 42, .s 43, .s 44, .s 45, .s 46, .s 47, .s 48, .s 49, .s 50, .s 51, .s 52, .k (.int .i64 ((atC xo.kd 3 : Nat) : Int)), .s 54, .s 55, .s 56, .s 57, .s 58, .s 59, .s 60, .s 61, .s 62, .s 63, .s 64, .s 65, .s 66, .s 67, .s 68, .s 69, .s 70, .s 71, .s 72, .s 73, .s 74, .s 75, .s 76, .s 77, .s 78, .s 79, .s 80, .s 81, .s 82, .s 83, .s 84, .s 85, .s 86, .s 87, .s 88, .s 89, .s 90, .s 91, .s 92, .s 93, .s 94, .s 95, .s 96, .s 97, .s 98, .s 99, .s 100, .s 101, .s 102, .s 103, .s 104, .s 105, .s 106, .s 107, .s 108, .s 109, .s 110, .s 111, .s 112, .s 113, .s 114, .s 115, .s 116, .s 117, .s 118, .s 119, .s 120, .s 121, .s 122, .s 123, .s 124, .s 125, .s 126, .s 127, .s 128, .s 129, .s 130, .s 131, .s 132, .s 133, .s 134, .s 135, .s 136, .s 137, .s 138, .s 139, .s 140, .s 141, .s 142, .s 143, .s 144, .s 145, .s 146, .s 147, .s 148, .s 149, .s 150, .s 151, .s 152, .s 153, .s 154, .s 155, .s 156, .s 157, .s 158, .s 159, .s 160, .s 161, .s 162, .s 163, .s 164, .s 165, .s 166, .s 167, .s 168, .s 169, .s 170, .s 171, .s 172, .s 173, .s 174, .s 175, .s 176, .s 177, .s 178, .s 179, .s 180, .s 181, .s 182, .s 183, .s 184, .s 185, .s 186, .s 187, .s 188, .s 189, .s 190, .s 191, .s 192, .s 193, .s 194, .s 195, .s 196, .s 197, .s 198, .s 199, .s 200, .s 201, .s 202, .s 203, .s 204, .s 205, .s 206, .s 207, .s 208, .s 209, .s 210, .s 211, .s 212, .s 213, .s 214, .s 215, .s 216, .s 217, .s 218, .s 219, .s 220, .s 221, .s 222, .s 223, .s 224, .s 225, .s 226, .s 227, .s 228, .s 229, .s 230, .s 231, .s 232, .s 233, .s 234, .s 235, .s 236, .s 237, .s 238, .s 239, .s 240, .s 241, .s 242, .s 243, .s 244, .s 245, .s 246, .s 247, .s 248, .s 249, .s 250, .s 251, .s 252, .s 253, .s 254, .s 255, .s 256, .s 257, .s 258, .s 259, .s 260, .s 261, .s 262, .s 263, .s 264] (fun (s2 : Nat → Value) wc => ∃ (es2 : List En) (bs2 : List Bd) (va2 vb2 : Value), Inv19 (j + 1) es2 bs2 ∧ Sep w [] [.own enc 45 11 ((s2 5 : Value)) (es2), .join (es2.map enR), .join (RMR B11 (Rm.mk rho2 rho3 (es2.map toLt) bs2) va2 vb2), .blk N9 9 ([.string (rootB (seedB 2)), .string (rootB (seedB 3))]), .blk N18 38 (oqc xo)] wc) rfl ?rests2 ?firsts2
      case firsts2 =>
        intro Js2 Ks2 hJs2 hKs2
        by_cases hge : 0 ≤ qa
        case pos =>
          obtain ⟨pa, ea, hp, he, hek, hef⟩ := en_yes (by rw [HQa.out]; exact hge)
          obtain rfl : qa = (pa : Int) := HQa.out.symm.trans hp
          have HEa := Lib.hid he
          have HEKa := Lib.hid hek
          have HEFa := Lib.hid hef
          clear hp he hek hef hge
          obtain ⟨bna, ona, hit, hct⟩ := (hM.oka 1 rfl).elem enc_len HEa.out Tryz.underlying29 (fun W => by kernel_rfl)
          have HIna := Lib.hid hit
          have HCna := Lib.hid hct
          clear hit hct
          have HEB : Hid (ea.bs = forB bs xo.b.k anyB) := Lib.hid (by rw [HI.out.at' ea (List.mem_of_getElem? HEa.out), HEKa.out])
          have HEL : Hid (ea.bs.length ≤ 1000) := Lib.hid (by rw [HEB.out]; exact Nat.le_trans (List.length_filter_le _ _) (Nat.le_trans HI.out.len HJB.out))
          go_upto_region 19 with fail
          refine wp_region_fromM (fun W => Sep w [] [.blk N18 38 (oqc xo), .own enc 45 11 (.slice pu5 es.length cu5) (es), .join (es.map enR), .join (RMR B11 (Rm.mk rho2 rho3 (es.map toLt) bs) va vb), .blk N9 9 ([.string (rootB (seedB 2)), .string (rootB (seedB 3))])] W) hM ?_
          clear hM
          rintro Y23 hM
          refine tF 2 [.val 0 (some 86) (.bool (((atC xo.kd 3 : Nat) : Int) == 0)), .val 1 (some 85) (.bool (((atC xo.kd 3 : Nat) : Int) == 0))] trivial ?_
          refine dF ?_
          try simp only [puts, Tk.put, Act.put, List.setIfInBounds_toArray, List.set_cons_zero, List.set_cons_succ]
          cases hb3 : ((atC xo.kd 3 : Nat) : Int) == 0 with
          | false =>
            have Hhb3 := Lib.hid hb3
            clear hb3
            go_upto_region 36 with fail
            refine wp_region_fromM (fun W => Sep w [] [.blk N18 38 (oqc xo), .own enc 45 11 (.slice pu5 es.length cu5) (es), .join (es.map enR), .join (RMR B11 (Rm.mk rho2 rho3 (es.map toLt) bs) va vb), .blk N9 9 ([.string (rootB (seedB 2)), .string (rootB (seedB 3))])] W) hM ?_
            clear hM
            rintro Y24 hM
            refine tF 2 [.val 0 (some 132) (.bool (((atC xo.kd 3 : Nat) : Int) == 1)), .val 1 (some 131) (.bool (((atC xo.kd 3 : Nat) : Int) == 1))] trivial ?_
            refine dF ?_
            try simp only [puts, Tk.put, Act.put, List.setIfInBounds_toArray, List.set_cons_zero, List.set_cons_succ]
            cases hb4 : ((atC xo.kd 3 : Nat) : Int) == 1 with
            | false =>
              have Hhb4 := Lib.hid hb4
              clear hb4
              go_upto_region 12 with fail
              refine wp_region_fromM (fun W => Sep w [] [.blk N18 38 (oqc xo), .own enc 45 11 (.slice pu5 es.length cu5) (es), .join (es.map enR), .join (RMR B11 (Rm.mk rho2 rho3 (es.map toLt) bs) va vb), .blk N9 9 ([.string (rootB (seedB 2)), .string (rootB (seedB 3))])] W) hM ?_
              clear hM
              rintro Y25 hM
              refine tF 7 [.val 0 (some 55) (pt B11 0), .val 1 (some 56) (pt N18 1), .val 2 (some 57) (pt N18 2), .load 3 (some 58) 34 (pt N18 2) (akv xo.b.k), .val 4 (some 59) (pt N18 17), .load 5 (some 60) 3 (pt N18 17) (.int .i64 xo.nw), .val 6 (some 61) (.int .i64 (j : Int))] ⟨load_part (hM.at 0 rfl) 2 (akc xo.b.k) rfl _ _ Tryz.underlying34 rfl (by kernel_rfl), ld_any _ _ Tryz.underlying3 rfl (hM.at 0 rfl) 17 rfl, trivial⟩ ?_
              have hq := rmBest_any xo.b.k xo.nw (j : Int) _ (RmV.of (hM.oka 3 rfl)) (Nat.le_trans HI.out.len HJB.out) HI.out.si HI.out.ok
              rw [best_a HEKa.out HEFa.out HEB.out] at hq
              refine cF (some 62) 14 #[pt B11 0, akv xo.b.k, .int .i64 xo.nw, .int .i64 (j : Int)] ((hq).mono ?_)
              rintro e Y26 ⟨rfl, hb⟩
              clear hq
              replace hM := hM.below hb
              clear hb
              refine tF 11 [.val 8 (some 54) (.tuple #[bdv ((bestE ea.bs xo.nw ea.si).getD noB), .bool (bestE ea.bs xo.nw ea.si).isSome]), .val 9 (some 63) (bdv ((bestE ea.bs xo.nw ea.si).getD noB)), .val 10 (some 64) (.bool (bestE ea.bs xo.nw ea.si).isSome)] trivial ?_
              refine rF (some 13) (pt Y26.heap.size 0) (Y26.alloc (.cells (bdc noB).toArray 36)) ?_
              replace hM := hM.alloc 36 (bdc noB)
              generalize World.alloc _ _ = Y27 at *
              generalize hNe : Y26.heap.size = N27 at *
              clear hNe
              have hst := sto_part (bdc ((bestE ea.bs xo.nw ea.si).getD noB)) (hM.at 0 rfl) 0 36 (bdv ((bestE ea.bs xo.nw ea.si).getD noB)) (bdc ((bestE ea.bs xo.nw ea.si).getD noB)) rfl (by kernel_rfl) (Nat.le_of_ble_eq_true rfl) rfl rfl
              refine sF 36 (pt N27 0) (bdv ((bestE ea.bs xo.nw ea.si).getD noB)) (hst) ?_
              clear hst
              replace hM := hM.set 0 (cs' := bdc ((bestE ea.bs xo.nw ea.si).getD noB)) rfl rfl
              generalize World.setRow _ _ _ = Y28 at *
              refine tF 14 [.val 13 (some 14) (.bool (bestE ea.bs xo.nw ea.si).isSome)] trivial ?_
              refine dF ?_
              try simp only [puts, Tk.put, Act.put, List.setIfInBounds_toArray, List.set_cons_zero, List.set_cons_succ]
              go_upto_region 13 with fail
              refine wp_region_fromM (fun W => Sep w [] [.blk N27 36 (bdc ((bestE ea.bs xo.nw ea.si).getD noB)), .blk N18 38 (oqc xo), .own enc 45 11 (.slice pu5 es.length cu5) (es), .join (es.map enR), .join (RMR B11 (Rm.mk rho2 rho3 (es.map toLt) bs) va vb), .blk N9 9 ([.string (rootB (seedB 2)), .string (rootB (seedB 3))])] W) hM ?_
              clear hM
              rintro Y29 hM
              refine rF (some 15) (pt Y29.heap.size 0) (Y29.alloc (.cells (bdc noB).toArray 36)) ?_
              replace hM := hM.alloc 36 (bdc noB)
              generalize World.alloc _ _ = Y30 at *
              generalize hNe : Y29.heap.size = N30 at *
              clear hNe
              refine dF ?_
              try simp only [Act.put, List.setIfInBounds_toArray, List.set_cons_zero, List.set_cons_succ]
              go_upto_region 14 with fail
              refine wp_region_fromM (fun W => Sep w [] [.blk N30 36 (bdc noB), .blk N27 36 (bdc ((bestE ea.bs xo.nw ea.si).getD noB)), .blk N18 38 (oqc xo), .own enc 45 11 (.slice pu5 es.length cu5) (es), .join (es.map enR), .join (RMR B11 (Rm.mk rho2 rho3 (es.map toLt) bs) va vb), .blk N9 9 ([.string (rootB (seedB 2)), .string (rootB (seedB 3))])] W) hM ?_
              clear hM
              rintro Y31 hM
              refine tF 1 [.val 0 (some 16) (.bool false)] trivial ?_
              refine dF ?_
              try simp only [puts, Tk.put, Act.put, List.setIfInBounds_toArray, List.set_cons_zero, List.set_cons_succ]
              go_upto_region 15 with fail
              refine wp_region_fromM (fun W => Sep w [] [.blk N30 36 (bdc noB), .blk N27 36 (bdc ((bestE ea.bs xo.nw ea.si).getD noB)), .blk N18 38 (oqc xo), .own enc 45 11 (.slice pu5 es.length cu5) (es), .join (es.map enR), .join (RMR B11 (Rm.mk rho2 rho3 (es.map toLt) bs) va vb), .blk N9 9 ([.string (rootB (seedB 2)), .string (rootB (seedB 3))])] W) hM ?_
              clear hM
              rintro Y32 hM
              refine tF 2 [.val 0 (some 65) (.int .i64 (pa : Int)), .alt 1 (some 66) (.bool (decide (0 ≤ (pa : Int)))) (.bool true)] ⟨congrArg Value.bool (decide_eq_true (Int.natCast_nonneg _)), trivial⟩ ?_
              refine dF ?_
              try simp only [puts, Tk.put, Act.put, List.setIfInBounds_toArray, List.set_cons_zero, List.set_cons_succ]
              go_upto_region 16 with fail
              refine wp_region_M (fun W => Sep w [] [.blk N27 36 (bdc ((bestE ea.bs xo.nw ea.si).getD noB)), .blk N18 38 (oqc xo), .own enc 45 11 (.slice pu5 es.length cu5) (es), .join (es.map enR), .join (RMR B11 (Rm.mk rho2 rho3 (es.map toLt) bs) va vb), .blk N9 9 ([.string (rootB (seedB 2)), .string (rootB (seedB 3))])] W) (fun W => Sep w [] [.blk N30 36 (bdc noB), .blk N27 36 (bdc ((bestE ea.bs xo.nw ea.si).getD noB)), .blk N18 38 (oqc xo), .own enc 45 11 (.slice pu5 es.length cu5) (es), .join (es.map enR), .join (RMR B11 (Rm.mk rho2 rho3 (es.map toLt) bs) va vb), .blk N9 9 ([.string (rootB (seedB 2)), .string (rootB (seedB 3))])] W) hmx hM.drew ?_
              clear hM
              rintro Y33 hM
              have hS := hM.sub (.cons _ (.cons_cons _ (.cons_cons _ (.cons_cons _ (.cons_cons _ (.cons_cons _ (.cons_cons _ .slnil)))))))
              refine tD 6 [.val 0 (some 68) (.slice pu5 es.length cu5), .val 1 (some 69) (.int .i64 (pa : Int)), .idx 2 (some 70) 29 (.slice pu5 es.length cu5) (.int .i64 (pa : Int)) (pt bna ona), .load 3 (some 71) 45 (pt bna ona) (env ea), .val 4 (some 72) (pt N18 17), .load 5 (some 73) 3 (pt N18 17) (.int .i64 xo.nw)] ⟨fun W h => HIna.out _, fun W h => ld_cells (enc ea) _ _ Tryz.underlying45 rfl (by kernel_rfl) (HCna.out _ (h.oka 2 rfl)), fun W h => ld_any _ _ Tryz.underlying3 rfl (h.at 1 rfl) 17 rfl, trivial⟩ hS ?_
              refine oD 6 5 (cD (some 74) 15 #[env ea, .int .i64 xo.nw] ((best19_any ea xo.nw _ (((hM.oka 4 rfl).en HEa.out).rsl bdc_len) (Nat.le_refl _) (HI.out.si _ (List.mem_map_of_mem (f := toLt) (List.mem_of_getElem? HEa.out))) HXO.out.n (by rw [HEB.out]; exact for_ok HI.out.ok _ _)).mono ?_))
              rintro e Y34 ⟨rfl, hb⟩
              refine And.intro (hS.below hb) ?_
              replace hS := hS.below hb
              replace hM := hM.below hb
              clear hb
              refine tD 2 [.val 7 (some 67) (.tuple #[bdv ((bestE ea.bs xo.nw ea.si).getD noB), .bool (bestE ea.bs xo.nw ea.si).isSome]), .val 8 (some 75) (bdv ((bestE ea.bs xo.nw ea.si).getD noB)), .val 9 (some 76) (.bool (bestE ea.bs xo.nw ea.si).isSome)] trivial hS ?_
              have hst := sto_part (bdc ((bestE ea.bs xo.nw ea.si).getD noB)) (hM.at 0 rfl) 0 36 (bdv ((bestE ea.bs xo.nw ea.si).getD noB)) (bdc ((bestE ea.bs xo.nw ea.si).getD noB)) rfl (by kernel_rfl) (Nat.le_of_ble_eq_true rfl) rfl rfl
              have hM1 := hM.set 0 (cs' := bdc ((bestE ea.bs xo.nw ea.si).getD noB)) rfl rfl
              refine oD 10 1 (sD 36 (pt N30 0) (bdv ((bestE ea.bs xo.nw ea.si).getD noB)) (hst) (hM1.sub (.cons _ (.cons_cons _ (.cons_cons _ (.cons_cons _ (.cons_cons _ (.cons_cons _ (.cons_cons _ .slnil)))))))) ?_)
              clear hst
              replace hS := hM1.sub (.cons _ (.cons_cons _ (.cons_cons _ (.cons_cons _ (.cons_cons _ (.cons_cons _ (.cons_cons _ .slnil)))))))
              replace hM := hM1
              clear hM1
              generalize World.setRow _ _ _ = Y35 at *
              refine tD 0 [.val 11 (some 16) (.bool (bestE ea.bs xo.nw ea.si).isSome)] trivial hS ?_
              refine dD ?_
              try simp only [puts, Tk.put, Act.put, List.setIfInBounds_toArray, List.set_cons_zero, List.set_cons_succ]
              clear hS
              go_upto_region 17 with fail
              refine wp_region_fromM (fun W => Sep w [] [.blk N30 36 (bdc ((bestE ea.bs xo.nw ea.si).getD noB)), .blk N27 36 (bdc ((bestE ea.bs xo.nw ea.si).getD noB)), .blk N18 38 (oqc xo), .own enc 45 11 (.slice pu5 es.length cu5) (es), .join (es.map enR), .join (RMR B11 (Rm.mk rho2 rho3 (es.map toLt) bs) va vb), .blk N9 9 ([.string (rootB (seedB 2)), .string (rootB (seedB 3))])] W) hM ?_
              clear hM
              rintro Y36 hM
              refine tF 6 [.val 0 (some 77) (.bool (bestE ea.bs xo.nw ea.si).isSome), .val 1 (some 78) (.bool (bestE ea.bs xo.nw ea.si).isSome), .alt 2 (some 79) (.bool ((bestE ea.bs xo.nw ea.si).isSome != (bestE ea.bs xo.nw ea.si).isSome)) (.bool false), .val 3 (some 80) (.bool false), .load 4 (some 81) 36 (pt N27 0) (bdv ((bestE ea.bs xo.nw ea.si).getD noB)), .load 5 (some 82) 36 (pt N30 0) (bdv ((bestE ea.bs xo.nw ea.si).getD noB))] ⟨congrArg Value.bool (bne_self_b _), load_part (hM.at 1 rfl) 0 (bdc ((bestE ea.bs xo.nw ea.si).getD noB)) rfl _ _ Tryz.underlying36 rfl (by kernel_rfl), load_part (hM.at 0 rfl) 0 (bdc ((bestE ea.bs xo.nw ea.si).getD noB)) rfl _ _ Tryz.underlying36 rfl (by kernel_rfl), trivial⟩ ?_
              refine neA (.tmp 81) (.tmp 82) 36 (some 83) (bdc ((bestE ea.bs xo.nw ea.si).getD noB)).toArray (bdc ((bestE ea.bs xo.nw ea.si).getD noB)).toArray true (Eq.trans (run_eqBd ((bestE ea.bs xo.nw ea.si).getD noB) ((bestE ea.bs xo.nw ea.si).getD noB) _) (congrArg (fun z => Result.ok z _) (decide_eq_true rfl))) ?_
              refine tF 8 [.val 7 (some 84) (.bool false)] trivial ?_
              refine dF ?_
              try simp only [puts, Tk.put, Act.put, List.setIfInBounds_toArray, List.set_cons_zero, List.set_cons_succ]
              go_wp2_with fail
              refine Met.intro (hJs2 _ _ rfl (show (fun (u5 : Value) => ∃ (es2 : List En) (bs2 : List Bd) (va2 vb2 : Value), Inv19 (j + 1) es2 bs2 ∧ Sep w [] [.own enc 45 11 (u5) (es2), .join (es2.map enR), .join (RMR B11 (Rm.mk rho2 rho3 (es2.map toLt) bs2) va2 vb2), .blk N9 9 ([.string (rootB (seedB 2)), .string (rootB (seedB 3))]), .blk N18 38 (oqc xo)] _) (.slice pu5 es.length cu5) from ⟨es, bs, _, _, HI.out.up, hM.pick [3, 4, 5, 6, 2] (by decide) rfl⟩))
            | true =>
              have Hhb4 := Lib.hid hb4
              clear hb4
              go_upto_region 37 with fail
              refine wp_region_fromM (fun W => Sep w [] [.blk N18 38 (oqc xo), .own enc 45 11 (.slice pu5 es.length cu5) (es), .join (es.map enR), .join (RMR B11 (Rm.mk rho2 rho3 (es.map toLt) bs) va vb), .blk N9 9 ([.string (rootB (seedB 2)), .string (rootB (seedB 3))])] W) hM ?_
              clear hM
              rintro Y37 hM
              refine tF 11 [.val 0 (some 133) (.int .i64 (pa : Int)), .alt 1 (some 134) (.bool (decide (0 ≤ (pa : Int)))) (.bool true), .val 2 (some 135) (.bool true), .val 3 (some 136) (pt N18 17), .load 4 (some 137) 3 (pt N18 17) (.int .i64 xo.nw), .val 5 (some 138) (pt N18 1), .val 6 (some 139) (pt N18 15), .load 7 (some 140) 3 (pt N18 15) (.int .i64 xo.b.un), .val 8 (some 141) (.bool (decide (xo.nw ≤ xo.b.un))), .val 9 (some 142) (.bool (decide (xo.nw ≤ xo.b.un))), .val 10 (some 11) (.bool (decide (xo.nw ≤ xo.b.un)))] ⟨congrArg Value.bool (decide_eq_true (Int.natCast_nonneg _)), ld_any _ _ Tryz.underlying3 rfl (hM.at 0 rfl) 17 rfl, ld_any _ _ Tryz.underlying3 rfl (hM.at 0 rfl) 15 rfl, trivial⟩ ?_
              refine dF ?_
              try simp only [puts, Tk.put, Act.put, List.setIfInBounds_toArray, List.set_cons_zero, List.set_cons_succ]
              go_upto_region 38 with fail
              refine wp_region_fromM (fun W => Sep w [] [.blk N18 38 (oqc xo), .own enc 45 11 (.slice pu5 es.length cu5) (es), .join (es.map enR), .join (RMR B11 (Rm.mk rho2 rho3 (es.map toLt) bs) va vb), .blk N9 9 ([.string (rootB (seedB 2)), .string (rootB (seedB 3))])] W) hM ?_
              clear hM
              rintro Y38 hM
              refine tF 1 [.val 0 (some 12) (.int .i64 0)] trivial ?_
              refine dF ?_
              try simp only [puts, Tk.put, Act.put, List.setIfInBounds_toArray, List.set_cons_zero, List.set_cons_succ]
              go_upto_block 4 with fail
              refine wp_cut_fit [.k (.slice pl l.length cl), .k (undef), .k (s1 2), .k (.slice (some ⟨N9, 0, none⟩) 2 2), .k (pt B11 0), .k (.slice pu5 es.length cu5), .k (.int .i64 (j : Int)), .k (pt N18 0), .k (.int .i64 (pa : Int)), .k (s1 9), .k (s1 10), .s 11, .s 12, .k (s1 13), .k (s1 14), .k (s1 15), .k (s1 16), .k (s1 17), .k (s1 18), .k (s1 19), .k (s1 20), .s 21, .s 22, .s 23, .s 24, .s 25, .s 26, .s 27, .s 28, .s 29, .s 30, .s 31, .s 32, .s 33, .s 34, .s 35, .s 36, .s 37, .s 38, .s 39, .s 40, .s 41, .s 42, .s 43, .s 44, .s 45, .s 46, .s 47, .s 48, .s 49, .s 50, .s 51, .s 52, .k (.int .i64 ((atC xo.kd 3 : Nat) : Int)), .s 54, .s 55, .s 56, .s 57, .s 58, .s 59, .s 60, .s 61, .s 62, .s 63, .s 64, .s 65, .s 66, .s 67, .s 68, .s 69, .s 70, .s 71, .s 72, .s 73, .s 74, .s 75, .s 76, .s 77, .s 78, .s 79, .s 80, .s 81, .s 82, .s 83, .s 84, .k (.bool false), .s 86, .s 87, .s 88, .s 89, .s 90, .s 91, .s 92, .s 93, .s 94, .s 95, .s 96, .s 97, .s 98, .s 99, .s 100, .s 101, .s 102, .s 103, .s 104, .s 105, .s 106, .s 107, .s 108, .s 109, .s 110, .s 111, .k (s1 112), .s 113, .s 114, .s 115, .s 116, .s 117, .s 118, .s 119, .k (s1 120), .s 121, .s 122, .s 123, .s 124, .k (s1 125), .s 126, .s 127, .s 128, .s 129, .s 130, .k (.bool true), .s 132, .s 133, .s 134, .s 135, .s 136, .s 137, .s 138, .s 139, .s 140, .s 141, .s 142, .s 143, .s 144, .s 145, .s 146, .s 147, .s 148, .s 149, .s 150, .s 151, .s 152, .s 153, .s 154, .s 155, .s 156, .s 157, .s 158, .s 159, .s 160, .s 161, .s 162, .s 163, .s 164, .s 165, .s 166, .s 167, .s 168, .s 169, .s 170, .s 171, .s 172, .s 173, .s 174, .s 175, .s 176, .s 177, .s 178, .s 179, .s 180, .s 181, .s 182, .s 183, .s 184, .s 185, .s 186, .s 187, .s 188, .s 189, .s 190, .s 191, .s 192, .s 193, .s 194, .s 195, .s 196, .s 197, .s 198, .s 199, .s 200, .s 201, .s 202, .s 203, .s 204, .s 205, .s 206, .s 207, .s 208, .s 209, .s 210, .s 211, .s 212, .s 213, .s 214, .s 215, .s 216, .s 217, .s 218, .s 219, .s 220, .s 221, .s 222, .s 223, .s 224, .s 225, .s 226, .s 227, .s 228, .s 229, .s 230, .s 231, .s 232, .s 233, .s 234, .s 235, .s 236, .s 237, .s 238, .s 239, .s 240, .s 241, .s 242, .s 243, .s 244, .s 245, .s 246, .s 247, .s 248, .s 249, .s 250, .s 251, .s 252, .s 253, .s 254, .s 255, .s 256, .s 257, .s 258, .s 259, .s 260, .s 261, .s 262, .s 263, .s 264] (fun (s3 : Nat → Value) wc => (s3 11 : Value) = .bool (okN (decide (xo.nw ≤ xo.b.un)) (ea.bs.any (byB xo.b.ro))) ∧ Sep w [] [.blk N18 38 (oqc xo), .own enc 45 11 (.slice pu5 es.length cu5) (es), .join (es.map enR), .join (RMR B11 (Rm.mk rho2 rho3 (es.map toLt) bs) va vb), .blk N9 9 ([.string (rootB (seedB 2)), .string (rootB (seedB 3))])] wc) rfl ?rests3 ?firsts3
              case firsts3 =>
                intro Js3 Ks3 hJs3 hKs3
                go_wp2_with fail
                refine wp_loop_fit [.k (.slice pl l.length cl), .k (undef), .k (s1 2), .k (.slice (some ⟨N9, 0, none⟩) 2 2), .k (pt B11 0), .k (.slice pu5 es.length cu5), .k (.int .i64 (j : Int)), .k (pt N18 0), .k (.int .i64 (pa : Int)), .k (s1 9), .k (s1 10), .s 11, .s 12, .k (s1 13), .k (s1 14), .k (s1 15), .k (s1 16), .k (s1 17), .k (s1 18), .k (s1 19), .k (s1 20), .s 21, .s 22, .s 23, .s 24, .s 25, .s 26, .s 27, .s 28, .s 29, .s 30, .s 31, .s 32, .s 33, .s 34, .s 35, .s 36, .s 37, .s 38, .s 39, .s 40, .s 41, .s 42, .s 43, .s 44, .s 45, .s 46, .s 47, .s 48, .s 49, .s 50, .s 51, .s 52, .k (.int .i64 ((atC xo.kd 3 : Nat) : Int)), .s 54, .s 55, .s 56, .s 57, .s 58, .s 59, .s 60, .s 61, .s 62, .s 63, .s 64, .s 65, .s 66, .s 67, .s 68, .s 69, .s 70, .s 71, .s 72, .s 73, .s 74, .s 75, .s 76, .s 77, .s 78, .s 79, .s 80, .s 81, .s 82, .s 83, .s 84, .k (.bool false), .s 86, .s 87, .s 88, .s 89, .s 90, .s 91, .s 92, .s 93, .s 94, .s 95, .s 96, .s 97, .s 98, .s 99, .s 100, .s 101, .s 102, .s 103, .s 104, .s 105, .s 106, .s 107, .s 108, .s 109, .s 110, .s 111, .k (s1 112), .s 113, .s 114, .s 115, .s 116, .s 117, .s 118, .s 119, .k (s1 120), .s 121, .s 122, .s 123, .s 124, .k (s1 125), .s 126, .s 127, .s 128, .s 129, .s 130, .k (.bool true), .s 132, .s 133, .s 134, .s 135, .s 136, .s 137, .s 138, .s 139, .s 140, .s 141, .s 142, .s 143, .s 144, .s 145, .s 146, .s 147, .s 148, .s 149, .s 150, .s 151, .s 152, .s 153, .s 154, .s 155, .s 156, .s 157, .s 158, .s 159, .s 160, .s 161, .s 162, .s 163, .s 164, .s 165, .s 166, .s 167, .s 168, .s 169, .s 170, .s 171, .s 172, .s 173, .s 174, .s 175, .s 176, .s 177, .s 178, .s 179, .s 180, .s 181, .s 182, .s 183, .s 184, .s 185, .s 186, .s 187, .s 188, .s 189, .s 190, .s 191, .s 192, .s 193, .s 194, .s 195, .s 196, .s 197, .s 198, .s 199, .s 200, .s 201, .s 202, .s 203, .s 204, .s 205, .s 206, .s 207, .s 208, .s 209, .s 210, .s 211, .s 212, .s 213, .s 214, .s 215, .s 216, .s 217, .s 218, .s 219, .s 220, .s 221, .s 222, .s 223, .s 224, .s 225, .s 226, .s 227, .s 228, .s 229, .s 230, .s 231, .s 232, .s 233, .s 234, .s 235, .s 236, .s 237, .s 238, .s 239, .s 240, .s 241, .s 242, .s 243, .s 244, .s 245, .s 246, .s 247, .s 248, .s 249, .s 250, .s 251, .s 252, .s 253, .s 254, .s 255, .s 256, .s 257, .s 258, .s 259, .s 260, .s 261, .s 262, .s 263, .s 264] (fun (s4 : Nat → Value) wr => ∃ kk : Nat, kk ≤ ea.bs.length ∧ (s4 12 : Value) = .int .i64 (kk : Int) ∧ (s4 11 : Value) = .bool (okN (decide (xo.nw ≤ xo.b.un)) ((ea.bs.take kk).any (byB xo.b.ro))) ∧ Sep w [] [.blk N18 38 (oqc xo), .own enc 45 11 (.slice pu5 es.length cu5) (es), .join (es.map enR), .join (RMR B11 (Rm.mk rho2 rho3 (es.map toLt) bs) va vb), .blk N9 9 ([.string (rootB (seedB 2)), .string (rootB (seedB 3))])] wr) (fun (s4 : Nat → Value) _ => ea.bs.length - (intOf (s4 12 : Value)).toNat) rfl rfl (show (fun (u11 u12 : Value) => ∃ kk : Nat, kk ≤ ea.bs.length ∧ u12 = .int .i64 (kk : Int) ∧ u11 = .bool (okN (decide (xo.nw ≤ xo.b.un)) ((ea.bs.take kk).any (byB xo.b.ro))) ∧ Sep w [] [.blk N18 38 (oqc xo), .own enc 45 11 (.slice pu5 es.length cu5) (es), .join (es.map enR), .join (RMR B11 (Rm.mk rho2 rho3 (es.map toLt) bs) va vb), .blk N9 9 ([.string (rootB (seedB 2)), .string (rootB (seedB 3))])] _) (.bool (decide (xo.nw ≤ xo.b.un))) (.int .i64 0) from ⟨0, Nat.zero_le _, rfl, congrArg Value.bool (okN_0 _).symm, hM⟩) ?_
                clear hM
                intro s4 wr hrel Js4 Ks4 hJs4 hKs4
                dsimp only [fillS]
                try dsimp only at hrel
                try dsimp only at hJs4
                generalize s4 11 = u11 at hrel hJs4 ⊢
                generalize s4 12 = u12 at hrel hJs4 ⊢
                obtain ⟨kk, hkk, rfl, rfl, hM⟩ := hrel
                have HKK := Lib.hid hkk
                clear hkk
                by_cases hlt : kk < ea.bs.length
                case pos =>
                  obtain ⟨y, hy⟩ : ∃ y, ea.bs[kk]? = some y := ⟨_, List.getElem?_eq_getElem hlt⟩
                  have HY := Lib.hid hy
                  obtain ⟨br, or, hit, hct⟩ := ((hM.oka 2 rfl).en HEa.out).elem bdc_len hy Tryz.underlying43 (fun W => by kernel_rfl)
                  have HIr := Lib.hid hit
                  have HCr := Lib.hid hct
                  clear hit hct
                  have HLT := Lib.hid hlt
                  clear hy hlt
                  go_upto_region 39 with fail
                  refine wp_region_fromM (fun W => Sep w [] [.blk N18 38 (oqc xo), .own enc 45 11 (.slice pu5 es.length cu5) (es), .join (es.map enR), .join (RMR B11 (Rm.mk rho2 rho3 (es.map toLt) bs) va vb), .blk N9 9 ([.string (rootB (seedB 2)), .string (rootB (seedB 3))])] W) hM ?_
                  clear hM
                  rintro Y39 hM
                  refine tF 2 [.val 0 (some 143) (.bool (okN (decide (xo.nw ≤ xo.b.un)) ((ea.bs.take kk).any (byB xo.b.ro)))), .val 1 (some 144) (.bool (okN (decide (xo.nw ≤ xo.b.un)) ((ea.bs.take kk).any (byB xo.b.ro))))] trivial ?_
                  cases hb5 : okN (decide (xo.nw ≤ xo.b.un)) ((ea.bs.take kk).any (byB xo.b.ro)) with
                  | false =>
                    have Hhb5 := Lib.hid hb5
                    clear hb5
                    refine tF 8 [.skip 2 (some 145), .skip 3 (some 146), .skip 4 (some 147), .skip 5 (some 148), .skip 6 (some 149), .skip 7 (some 150)] trivial ?_
                    refine wpFrom_not (d := some 151) (by kernel_rfl) ?_
                    refine tF 11 [.skip 9 (some 152), .val 10 (some 153) (.bool false)] trivial ?_
                    refine dF ?_
                    try simp only [puts, Tk.put, Act.put, List.setIfInBounds_toArray, List.set_cons_zero, List.set_cons_succ]
                    go_wp2_with fail
                    refine Met.intro (hJs3 _ _ rfl (show (fun (u11 : Value) => u11 = .bool (okN (decide (xo.nw ≤ xo.b.un)) (ea.bs.any (byB xo.b.ro))) ∧ Sep w [] [.blk N18 38 (oqc xo), .own enc 45 11 (.slice pu5 es.length cu5) (es), .join (es.map enR), .join (RMR B11 (Rm.mk rho2 rho3 (es.map toLt) bs) va vb), .blk N9 9 ([.string (rootB (seedB 2)), .string (rootB (seedB 3))])] _) (.bool false) from ⟨congrArg Value.bool (okN_out Hhb5.out).symm, hM⟩))
                  | true =>
                    have Hhb5 := Lib.hid hb5
                    clear hb5
                    refine tF 11 [.val 2 (some 145) (.int .i64 (kk : Int)), .val 3 (some 146) (.slice pu5 es.length cu5), .val 4 (some 147) (.int .i64 (pa : Int)), .idx 5 (some 148) 29 (.slice pu5 es.length cu5) (.int .i64 (pa : Int)) (pt bna ona), .val 6 (some 149) (pt bna (ona + 10)), .load 7 (some 150) 43 (pt bna (ona + 10)) (ea.sl), .val 8 (some 151) (.int .i64 (ea.bs.length : Int)), .alt 9 (some 152) (.bool (decide ((kk : Int) < (ea.bs.length : Int)))) (.bool true), .val 10 (some 153) (.bool true)] ⟨HIna.out _, ld_cell _ _ Tryz.underlying43 rfl (HCna.out _ (hM.oka 1 rfl) 10 _ rfl), congrArg Value.bool (decide_eq_true (by have h := HLT.out; omega)), trivial⟩ ?_
                    refine dF ?_
                    try simp only [puts, Tk.put, Act.put, List.setIfInBounds_toArray, List.set_cons_zero, List.set_cons_succ]
                    go_upto_region 41 with fail
                    refine wp_region_M (fun W => Sep w [] [.blk N18 38 (oqc xo), .own enc 45 11 (.slice pu5 es.length cu5) (es), .join (es.map enR), .join (RMR B11 (Rm.mk rho2 rho3 (es.map toLt) bs) va vb), .blk N9 9 ([.string (rootB (seedB 2)), .string (rootB (seedB 3))])] W) (fun W => Sep w [] [.blk N18 38 (oqc xo), .own enc 45 11 (.slice pu5 es.length cu5) (es), .join (es.map enR), .join (RMR B11 (Rm.mk rho2 rho3 (es.map toLt) bs) va vb), .blk N9 9 ([.string (rootB (seedB 2)), .string (rootB (seedB 3))])] W) hmx hM.drew ?_
                    clear hM
                    rintro Y40 hM
                    have hS := hM.sub (.cons_cons _ (.cons_cons _ (.cons_cons _ (.cons_cons _ (.cons_cons _ .slnil)))))
                    refine tD 0 [.val 0 (some 156) (.slice pu5 es.length cu5), .val 1 (some 157) (.int .i64 (pa : Int)), .idx 2 (some 158) 29 (.slice pu5 es.length cu5) (.int .i64 (pa : Int)) (pt bna ona), .val 3 (some 159) (pt bna (ona + 10)), .load 4 (some 160) 43 (pt bna (ona + 10)) (ea.sl), .val 5 (some 161) (.int .i64 (kk : Int)), .idx 6 (some 162) 43 (ea.sl) (.int .i64 (kk : Int)) (pt br or), .val 7 (some 163) (pt br or), .load 8 (some 164) 3 (pt br or) (.int .i64 y.ro), .val 9 (some 165) (pt N18 1), .val 10 (some 166) (pt N18 1), .load 11 (some 167) 3 (pt N18 1) (.int .i64 xo.b.ro), .val 12 (some 168) (.bool (y.ro != xo.b.ro)), .val 13 (some 11) (.bool (y.ro != xo.b.ro))] ⟨fun W h => HIna.out _, fun W h => ld_cell _ _ Tryz.underlying43 rfl (HCna.out _ (h.oka 1 rfl) 10 _ rfl), fun W h => HIr.out _, fun W h => ld_cell _ _ Tryz.underlying3 rfl (HCr.out _ ((h.oka 2 rfl).en HEa.out) 0 _ rfl), fun W h => ld_any _ _ Tryz.underlying3 rfl (h.at 0 rfl) 1 rfl, trivial⟩ hS ?_
                    refine dD ?_
                    try simp only [puts, Tk.put, Act.put, List.setIfInBounds_toArray, List.set_cons_zero, List.set_cons_succ]
                    clear hS
                    go_upto_region 40 with fail
                    refine wp_region_fromM (fun W => Sep w [] [.blk N18 38 (oqc xo), .own enc 45 11 (.slice pu5 es.length cu5) (es), .join (es.map enR), .join (RMR B11 (Rm.mk rho2 rho3 (es.map toLt) bs) va vb), .blk N9 9 ([.string (rootB (seedB 2)), .string (rootB (seedB 3))])] W) hM ?_
                    clear hM
                    rintro Y41 hM
                    refine tF 3 [.val 0 (some 154) (.int .i64 (kk : Int)), .alt 1 (some 155) (.int .i64 (IntKind.i64.wrap ((kk : Int) + 1))) (.int .i64 ((kk + 1 : Nat) : Int)), .val 2 (some 12) (.int .i64 ((kk + 1 : Nat) : Int))] ⟨congrArg (Value.int .i64) ((IntWalk.i64_in _ (by have := HEL.out; have := HLT.out; omega)).trans (by omega)), trivial⟩ ?_
                    refine dF ?_
                    try simp only [puts, Tk.put, Act.put, List.setIfInBounds_toArray, List.set_cons_zero, List.set_cons_succ]
                    go_wp2_with fail
                    refine Met.intro (hJs4 _ _ rfl (show (fun (u11 u12 : Value) => ∃ kk : Nat, kk ≤ ea.bs.length ∧ u12 = .int .i64 (kk : Int) ∧ u11 = .bool (okN (decide (xo.nw ≤ xo.b.un)) ((ea.bs.take kk).any (byB xo.b.ro))) ∧ Sep w [] [.blk N18 38 (oqc xo), .own enc 45 11 (.slice pu5 es.length cu5) (es), .join (es.map enR), .join (RMR B11 (Rm.mk rho2 rho3 (es.map toLt) bs) va vb), .blk N9 9 ([.string (rootB (seedB 2)), .string (rootB (seedB 3))])] _) (.bool (y.ro != xo.b.ro)) (.int .i64 ((kk + 1 : Nat) : Int)) from ⟨kk + 1, HLT.out, rfl, by rw [take_anyG HY.out]; exact congrArg Value.bool (okN_step Hhb5.out), hM⟩) ?_)
                    show ea.bs.length - (intOf (.int .i64 ((kk + 1 : Nat) : Int) : Value)).toNat < ea.bs.length - (intOf (.int .i64 (kk : Int) : Value)).toNat
                    have := HLT.out; simp [intOf]; omega
                case neg =>
                  have HGEK := Lib.hid hlt
                  clear hlt
                  go_upto_region 39 with fail
                  refine wp_region_fromM (fun W => Sep w [] [.blk N18 38 (oqc xo), .own enc 45 11 (.slice pu5 es.length cu5) (es), .join (es.map enR), .join (RMR B11 (Rm.mk rho2 rho3 (es.map toLt) bs) va vb), .blk N9 9 ([.string (rootB (seedB 2)), .string (rootB (seedB 3))])] W) hM ?_
                  clear hM
                  rintro Y42 hM
                  refine tF 2 [.val 0 (some 143) (.bool (okN (decide (xo.nw ≤ xo.b.un)) ((ea.bs.take kk).any (byB xo.b.ro)))), .val 1 (some 144) (.bool (okN (decide (xo.nw ≤ xo.b.un)) ((ea.bs.take kk).any (byB xo.b.ro))))] trivial ?_
                  cases hb6 : okN (decide (xo.nw ≤ xo.b.un)) ((ea.bs.take kk).any (byB xo.b.ro)) with
                  | false =>
                    have Hhb6 := Lib.hid hb6
                    clear hb6
                    refine tF 8 [.skip 2 (some 145), .skip 3 (some 146), .skip 4 (some 147), .skip 5 (some 148), .skip 6 (some 149), .skip 7 (some 150)] trivial ?_
                    refine wpFrom_not (d := some 151) (by kernel_rfl) ?_
                    refine tF 11 [.skip 9 (some 152), .val 10 (some 153) (.bool false)] trivial ?_
                    refine dF ?_
                    try simp only [puts, Tk.put, Act.put, List.setIfInBounds_toArray, List.set_cons_zero, List.set_cons_succ]
                    go_wp2_with fail
                    refine Met.intro (hJs3 _ _ rfl (show (fun (u11 : Value) => u11 = .bool (okN (decide (xo.nw ≤ xo.b.un)) (ea.bs.any (byB xo.b.ro))) ∧ Sep w [] [.blk N18 38 (oqc xo), .own enc 45 11 (.slice pu5 es.length cu5) (es), .join (es.map enR), .join (RMR B11 (Rm.mk rho2 rho3 (es.map toLt) bs) va vb), .blk N9 9 ([.string (rootB (seedB 2)), .string (rootB (seedB 3))])] _) (.bool false) from ⟨congrArg Value.bool (okN_out Hhb6.out).symm, hM⟩))
                  | true =>
                    have Hhb6 := Lib.hid hb6
                    clear hb6
                    refine tF 11 [.val 2 (some 145) (.int .i64 (kk : Int)), .val 3 (some 146) (.slice pu5 es.length cu5), .val 4 (some 147) (.int .i64 (pa : Int)), .idx 5 (some 148) 29 (.slice pu5 es.length cu5) (.int .i64 (pa : Int)) (pt bna ona), .val 6 (some 149) (pt bna (ona + 10)), .load 7 (some 150) 43 (pt bna (ona + 10)) (ea.sl), .val 8 (some 151) (.int .i64 (ea.bs.length : Int)), .alt 9 (some 152) (.bool (decide ((kk : Int) < (ea.bs.length : Int)))) (.bool false), .val 10 (some 153) (.bool false)] ⟨HIna.out _, ld_cell _ _ Tryz.underlying43 rfl (HCna.out _ (hM.oka 1 rfl) 10 _ rfl), congrArg Value.bool (decide_eq_false (by have h := HGEK.out; omega)), trivial⟩ ?_
                    refine dF ?_
                    try simp only [puts, Tk.put, Act.put, List.setIfInBounds_toArray, List.set_cons_zero, List.set_cons_succ]
                    go_wp2_with fail
                    refine Met.intro (hJs3 _ _ rfl (show (fun (u11 : Value) => u11 = .bool (okN (decide (xo.nw ≤ xo.b.un)) (ea.bs.any (byB xo.b.ro))) ∧ Sep w [] [.blk N18 38 (oqc xo), .own enc 45 11 (.slice pu5 es.length cu5) (es), .join (es.map enR), .join (RMR B11 (Rm.mk rho2 rho3 (es.map toLt) bs) va vb), .blk N9 9 ([.string (rootB (seedB 2)), .string (rootB (seedB 3))])] _) (.bool true) from ⟨congrArg Value.bool (okN_all Hhb6.out (by have := HGEK.out; omega)).symm, hM⟩))
              case rests3 =>
                intro s3 wc hcut
                dsimp only [fillS]
                try dsimp only at hcut
                generalize s3 11 = u11 at hcut ⊢
                obtain ⟨rfl, hM⟩ := hcut
                go_upto_region 42 with fail
                refine wp_cut_fit [.k (.slice pl l.length cl), .k (undef), .k (s1 2), .k (.slice (some ⟨N9, 0, none⟩) 2 2), .k (pt B11 0), .k (.slice pu5 es.length cu5), .k (.int .i64 (j : Int)), .k (pt N18 0), .k (.int .i64 (pa : Int)), .k (s1 9), .k (s1 10), .s 11, .k (s3 12), .k (s1 13), .k (s1 14), .k (s1 15), .k (s1 16), .k (s1 17), .k (s1 18), .k (s1 19), .k (s1 20), .s 21, .s 22, .s 23, .s 24, .s 25, .s 26, .s 27, .s 28, .s 29, .s 30, .s 31, .s 32, .s 33, .s 34, .s 35, .s 36, .s 37, .s 38, .s 39, .s 40, .s 41, .s 42, .s 43, .s 44, .s 45, .s 46, .s 47, .s 48, .s 49, .s 50, .s 51, .s 52, .k (.int .i64 ((atC xo.kd 3 : Nat) : Int)), .s 54, .s 55, .s 56, .s 57, .s 58, .s 59, .s 60, .s 61, .s 62, .s 63, .s 64, .s 65, .s 66, .s 67, .s 68, .s 69, .s 70, .s 71, .s 72, .s 73, .s 74, .s 75, .s 76, .s 77, .s 78, .s 79, .s 80, .s 81, .s 82, .s 83, .s 84, .k (.bool false), .s 86, .s 87, .s 88, .s 89, .s 90, .s 91, .s 92, .s 93, .s 94, .s 95, .s 96, .s 97, .s 98, .s 99, .s 100, .s 101, .s 102, .s 103, .s 104, .s 105, .s 106, .s 107, .s 108, .s 109, .s 110, .s 111, .k (s1 112), .s 113, .s 114, .s 115, .s 116, .s 117, .s 118, .s 119, .k (s1 120), .s 121, .s 122, .s 123, .s 124, .k (s1 125), .s 126, .s 127, .s 128, .s 129, .s 130, .k (.bool true), .s 132, .s 133, .s 134, .s 135, .s 136, .s 137, .s 138, .s 139, .s 140, .s 141, .s 142, .s 143, .s 144, .s 145, .s 146, .s 147, .s 148, .s 149, .s 150, .s 151, .s 152, .s 153, .s 154, .s 155, .s 156, .s 157, .s 158, .s 159, .s 160, .s 161, .s 162, .s 163, .s 164, .s 165, .s 166, .s 167, .s 168, .s 169, .s 170, .s 171, .s 172, .s 173, .s 174, .s 175, .s 176, .s 177, .s 178, .s 179, .s 180, .s 181, .s 182, .s 183, .s 184, .s 185, .s 186, .s 187, .s 188, .s 189, .s 190, .s 191, .s 192, .s 193, .s 194, .s 195, .s 196, .s 197, .s 198, .s 199, .s 200, .s 201, .s 202, .s 203, .s 204, .s 205, .s 206, .s 207, .s 208, .s 209, .s 210, .s 211, .s 212, .s 213, .s 214, .s 215, .s 216, .s 217, .s 218, .s 219, .s 220, .s 221, .s 222, .s 223, .s 224, .s 225, .s 226, .s 227, .s 228, .s 229, .s 230, .s 231, .s 232, .s 233, .s 234, .s 235, .s 236, .s 237, .s 238, .s 239, .s 240, .s 241, .s 242, .s 243, .s 244, .s 245, .s 246, .s 247, .s 248, .s 249, .s 250, .s 251, .s 252, .s 253, .s 254, .s 255, .s 256, .s 257, .s 258, .s 259, .s 260, .s 261, .s 262, .s 263, .s 264] (fun (s5 : Nat → Value) wc => (s5 11 : Value) = .bool (okV (okN (decide (xo.nw ≤ xo.b.un)) (ea.bs.any (byB xo.b.ro))) (validB xo.b (rootR (Rm.mk rho2 rho3 (es.map toLt) bs) xo.b.ro))) ∧ Sep w [] [.blk N18 38 (oqc xo), .own enc 45 11 (.slice pu5 es.length cu5) (es), .join (es.map enR), .join (RMR B11 (Rm.mk rho2 rho3 (es.map toLt) bs) va vb), .blk N9 9 ([.string (rootB (seedB 2)), .string (rootB (seedB 3))])] wc) rfl ?rests5 ?firsts5
                case firsts5 =>
                  intro Js5 Ks5 hJs5 hKs5
                  refine wp_region_M (fun W => Sep w [] [.blk N18 38 (oqc xo), .own enc 45 11 (.slice pu5 es.length cu5) (es), .join (es.map enR), .join (RMR B11 (Rm.mk rho2 rho3 (es.map toLt) bs) va vb), .blk N9 9 ([.string (rootB (seedB 2)), .string (rootB (seedB 3))])] W) (fun W => Sep w [] [.blk N18 38 (oqc xo), .own enc 45 11 (.slice pu5 es.length cu5) (es), .join (es.map enR), .join (RMR B11 (Rm.mk rho2 rho3 (es.map toLt) bs) va vb), .blk N9 9 ([.string (rootB (seedB 2)), .string (rootB (seedB 3))])] W) hmx hM.drew ?_
                  clear hM
                  rintro Y43 hM
                  have hS := hM.sub (.cons_cons _ (.cons_cons _ (.cons_cons _ (.cons_cons _ (.cons_cons _ .slnil)))))
                  refine tD 24 [.val 0 (some 169) (.bool (okN (decide (xo.nw ≤ xo.b.un)) (ea.bs.any (byB xo.b.ro)))), .val 1 (some 170) (.bool (okN (decide (xo.nw ≤ xo.b.un)) (ea.bs.any (byB xo.b.ro))))] trivial hS ?_
                  cases hb7 : okN (decide (xo.nw ≤ xo.b.un)) (ea.bs.any (byB xo.b.ro)) with
                  | false =>
                    have Hhb7 := Lib.hid hb7
                    clear hb7
                    refine tD 3 [.skip 2 (some 171), .skip 3 (some 172), .skip 4 (some 173), .skip 5 (some 174), .skip 6 (some 175), .skip 7 (some 176), .skip 8 (some 177), .skip 9 (some 178), .skip 10 (some 179), .skip 11 (some 180), .val 12 (some 181) (.bool false), .val 13 (some 182) (.bool false), .skip 14 (some 183), .skip 15 (some 184), .skip 16 (some 185), .skip 17 (some 186), .skip 18 (some 187), .skip 19 (some 188), .skip 20 (some 189), .skip 21 (some 190), .skip 22 (some 191)] trivial hS ?_
                    refine oD 23 2 (stepH_not (d := some 192) (by kernel_rfl) (And.intro hS ?_))
                    refine tD 0 [.val 24 (some 193) (.bool false), .val 25 (some 11) (.bool false)] trivial hS ?_
                    refine dD ?_
                    try simp only [puts, Tk.put, Act.put, List.setIfInBounds_toArray, List.set_cons_zero, List.set_cons_succ]
                    clear hS
                    go_wp2_with fail
                    refine Met.intro (hJs5 _ _ rfl (show (fun (u11 : Value) => u11 = .bool (okV (okN (decide (xo.nw ≤ xo.b.un)) (ea.bs.any (byB xo.b.ro))) (validB xo.b (rootR (Rm.mk rho2 rho3 (es.map toLt) bs) xo.b.ro))) ∧ Sep w [] [.blk N18 38 (oqc xo), .own enc 45 11 (.slice pu5 es.length cu5) (es), .join (es.map enR), .join (RMR B11 (Rm.mk rho2 rho3 (es.map toLt) bs) va vb), .blk N9 9 ([.string (rootB (seedB 2)), .string (rootB (seedB 3))])] _) (.bool false) from ⟨congrArg Value.bool (okV_f Hhb7.out).symm, hM.pick [0, 1, 2, 3, 4] (by decide) rfl⟩))
                  | true =>
                    have Hhb7 := Lib.hid hb7
                    clear hb7
                    refine tD 19 [.val 2 (some 171) (pt N18 1), .val 3 (some 172) (pt N18 1), .load 4 (some 173) 3 (pt N18 1) (.int .i64 xo.b.ro), .val 5 (some 174) (.bool (xo.b.ro == 2)), .val 6 (some 175) (.bool (xo.b.ro == 2))] ⟨fun W h => ld_any _ _ Tryz.underlying3 rfl (h.at 0 rfl) 1 rfl, trivial⟩ hS ?_
                    cases hb8 : xo.b.ro == 2 with
                    | false =>
                      have Hhb8 := Lib.hid hb8
                      clear hb8
                      refine tD 12 [.val 7 (some 176) (pt N18 1), .val 8 (some 177) (pt N18 1), .load 9 (some 178) 3 (pt N18 1) (.int .i64 xo.b.ro), .val 10 (some 179) (.bool (xo.b.ro == 3)), .val 11 (some 180) (.bool (xo.b.ro == 3)), .val 12 (some 181) (.bool (xo.b.ro == 3)), .val 13 (some 182) (.bool (xo.b.ro == 3))] ⟨fun W h => ld_any _ _ Tryz.underlying3 rfl (h.at 0 rfl) 1 rfl, trivial⟩ hS ?_
                      cases hb9 : xo.b.ro == 3 with
                      | false =>
                        have Hhb9 := Lib.hid hb9
                        clear hb9
                        refine tD 3 [.skip 14 (some 183), .skip 15 (some 184), .skip 16 (some 185), .skip 17 (some 186), .skip 18 (some 187), .skip 19 (some 188), .skip 20 (some 189), .skip 21 (some 190), .skip 22 (some 191)] trivial hS ?_
                        refine oD 23 2 (stepH_not (d := some 192) (by kernel_rfl) (And.intro hS ?_))
                        refine tD 0 [.val 24 (some 193) (.bool false), .val 25 (some 11) (.bool false)] trivial hS ?_
                        refine dD ?_
                        try simp only [puts, Tk.put, Act.put, List.setIfInBounds_toArray, List.set_cons_zero, List.set_cons_succ]
                        clear hS
                        go_wp2_with fail
                        refine Met.intro (hJs5 _ _ rfl (show (fun (u11 : Value) => u11 = .bool (okV (okN (decide (xo.nw ≤ xo.b.un)) (ea.bs.any (byB xo.b.ro))) (validB xo.b (rootR (Rm.mk rho2 rho3 (es.map toLt) bs) xo.b.ro))) ∧ Sep w [] [.blk N18 38 (oqc xo), .own enc 45 11 (.slice pu5 es.length cu5) (es), .join (es.map enR), .join (RMR B11 (Rm.mk rho2 rho3 (es.map toLt) bs) va vb), .blk N9 9 ([.string (rootB (seedB 2)), .string (rootB (seedB 3))])] _) (.bool false) from ⟨congrArg Value.bool (okV_n Hhb7.out (valid_ro (of_decide_eq_false Hhb8.out) (of_decide_eq_false Hhb9.out))).symm, hM.pick [0, 1, 2, 3, 4] (by decide) rfl⟩))
                      | true =>
                        have Hhb9 := Lib.hid hb9
                        clear hb9
                        refine tD 3 [.val 14 (some 183) (pt N18 1), .load 15 (some 184) 36 (pt N18 1) (bdv xo.b), .val 16 (some 185) (.slice (some ⟨N9, 0, none⟩) 2 2), .val 17 (some 186) (pt N18 1), .val 18 (some 187) (pt N18 1), .load 19 (some 188) 3 (pt N18 1) (.int .i64 xo.b.ro), .alt 20 (some 189) (.int .i64 (IntKind.i64.wrap (xo.b.ro - 2))) (.int .i64 1), .idx 21 (some 190) 26 (.slice (some ⟨N9, 0, none⟩) 2 2) (.int .i64 1) (pt N9 1), .load 22 (some 191) 9 (pt N9 1) (.string (rootB (seedB 3)))] ⟨fun W h => load_part (h.at 0 rfl) 1 (bdc xo.b) rfl _ _ Tryz.underlying36 rfl (by kernel_rfl), fun W h => ld_any _ _ Tryz.underlying3 rfl (h.at 0 rfl) 1 rfl, congrArg (Value.int .i64) (by rw [show xo.b.ro = 3 from of_decide_eq_true Hhb9.out]; decide), fun W h => idx_str21 _ _, fun W h => ld_any _ _ Tryz.underlying9 rfl (h.at 4 rfl) 1 rfl, trivial⟩ hS ?_
                        refine oD 23 2 (cD (some 192) 12 #[bdv xo.b, .string (rootB (seedB 3))] ((refValid8_any xo.b HXO.out.b (rootB (seedB 3)) _).mono ?_))
                        rintro e Y44 ⟨rfl, hb⟩
                        refine And.intro (hS.below hb) ?_
                        replace hS := hS.below hb
                        replace hM := hM.below hb
                        clear hb
                        refine tD 0 [.val 24 (some 193) (.bool (validB xo.b (rootB (seedB 3)))), .val 25 (some 11) (.bool (validB xo.b (rootB (seedB 3))))] trivial hS ?_
                        refine dD ?_
                        try simp only [puts, Tk.put, Act.put, List.setIfInBounds_toArray, List.set_cons_zero, List.set_cons_succ]
                        clear hS
                        go_wp2_with fail
                        refine Met.intro (hJs5 _ _ rfl (show (fun (u11 : Value) => u11 = .bool (okV (okN (decide (xo.nw ≤ xo.b.un)) (ea.bs.any (byB xo.b.ro))) (validB xo.b (rootR (Rm.mk rho2 rho3 (es.map toLt) bs) xo.b.ro))) ∧ Sep w [] [.blk N18 38 (oqc xo), .own enc 45 11 (.slice pu5 es.length cu5) (es), .join (es.map enR), .join (RMR B11 (Rm.mk rho2 rho3 (es.map toLt) bs) va vb), .blk N9 9 ([.string (rootB (seedB 2)), .string (rootB (seedB 3))])] _) (.bool (validB xo.b (rootB (seedB 3)))) from ⟨congrArg Value.bool (okV_v Hhb7.out (by rw [root_1 (of_decide_eq_true Hhb9.out)])).symm, hM.pick [0, 1, 2, 3, 4] (by decide) rfl⟩))
                    | true =>
                      have Hhb8 := Lib.hid hb8
                      clear hb8
                      refine tD 3 [.skip 7 (some 176), .skip 8 (some 177), .skip 9 (some 178), .skip 10 (some 179), .val 11 (some 180) (.bool true), .val 12 (some 181) (.bool true), .val 13 (some 182) (.bool true), .val 14 (some 183) (pt N18 1), .load 15 (some 184) 36 (pt N18 1) (bdv xo.b), .val 16 (some 185) (.slice (some ⟨N9, 0, none⟩) 2 2), .val 17 (some 186) (pt N18 1), .val 18 (some 187) (pt N18 1), .load 19 (some 188) 3 (pt N18 1) (.int .i64 xo.b.ro), .alt 20 (some 189) (.int .i64 (IntKind.i64.wrap (xo.b.ro - 2))) (.int .i64 0), .idx 21 (some 190) 26 (.slice (some ⟨N9, 0, none⟩) 2 2) (.int .i64 0) (pt N9 0), .load 22 (some 191) 9 (pt N9 0) (.string (rootB (seedB 2)))] ⟨fun W h => load_part (h.at 0 rfl) 1 (bdc xo.b) rfl _ _ Tryz.underlying36 rfl (by kernel_rfl), fun W h => ld_any _ _ Tryz.underlying3 rfl (h.at 0 rfl) 1 rfl, congrArg (Value.int .i64) (by rw [show xo.b.ro = 2 from of_decide_eq_true Hhb8.out]; decide), fun W h => idx_str20 _ _, fun W h => ld_any _ _ Tryz.underlying9 rfl (h.at 4 rfl) 0 rfl, trivial⟩ hS ?_
                      refine oD 23 2 (cD (some 192) 12 #[bdv xo.b, .string (rootB (seedB 2))] ((refValid8_any xo.b HXO.out.b (rootB (seedB 2)) _).mono ?_))
                      rintro e Y45 ⟨rfl, hb⟩
                      refine And.intro (hS.below hb) ?_
                      replace hS := hS.below hb
                      replace hM := hM.below hb
                      clear hb
                      refine tD 0 [.val 24 (some 193) (.bool (validB xo.b (rootB (seedB 2)))), .val 25 (some 11) (.bool (validB xo.b (rootB (seedB 2))))] trivial hS ?_
                      refine dD ?_
                      try simp only [puts, Tk.put, Act.put, List.setIfInBounds_toArray, List.set_cons_zero, List.set_cons_succ]
                      clear hS
                      go_wp2_with fail
                      refine Met.intro (hJs5 _ _ rfl (show (fun (u11 : Value) => u11 = .bool (okV (okN (decide (xo.nw ≤ xo.b.un)) (ea.bs.any (byB xo.b.ro))) (validB xo.b (rootR (Rm.mk rho2 rho3 (es.map toLt) bs) xo.b.ro))) ∧ Sep w [] [.blk N18 38 (oqc xo), .own enc 45 11 (.slice pu5 es.length cu5) (es), .join (es.map enR), .join (RMR B11 (Rm.mk rho2 rho3 (es.map toLt) bs) va vb), .blk N9 9 ([.string (rootB (seedB 2)), .string (rootB (seedB 3))])] _) (.bool (validB xo.b (rootB (seedB 2)))) from ⟨congrArg Value.bool (okV_v Hhb7.out (by rw [root_0 (of_decide_eq_true Hhb8.out)])).symm, hM.pick [0, 1, 2, 3, 4] (by decide) rfl⟩))
                case rests5 =>
                  intro s5 wc hcut
                  dsimp only [fillS]
                  try dsimp only at hcut
                  generalize s5 11 = u11 at hcut ⊢
                  obtain ⟨rfl, hM⟩ := hcut
                  go_upto_region 43 with fail
                  refine wp_region_fromM (fun W => Sep w [] [.blk N18 38 (oqc xo), .own enc 45 11 (.slice pu5 es.length cu5) (es), .join (es.map enR), .join (RMR B11 (Rm.mk rho2 rho3 (es.map toLt) bs) va vb), .blk N9 9 ([.string (rootB (seedB 2)), .string (rootB (seedB 3))])] W) hM ?_
                  clear hM
                  rintro Y46 hM
                  refine tF 5 [.val 0 (some 194) (pt B11 0), .val 1 (some 195) (pt N18 1), .load 2 (some 196) 36 (pt N18 1) (bdv xo.b), .val 3 (some 197) (pt N18 17), .load 4 (some 198) 3 (pt N18 17) (.int .i64 xo.nw)] ⟨load_part (hM.at 0 rfl) 1 (bdc xo.b) rfl _ _ Tryz.underlying36 rfl (by kernel_rfl), ld_any _ _ Tryz.underlying3 rfl (hM.at 0 rfl) 17 rfl, trivial⟩ ?_
                  have hq := rmBid_any xo.b xo.nw _ (hM.oka 3 rfl) HXO.out.b (Nat.le_trans HI.out.len HJB.out)
                  rw [bid_E (e := ea) HEFa.out HEB.out] at hq
                  refine cF (some 199) 13 #[pt B11 0, bdv xo.b, .int .i64 xo.nw] ((hq).mono ?_)
                  rintro e Y47 ⟨rfl, va47, vb47, hT⟩
                  clear hq
                  replace hM := hM.turn 3 rfl hT rfl
                  clear hT
                  refine tF 8 [.val 6 (some 200) (.bool (okV (okN (decide (xo.nw ≤ xo.b.un)) (ea.bs.any (byB xo.b.ro))) (validB xo.b (rootR (Rm.mk rho2 rho3 (es.map toLt) bs) xo.b.ro)))), .alt 7 (some 201) (.bool ((okV (okN (decide (xo.nw ≤ xo.b.un)) (ea.bs.any (byB xo.b.ro))) (validB xo.b (rootR (Rm.mk rho2 rho3 (es.map toLt) bs) xo.b.ro))) != (okV (okN (decide (xo.nw ≤ xo.b.un)) (ea.bs.any (byB xo.b.ro))) (validB xo.b (rootR (Rm.mk rho2 rho3 (es.map toLt) bs) xo.b.ro))))) (.bool false)] ⟨congrArg Value.bool (bne_self_b _), trivial⟩ ?_
                  refine dF ?_
                  try simp only [puts, Tk.put, Act.put, List.setIfInBounds_toArray, List.set_cons_zero, List.set_cons_succ]
                  go_upto_region 45 with fail
                  refine wp_region_fromM (fun W => Sep w [] [.blk N18 38 (oqc xo), .own enc 45 11 (.slice pu5 es.length cu5) (es), .join (es.map enR), .join (RMR B11 (Rm.mk rho2 rho3 (es.map toLt) (bs ++ gotL (okV (okN (decide (xo.nw ≤ xo.b.un)) (ea.bs.any (byB xo.b.ro))) (validB xo.b (rootR (Rm.mk rho2 rho3 (es.map toLt) bs) xo.b.ro))) xo.b)) va47 vb47), .blk N9 9 ([.string (rootB (seedB 2)), .string (rootB (seedB 3))])] W) hM ?_
                  clear hM
                  rintro Y48 hM
                  refine tF 1 [.val 0 (some 202) (.bool (okV (okN (decide (xo.nw ≤ xo.b.un)) (ea.bs.any (byB xo.b.ro))) (validB xo.b (rootR (Rm.mk rho2 rho3 (es.map toLt) bs) xo.b.ro))))] trivial ?_
                  refine dF ?_
                  try simp only [puts, Tk.put, Act.put, List.setIfInBounds_toArray, List.set_cons_zero, List.set_cons_succ]
                  cases hb10 : okV (okN (decide (xo.nw ≤ xo.b.un)) (ea.bs.any (byB xo.b.ro))) (validB xo.b (rootR (Rm.mk rho2 rho3 (es.map toLt) bs) xo.b.ro)) with
                  | false =>
                    have Hhb10 := Lib.hid hb10
                    clear hb10
                    rw [show gotL (okV (okN (decide (xo.nw ≤ xo.b.un)) (ea.bs.any (byB xo.b.ro))) (validB xo.b (rootR (Rm.mk rho2 rho3 (es.map toLt) bs) xo.b.ro))) xo.b = [] by rw [Hhb10.out]; rfl, List.append_nil] at hM
                    go_wp2_with fail
                    refine Met.intro (hJs2 _ _ rfl (show (fun (u5 : Value) => ∃ (es2 : List En) (bs2 : List Bd) (va2 vb2 : Value), Inv19 (j + 1) es2 bs2 ∧ Sep w [] [.own enc 45 11 (u5) (es2), .join (es2.map enR), .join (RMR B11 (Rm.mk rho2 rho3 (es2.map toLt) bs2) va2 vb2), .blk N9 9 ([.string (rootB (seedB 2)), .string (rootB (seedB 3))]), .blk N18 38 (oqc xo)] _) (.slice pu5 es.length cu5) from ⟨es, bs, _, _, HI.out.up, hM.pick [1, 2, 3, 4, 0] (by decide) rfl⟩))
                  | true =>
                    have Hhb10 := Lib.hid hb10
                    clear hb10
                    rw [show gotL (okV (okN (decide (xo.nw ≤ xo.b.un)) (ea.bs.any (byB xo.b.ro))) (validB xo.b (rootR (Rm.mk rho2 rho3 (es.map toLt) bs) xo.b.ro))) xo.b = [xo.b] by rw [Hhb10.out]; rfl] at hM
                    go_upto_region 46 with fail
                    refine wp_region_M (fun W => Sep w [] [.blk N18 38 (oqc xo), .join (RMR B11 (Rm.mk rho2 rho3 (es.map toLt) (bs ++ [xo.b])) va47 vb47), .blk N9 9 ([.string (rootB (seedB 2)), .string (rootB (seedB 3))])] W) (fun W => Sep w [] [.blk N18 38 (oqc xo), .own enc 45 11 (.slice pu5 es.length cu5) (es), .join (es.map enR), .join (RMR B11 (Rm.mk rho2 rho3 (es.map toLt) (bs ++ [xo.b])) va47 vb47), .blk N9 9 ([.string (rootB (seedB 2)), .string (rootB (seedB 3))])] W) hmx hM.drew ?_
                    clear hM
                    rintro Y49 hM
                    have hS := hM.sub (.cons_cons _ (.cons _ (.cons _ (.cons_cons _ (.cons_cons _ .slnil)))))
                    refine tD 6 [.val 0 (some 203) (.slice pu5 es.length cu5), .val 1 (some 204) (.int .i64 (pa : Int)), .val 2 (some 205) (.slice pu5 es.length cu5), .val 3 (some 206) (.int .i64 (pa : Int)), .idx 4 (some 207) 29 (.slice pu5 es.length cu5) (.int .i64 (pa : Int)) (pt bna ona), .val 5 (some 208) (pt bna (ona + 10)), .val 7 (some 210) (pt N18 1), .load 8 (some 211) 36 (pt N18 1) (bdv xo.b)] ⟨fun W h => HIna.out _, fun W h => load_part (h.at 0 rfl) 1 (bdc xo.b) rfl _ _ Tryz.underlying36 rfl (by kernel_rfl), trivial⟩ hS ?_
                    refine oT 6 9 5 ?_ ?_
                    · refine lD (some 209) 43 (pt bna (ona + 10)) (ea.sl) (ld_cell _ _ Tryz.underlying43 rfl (HCna.out _ (hM.oka 1 rfl) 10 _ rfl)) (hS) ?_
                      refine oD 9 4 (rD (some 212) (.slice (some ⟨Y49.heap.size, 0, none⟩) 1 1) (Y49.alloc (.cells (bdc xo.b).toArray 36)) (hS.other _) ?_)
                      replace hS := hS.other (.cells (bdc xo.b).toArray 36)
                      replace hM := hM.alloc 36 (bdc xo.b)
                      generalize World.alloc _ _ = Y50 at *
                      generalize hNe : Y49.heap.size = N50 at *
                      clear hNe
                      obtain ⟨v51, Y51, hrun, ht⟩ := own_app1 infoBd rfl (by decide) Tryz.underlying43 bdc_len bdc_one ((hM.oka 3 rfl).en HEa.out) xo.b (hM.at 0 rfl) (by decide) (by have h1 := HEL.out; omega) 43
                      obtain ⟨pv51, cv51, rfl⟩ := ht.ok.slice bdc_len
                      have hM1 := hM.turn 3 rfl (turn_en (e' := En.mk ea.k ea.si pv51 cv51 (ea.bs ++ [xo.b])) (hM.oka 3 rfl) HEa.out ht) rfl
                      clear ht
                      refine oD 10 3 (stepH_append (d := some 213) (t := 43) (t' := 43) (ty := 43) (v := ea.sl) (x := .slice (some ⟨N50, 0, none⟩) 1 1) (by kernel_rfl) hrun (hM1.sub (.cons _ (.cons_cons _ (.cons _ (.cons _ (.cons_cons _ (.cons_cons _ .slnil))))))) ?_)
                      replace hS := hM1.sub (.cons _ (.cons_cons _ (.cons _ (.cons _ (.cons_cons _ (.cons_cons _ .slnil))))))
                      replace hM := hM1
                      clear hM1 hrun
                      refine tD 1 [.idx 11 (some 214) 29 (.slice pu5 es.length cu5) (.int .i64 (pa : Int)) (pt bna ona), .val 12 (some 215) (pt bna (ona + 10))] ⟨fun W h => HIna.out _, trivial⟩ hS ?_
                      obtain ⟨Y52, hst, ht⟩ := own_store (hM.oka 2 rfl) enc_len HEa.out Tryz.underlying29 (fun W => by kernel_rfl) (HIna.out Y51) (En.mk ea.k ea.si pv51 cv51 (ea.bs ++ [xo.b])) 10 43 (.slice pv51 (ea.bs ++ [xo.b]).length cv51) (by kernel_rfl) (Nat.le_of_ble_eq_true rfl) (slice_all _ _ _) rfl
                      have hM1 := hM.turn 2 rfl ht rfl
                      refine oD 13 0 (sD 43 (pt bna (ona + 10)) (.slice pv51 (ea.bs ++ [xo.b]).length cv51) (hst) (hM1.sub (.cons _ (.cons_cons _ (.cons _ (.cons _ (.cons_cons _ (.cons_cons _ .slnil))))))) ?_)
                      clear hst
                      replace hS := hM1.sub (.cons _ (.cons_cons _ (.cons _ (.cons _ (.cons_cons _ (.cons_cons _ .slnil))))))
                      replace hM := hM1
                      clear hM1 ht
                      refine dD ?_
                      try simp only [puts, Tk.put, Act.put, List.setIfInBounds_toArray, List.set_cons_zero, List.set_cons_succ]
                      clear hS
                      go_wp2_with fail
                      rw [show es.map toLt = (es.set pa (En.mk ea.k ea.si pv51 cv51 (ea.bs ++ [xo.b]))).map toLt from (set_lts (e := ea) (e' := En.mk ea.k ea.si pv51 cv51 (ea.bs ++ [xo.b])) HEa.out rfl).symm] at hM
                      refine Met.intro (hJs2 _ _ rfl (show (fun (u5 : Value) => ∃ (es2 : List En) (bs2 : List Bd) (va2 vb2 : Value), Inv19 (j + 1) es2 bs2 ∧ Sep w [] [.own enc 45 11 (u5) (es2), .join (es2.map enR), .join (RMR B11 (Rm.mk rho2 rho3 (es2.map toLt) bs2) va2 vb2), .blk N9 9 ([.string (rootB (seedB 2)), .string (rootB (seedB 3))]), .blk N18 38 (oqc xo)] _) (.slice pu5 es.length cu5) from ⟨es.set pa (En.mk ea.k ea.si pv51 cv51 (ea.bs ++ [xo.b])), bs ++ [xo.b], _, _, (HI.out.bid HEa.out HXO.out.b HEKa.out pv51 cv51), hM.pick [2, 3, 4, 5, 1] (by decide) rfl⟩))
                    · refine rD (some 212) (.slice (some ⟨Y49.heap.size, 0, none⟩) 1 1) (Y49.alloc (.cells (bdc xo.b).toArray 36)) (hS.other _) ?_
                      replace hS := hS.other (.cells (bdc xo.b).toArray 36)
                      replace hM := hM.alloc 36 (bdc xo.b)
                      generalize World.alloc _ _ = Y53 at *
                      generalize hNe : Y49.heap.size = N53 at *
                      clear hNe
                      refine oD 6 4 (lD (some 209) 43 (pt bna (ona + 10)) (ea.sl) (ld_cell _ _ Tryz.underlying43 rfl (HCna.out _ (hM.oka 2 rfl) 10 _ rfl)) (hS) ?_)
                      obtain ⟨v54, Y54, hrun, ht⟩ := own_app1 infoBd rfl (by decide) Tryz.underlying43 bdc_len bdc_one ((hM.oka 3 rfl).en HEa.out) xo.b (hM.at 0 rfl) (by decide) (by have h1 := HEL.out; omega) 43
                      obtain ⟨pv54, cv54, rfl⟩ := ht.ok.slice bdc_len
                      have hM1 := hM.turn 3 rfl (turn_en (e' := En.mk ea.k ea.si pv54 cv54 (ea.bs ++ [xo.b])) (hM.oka 3 rfl) HEa.out ht) rfl
                      clear ht
                      refine oD 10 3 (stepH_append (d := some 213) (t := 43) (t' := 43) (ty := 43) (v := ea.sl) (x := .slice (some ⟨N53, 0, none⟩) 1 1) (by kernel_rfl) hrun (hM1.sub (.cons _ (.cons_cons _ (.cons _ (.cons _ (.cons_cons _ (.cons_cons _ .slnil))))))) ?_)
                      replace hS := hM1.sub (.cons _ (.cons_cons _ (.cons _ (.cons _ (.cons_cons _ (.cons_cons _ .slnil))))))
                      replace hM := hM1
                      clear hM1 hrun
                      refine tD 1 [.idx 11 (some 214) 29 (.slice pu5 es.length cu5) (.int .i64 (pa : Int)) (pt bna ona), .val 12 (some 215) (pt bna (ona + 10))] ⟨fun W h => HIna.out _, trivial⟩ hS ?_
                      obtain ⟨Y55, hst, ht⟩ := own_store (hM.oka 2 rfl) enc_len HEa.out Tryz.underlying29 (fun W => by kernel_rfl) (HIna.out Y54) (En.mk ea.k ea.si pv54 cv54 (ea.bs ++ [xo.b])) 10 43 (.slice pv54 (ea.bs ++ [xo.b]).length cv54) (by kernel_rfl) (Nat.le_of_ble_eq_true rfl) (slice_all _ _ _) rfl
                      have hM1 := hM.turn 2 rfl ht rfl
                      refine oD 13 0 (sD 43 (pt bna (ona + 10)) (.slice pv54 (ea.bs ++ [xo.b]).length cv54) (hst) (hM1.sub (.cons _ (.cons_cons _ (.cons _ (.cons _ (.cons_cons _ (.cons_cons _ .slnil))))))) ?_)
                      clear hst
                      replace hS := hM1.sub (.cons _ (.cons_cons _ (.cons _ (.cons _ (.cons_cons _ (.cons_cons _ .slnil))))))
                      replace hM := hM1
                      clear hM1 ht
                      refine dD ?_
                      try simp only [puts, Tk.put, Act.put, List.setIfInBounds_toArray, List.set_cons_zero, List.set_cons_succ]
                      clear hS
                      go_wp2_with fail
                      rw [show es.map toLt = (es.set pa (En.mk ea.k ea.si pv54 cv54 (ea.bs ++ [xo.b]))).map toLt from (set_lts (e := ea) (e' := En.mk ea.k ea.si pv54 cv54 (ea.bs ++ [xo.b])) HEa.out rfl).symm] at hM
                      refine Met.intro (hJs2 _ _ rfl (show (fun (u5 : Value) => ∃ (es2 : List En) (bs2 : List Bd) (va2 vb2 : Value), Inv19 (j + 1) es2 bs2 ∧ Sep w [] [.own enc 45 11 (u5) (es2), .join (es2.map enR), .join (RMR B11 (Rm.mk rho2 rho3 (es2.map toLt) bs2) va2 vb2), .blk N9 9 ([.string (rootB (seedB 2)), .string (rootB (seedB 3))]), .blk N18 38 (oqc xo)] _) (.slice pu5 es.length cu5) from ⟨es.set pa (En.mk ea.k ea.si pv54 cv54 (ea.bs ++ [xo.b])), bs ++ [xo.b], _, _, (HI.out.bid HEa.out HXO.out.b HEKa.out pv54 cv54), hM.pick [2, 3, 4, 5, 1] (by decide) rfl⟩))
          | true =>
            have Hhb3 := Lib.hid hb3
            clear hb3
            go_upto_region 20 with fail
            refine wp_region_fromM (fun W => Sep w [] [.blk N18 38 (oqc xo), .own enc 45 11 (.slice pu5 es.length cu5) (es), .join (es.map enR), .join (RMR B11 (Rm.mk rho2 rho3 (es.map toLt) bs) va vb), .blk N9 9 ([.string (rootB (seedB 2)), .string (rootB (seedB 3))])] W) hM ?_
            clear hM
            rintro Y56 hM
            refine tF 6 [.val 0 (some 87) (pt B11 0), .val 1 (some 88) (pt N18 1), .val 2 (some 89) (pt N18 2), .load 3 (some 90) 34 (pt N18 2) (akv xo.b.k), .val 4 (some 91) (pt N18 17), .load 5 (some 92) 3 (pt N18 17) (.int .i64 xo.nw)] ⟨load_part (hM.at 0 rfl) 2 (akc xo.b.k) rfl _ _ Tryz.underlying34 rfl (by kernel_rfl), ld_any _ _ Tryz.underlying3 rfl (hM.at 0 rfl) 17 rfl, trivial⟩ ?_
            cases hb11 : (errA xo.b.k) != 0 with
            | false =>
              have Hhb11 := Lib.hid hb11
              clear hb11
              have hq := rmOpen_any xo.b.k xo.nw _ (hM.oka 3 rfl)
              rw [open_isE Hhb11.out HEFa.out] at hq
              refine cF (some 93) 10 #[pt B11 0, akv xo.b.k, .int .i64 xo.nw] ((hq).mono ?_)
              rintro e Y57 ⟨rfl, va57, vb57, hT⟩
              clear hq
              replace hM := hM.turn 3 rfl hT rfl
              clear hT
              refine tF 8 [.val 7 (some 9) (.int .i64 32)] trivial ?_
              refine dF ?_
              try simp only [puts, Tk.put, Act.put, List.setIfInBounds_toArray, List.set_cons_zero, List.set_cons_succ]
              go_upto_region 27 with fail
              refine wp_region_fromM (fun W => Sep w [] [.blk N18 38 (oqc xo), .own enc 45 11 (.slice pu5 es.length cu5) (es), .join (es.map enR), .join (RMR B11 (Rm.mk rho2 rho3 (es.map toLt) bs) va57 vb57), .blk N9 9 ([.string (rootB (seedB 2)), .string (rootB (seedB 3))])] W) hM ?_
              clear hM
              rintro Y58 hM
              refine tF 3 [.val 0 (some 113) (pt N18 1), .val 1 (some 114) (pt N18 2), .load 2 (some 115) 34 (pt N18 2) (akv xo.b.k)] ⟨load_part (hM.at 0 rfl) 2 (akc xo.b.k) rfl _ _ Tryz.underlying34 rfl (by kernel_rfl), trivial⟩ ?_
              refine cF (some 116) 11 #[akv xo.b.k] ((refAsk_any xo.b.k _).mono ?_)
              rintro e Y59 ⟨rfl, hb⟩
              replace hM := hM.below hb
              clear hb
              refine tF 6 [.alt 4 (some 117) (.bool ((errA xo.b.k) != 0)) (.bool false), .val 5 (some 112) (.bool false)] ⟨congrArg Value.bool (Hhb11.out), trivial⟩ ?_
              refine dF ?_
              try simp only [puts, Tk.put, Act.put, List.setIfInBounds_toArray, List.set_cons_zero, List.set_cons_succ]
              go_upto_region 30 with fail
              refine wp_region_fromM (fun W => Sep w [] [.blk N18 38 (oqc xo), .own enc 45 11 (.slice pu5 es.length cu5) (es), .join (es.map enR), .join (RMR B11 (Rm.mk rho2 rho3 (es.map toLt) bs) va57 vb57), .blk N9 9 ([.string (rootB (seedB 2)), .string (rootB (seedB 3))])] W) hM ?_
              clear hM
              rintro Y60 hM
              refine tF 3 [.val 0 (some 121) (.int .i64 (pa : Int)), .alt 1 (some 122) (.bool (decide (0 ≤ (pa : Int)))) (.bool true), .val 2 (some 120) (.bool true)] ⟨congrArg Value.bool (decide_eq_true (Int.natCast_nonneg _)), trivial⟩ ?_
              refine dF ?_
              try simp only [puts, Tk.put, Act.put, List.setIfInBounds_toArray, List.set_cons_zero, List.set_cons_succ]
              go_upto_region 31 with fail
              refine wp_region_fromM (fun W => Sep w [] [.blk N18 38 (oqc xo), .own enc 45 11 (.slice pu5 es.length cu5) (es), .join (es.map enR), .join (RMR B11 (Rm.mk rho2 rho3 (es.map toLt) bs) va57 vb57), .blk N9 9 ([.string (rootB (seedB 2)), .string (rootB (seedB 3))])] W) hM ?_
              clear hM
              rintro Y61 hM
              refine tF 2 [.val 0 (some 123) (.int .i64 32), .val 1 (some 124) (.bool false)] trivial ?_
              refine dF ?_
              try simp only [puts, Tk.put, Act.put, List.setIfInBounds_toArray, List.set_cons_zero, List.set_cons_succ]
              go_wp2_with fail
              refine Met.intro (hJs2 _ _ rfl (show (fun (u5 : Value) => ∃ (es2 : List En) (bs2 : List Bd) (va2 vb2 : Value), Inv19 (j + 1) es2 bs2 ∧ Sep w [] [.own enc 45 11 (u5) (es2), .join (es2.map enR), .join (RMR B11 (Rm.mk rho2 rho3 (es2.map toLt) bs2) va2 vb2), .blk N9 9 ([.string (rootB (seedB 2)), .string (rootB (seedB 3))]), .blk N18 38 (oqc xo)] _) (.slice pu5 es.length cu5) from ⟨es, bs, _, _, HI.out.up, hM.pick [1, 2, 3, 4, 0] (by decide) rfl⟩))
            | true =>
              have Hhb11 := Lib.hid hb11
              clear hb11
              have hq := rmOpen_any xo.b.k xo.nw _ (hM.oka 3 rfl)
              rw [open_err39 Hhb11.out] at hq
              refine cF (some 93) 10 #[pt B11 0, akv xo.b.k, .int .i64 xo.nw] ((hq).mono ?_)
              rintro e Y62 ⟨rfl, va62, vb62, hT⟩
              clear hq
              replace hM := hM.turn 3 rfl hT rfl
              clear hT
              refine tF 8 [.val 7 (some 9) (.int .i64 39)] trivial ?_
              refine dF ?_
              try simp only [puts, Tk.put, Act.put, List.setIfInBounds_toArray, List.set_cons_zero, List.set_cons_succ]
              go_upto_region 27 with fail
              refine wp_region_fromM (fun W => Sep w [] [.blk N18 38 (oqc xo), .own enc 45 11 (.slice pu5 es.length cu5) (es), .join (es.map enR), .join (RMR B11 (Rm.mk rho2 rho3 (es.map toLt) bs) va62 vb62), .blk N9 9 ([.string (rootB (seedB 2)), .string (rootB (seedB 3))])] W) hM ?_
              clear hM
              rintro Y63 hM
              refine tF 3 [.val 0 (some 113) (pt N18 1), .val 1 (some 114) (pt N18 2), .load 2 (some 115) 34 (pt N18 2) (akv xo.b.k)] ⟨load_part (hM.at 0 rfl) 2 (akc xo.b.k) rfl _ _ Tryz.underlying34 rfl (by kernel_rfl), trivial⟩ ?_
              refine cF (some 116) 11 #[akv xo.b.k] ((refAsk_any xo.b.k _).mono ?_)
              rintro e Y64 ⟨rfl, hb⟩
              replace hM := hM.below hb
              clear hb
              refine tF 6 [.alt 4 (some 117) (.bool ((errA xo.b.k) != 0)) (.bool true), .val 5 (some 112) (.bool true)] ⟨congrArg Value.bool (Hhb11.out), trivial⟩ ?_
              refine dF ?_
              try simp only [puts, Tk.put, Act.put, List.setIfInBounds_toArray, List.set_cons_zero, List.set_cons_succ]
              go_upto_region 28 with fail
              refine wp_region_fromM (fun W => Sep w [] [.blk N18 38 (oqc xo), .own enc 45 11 (.slice pu5 es.length cu5) (es), .join (es.map enR), .join (RMR B11 (Rm.mk rho2 rho3 (es.map toLt) bs) va62 vb62), .blk N9 9 ([.string (rootB (seedB 2)), .string (rootB (seedB 3))])] W) hM ?_
              clear hM
              rintro Y65 hM
              refine tF 2 [.val 0 (some 118) (.int .i64 39), .val 1 (some 119) (.bool false)] trivial ?_
              refine dF ?_
              try simp only [puts, Tk.put, Act.put, List.setIfInBounds_toArray, List.set_cons_zero, List.set_cons_succ]
              go_wp2_with fail
              refine Met.intro (hJs2 _ _ rfl (show (fun (u5 : Value) => ∃ (es2 : List En) (bs2 : List Bd) (va2 vb2 : Value), Inv19 (j + 1) es2 bs2 ∧ Sep w [] [.own enc 45 11 (u5) (es2), .join (es2.map enR), .join (RMR B11 (Rm.mk rho2 rho3 (es2.map toLt) bs2) va2 vb2), .blk N9 9 ([.string (rootB (seedB 2)), .string (rootB (seedB 3))]), .blk N18 38 (oqc xo)] _) (.slice pu5 es.length cu5) from ⟨es, bs, _, _, HI.out.up, hM.pick [1, 2, 3, 4, 0] (by decide) rfl⟩))
        case neg =>
          have HGE := Lib.hid hge
          have HNO := Lib.hid (en_no (by rw [HQa.out]; exact hge))
          clear hge
          go_upto_region 19 with fail
          refine wp_region_fromM (fun W => Sep w [] [.blk N18 38 (oqc xo), .own enc 45 11 (.slice pu5 es.length cu5) (es), .join (es.map enR), .join (RMR B11 (Rm.mk rho2 rho3 (es.map toLt) bs) va vb), .blk N9 9 ([.string (rootB (seedB 2)), .string (rootB (seedB 3))])] W) hM ?_
          clear hM
          rintro Y66 hM
          refine tF 2 [.val 0 (some 86) (.bool (((atC xo.kd 3 : Nat) : Int) == 0)), .val 1 (some 85) (.bool (((atC xo.kd 3 : Nat) : Int) == 0))] trivial ?_
          refine dF ?_
          try simp only [puts, Tk.put, Act.put, List.setIfInBounds_toArray, List.set_cons_zero, List.set_cons_succ]
          cases hb12 : ((atC xo.kd 3 : Nat) : Int) == 0 with
          | false =>
            have Hhb12 := Lib.hid hb12
            clear hb12
            go_upto_region 36 with fail
            refine wp_region_fromM (fun W => Sep w [] [.blk N18 38 (oqc xo), .own enc 45 11 (.slice pu5 es.length cu5) (es), .join (es.map enR), .join (RMR B11 (Rm.mk rho2 rho3 (es.map toLt) bs) va vb), .blk N9 9 ([.string (rootB (seedB 2)), .string (rootB (seedB 3))])] W) hM ?_
            clear hM
            rintro Y67 hM
            refine tF 2 [.val 0 (some 132) (.bool (((atC xo.kd 3 : Nat) : Int) == 1)), .val 1 (some 131) (.bool (((atC xo.kd 3 : Nat) : Int) == 1))] trivial ?_
            refine dF ?_
            try simp only [puts, Tk.put, Act.put, List.setIfInBounds_toArray, List.set_cons_zero, List.set_cons_succ]
            cases hb13 : ((atC xo.kd 3 : Nat) : Int) == 1 with
            | false =>
              have Hhb13 := Lib.hid hb13
              clear hb13
              go_upto_region 12 with fail
              refine wp_region_fromM (fun W => Sep w [] [.blk N18 38 (oqc xo), .own enc 45 11 (.slice pu5 es.length cu5) (es), .join (es.map enR), .join (RMR B11 (Rm.mk rho2 rho3 (es.map toLt) bs) va vb), .blk N9 9 ([.string (rootB (seedB 2)), .string (rootB (seedB 3))])] W) hM ?_
              clear hM
              rintro Y68 hM
              refine tF 7 [.val 0 (some 55) (pt B11 0), .val 1 (some 56) (pt N18 1), .val 2 (some 57) (pt N18 2), .load 3 (some 58) 34 (pt N18 2) (akv xo.b.k), .val 4 (some 59) (pt N18 17), .load 5 (some 60) 3 (pt N18 17) (.int .i64 xo.nw), .val 6 (some 61) (.int .i64 (j : Int))] ⟨load_part (hM.at 0 rfl) 2 (akc xo.b.k) rfl _ _ Tryz.underlying34 rfl (by kernel_rfl), ld_any _ _ Tryz.underlying3 rfl (hM.at 0 rfl) 17 rfl, trivial⟩ ?_
              have hq := rmBest_any xo.b.k xo.nw (j : Int) _ (RmV.of (hM.oka 3 rfl)) (Nat.le_trans HI.out.len HJB.out) HI.out.si HI.out.ok
              rw [best_no (R := Rm.mk rho2 rho3 (es.map toLt) bs) (is_no HNO.out)] at hq
              refine cF (some 62) 14 #[pt B11 0, akv xo.b.k, .int .i64 xo.nw, .int .i64 (j : Int)] ((hq).mono ?_)
              rintro e Y69 ⟨rfl, hb⟩
              clear hq
              replace hM := hM.below hb
              clear hb
              refine tF 11 [.val 8 (some 54) (.tuple #[bdv noB, .bool false]), .val 9 (some 63) (bdv noB), .val 10 (some 64) (.bool false)] trivial ?_
              refine rF (some 13) (pt Y69.heap.size 0) (Y69.alloc (.cells (bdc noB).toArray 36)) ?_
              replace hM := hM.alloc 36 (bdc noB)
              generalize World.alloc _ _ = Y70 at *
              generalize hNe : Y69.heap.size = N70 at *
              clear hNe
              have hst := sto_part (bdc noB) (hM.at 0 rfl) 0 36 (bdv noB) (bdc noB) rfl (by kernel_rfl) (Nat.le_of_ble_eq_true rfl) rfl rfl
              refine sF 36 (pt N70 0) (bdv noB) (hst) ?_
              clear hst
              replace hM := hM.set 0 (cs' := bdc noB) rfl rfl
              generalize World.setRow _ _ _ = Y71 at *
              refine tF 14 [.val 13 (some 14) (.bool false)] trivial ?_
              refine dF ?_
              try simp only [puts, Tk.put, Act.put, List.setIfInBounds_toArray, List.set_cons_zero, List.set_cons_succ]
              go_upto_region 13 with fail
              refine wp_region_fromM (fun W => Sep w [] [.blk N70 36 (bdc noB), .blk N18 38 (oqc xo), .own enc 45 11 (.slice pu5 es.length cu5) (es), .join (es.map enR), .join (RMR B11 (Rm.mk rho2 rho3 (es.map toLt) bs) va vb), .blk N9 9 ([.string (rootB (seedB 2)), .string (rootB (seedB 3))])] W) hM ?_
              clear hM
              rintro Y72 hM
              refine rF (some 15) (pt Y72.heap.size 0) (Y72.alloc (.cells (bdc noB).toArray 36)) ?_
              replace hM := hM.alloc 36 (bdc noB)
              generalize World.alloc _ _ = Y73 at *
              generalize hNe : Y72.heap.size = N73 at *
              clear hNe
              refine dF ?_
              try simp only [Act.put, List.setIfInBounds_toArray, List.set_cons_zero, List.set_cons_succ]
              go_upto_region 14 with fail
              refine wp_region_fromM (fun W => Sep w [] [.blk N73 36 (bdc noB), .blk N70 36 (bdc noB), .blk N18 38 (oqc xo), .own enc 45 11 (.slice pu5 es.length cu5) (es), .join (es.map enR), .join (RMR B11 (Rm.mk rho2 rho3 (es.map toLt) bs) va vb), .blk N9 9 ([.string (rootB (seedB 2)), .string (rootB (seedB 3))])] W) hM ?_
              clear hM
              rintro Y74 hM
              refine tF 1 [.val 0 (some 16) (.bool false)] trivial ?_
              refine dF ?_
              try simp only [puts, Tk.put, Act.put, List.setIfInBounds_toArray, List.set_cons_zero, List.set_cons_succ]
              go_upto_region 15 with fail
              refine wp_region_fromM (fun W => Sep w [] [.blk N73 36 (bdc noB), .blk N70 36 (bdc noB), .blk N18 38 (oqc xo), .own enc 45 11 (.slice pu5 es.length cu5) (es), .join (es.map enR), .join (RMR B11 (Rm.mk rho2 rho3 (es.map toLt) bs) va vb), .blk N9 9 ([.string (rootB (seedB 2)), .string (rootB (seedB 3))])] W) hM ?_
              clear hM
              rintro Y75 hM
              refine tF 2 [.val 0 (some 65) (.int .i64 qa), .alt 1 (some 66) (.bool (decide (0 ≤ qa))) (.bool false)] ⟨congrArg Value.bool (decide_eq_false HGE.out), trivial⟩ ?_
              refine dF ?_
              try simp only [puts, Tk.put, Act.put, List.setIfInBounds_toArray, List.set_cons_zero, List.set_cons_succ]
              go_upto_region 17 with fail
              refine wp_region_fromM (fun W => Sep w [] [.blk N73 36 (bdc noB), .blk N70 36 (bdc noB), .blk N18 38 (oqc xo), .own enc 45 11 (.slice pu5 es.length cu5) (es), .join (es.map enR), .join (RMR B11 (Rm.mk rho2 rho3 (es.map toLt) bs) va vb), .blk N9 9 ([.string (rootB (seedB 2)), .string (rootB (seedB 3))])] W) hM ?_
              clear hM
              rintro Y76 hM
              refine tF 6 [.val 0 (some 77) (.bool false), .val 1 (some 78) (.bool false), .val 2 (some 79) (.bool false), .val 3 (some 80) (.bool false), .load 4 (some 81) 36 (pt N70 0) (bdv noB), .load 5 (some 82) 36 (pt N73 0) (bdv noB)] ⟨load_part (hM.at 1 rfl) 0 (bdc noB) rfl _ _ Tryz.underlying36 rfl (by kernel_rfl), load_part (hM.at 0 rfl) 0 (bdc noB) rfl _ _ Tryz.underlying36 rfl (by kernel_rfl), trivial⟩ ?_
              refine neA (.tmp 81) (.tmp 82) 36 (some 83) (bdc noB).toArray (bdc noB).toArray true (Eq.trans (run_eqBd noB noB _) (congrArg (fun z => Result.ok z _) (decide_eq_true rfl))) ?_
              refine tF 8 [.val 7 (some 84) (.bool false)] trivial ?_
              refine dF ?_
              try simp only [puts, Tk.put, Act.put, List.setIfInBounds_toArray, List.set_cons_zero, List.set_cons_succ]
              go_wp2_with fail
              refine Met.intro (hJs2 _ _ rfl (show (fun (u5 : Value) => ∃ (es2 : List En) (bs2 : List Bd) (va2 vb2 : Value), Inv19 (j + 1) es2 bs2 ∧ Sep w [] [.own enc 45 11 (u5) (es2), .join (es2.map enR), .join (RMR B11 (Rm.mk rho2 rho3 (es2.map toLt) bs2) va2 vb2), .blk N9 9 ([.string (rootB (seedB 2)), .string (rootB (seedB 3))]), .blk N18 38 (oqc xo)] _) (.slice pu5 es.length cu5) from ⟨es, bs, _, _, HI.out.up, hM.pick [3, 4, 5, 6, 2] (by decide) rfl⟩))
            | true =>
              have Hhb13 := Lib.hid hb13
              clear hb13
              go_upto_region 37 with fail
              refine wp_region_fromM (fun W => Sep w [] [.blk N18 38 (oqc xo), .own enc 45 11 (.slice pu5 es.length cu5) (es), .join (es.map enR), .join (RMR B11 (Rm.mk rho2 rho3 (es.map toLt) bs) va vb), .blk N9 9 ([.string (rootB (seedB 2)), .string (rootB (seedB 3))])] W) hM ?_
              clear hM
              rintro Y77 hM
              refine tF 11 [.val 0 (some 133) (.int .i64 qa), .alt 1 (some 134) (.bool (decide (0 ≤ qa))) (.bool false), .val 2 (some 135) (.bool false), .skip 3 (some 136), .skip 4 (some 137), .skip 5 (some 138), .skip 6 (some 139), .skip 7 (some 140), .skip 8 (some 141), .val 9 (some 142) (.bool false), .val 10 (some 11) (.bool false)] ⟨congrArg Value.bool (decide_eq_false HGE.out), trivial⟩ ?_
              refine dF ?_
              try simp only [puts, Tk.put, Act.put, List.setIfInBounds_toArray, List.set_cons_zero, List.set_cons_succ]
              go_upto_region 38 with fail
              refine wp_region_fromM (fun W => Sep w [] [.blk N18 38 (oqc xo), .own enc 45 11 (.slice pu5 es.length cu5) (es), .join (es.map enR), .join (RMR B11 (Rm.mk rho2 rho3 (es.map toLt) bs) va vb), .blk N9 9 ([.string (rootB (seedB 2)), .string (rootB (seedB 3))])] W) hM ?_
              clear hM
              rintro Y78 hM
              refine tF 1 [.val 0 (some 12) (.int .i64 0)] trivial ?_
              refine dF ?_
              try simp only [puts, Tk.put, Act.put, List.setIfInBounds_toArray, List.set_cons_zero, List.set_cons_succ]
              go_wp2_with fail
              refine wp_loop_fit [.k (.slice pl l.length cl), .k (undef), .k (s1 2), .k (.slice (some ⟨N9, 0, none⟩) 2 2), .k (pt B11 0), .k (.slice pu5 es.length cu5), .k (.int .i64 (j : Int)), .k (pt N18 0), .k (.int .i64 qa), .k (s1 9), .k (s1 10), .s 11, .s 12, .k (s1 13), .k (s1 14), .k (s1 15), .k (s1 16), .k (s1 17), .k (s1 18), .k (s1 19), .k (s1 20), .s 21, .s 22, .s 23, .s 24, .s 25, .s 26, .s 27, .s 28, .s 29, .s 30, .s 31, .s 32, .s 33, .s 34, .s 35, .s 36, .s 37, .s 38, .s 39, .s 40, .s 41, .s 42, .s 43, .s 44, .s 45, .s 46, .s 47, .s 48, .s 49, .s 50, .s 51, .s 52, .k (.int .i64 ((atC xo.kd 3 : Nat) : Int)), .s 54, .s 55, .s 56, .s 57, .s 58, .s 59, .s 60, .s 61, .s 62, .s 63, .s 64, .s 65, .s 66, .s 67, .s 68, .s 69, .s 70, .s 71, .s 72, .s 73, .s 74, .s 75, .s 76, .s 77, .s 78, .s 79, .s 80, .s 81, .s 82, .s 83, .s 84, .k (.bool false), .s 86, .s 87, .s 88, .s 89, .s 90, .s 91, .s 92, .s 93, .s 94, .s 95, .s 96, .s 97, .s 98, .s 99, .s 100, .s 101, .s 102, .s 103, .s 104, .s 105, .s 106, .s 107, .s 108, .s 109, .s 110, .s 111, .k (s1 112), .s 113, .s 114, .s 115, .s 116, .s 117, .s 118, .s 119, .k (s1 120), .s 121, .s 122, .s 123, .s 124, .k (s1 125), .s 126, .s 127, .s 128, .s 129, .s 130, .k (.bool true), .s 132, .s 133, .s 134, .s 135, .s 136, .s 137, .s 138, .s 139, .s 140, .s 141, .s 142, .s 143, .s 144, .s 145, .s 146, .s 147, .s 148, .s 149, .s 150, .s 151, .s 152, .s 153, .s 154, .s 155, .s 156, .s 157, .s 158, .s 159, .s 160, .s 161, .s 162, .s 163, .s 164, .s 165, .s 166, .s 167, .s 168, .s 169, .s 170, .s 171, .s 172, .s 173, .s 174, .s 175, .s 176, .s 177, .s 178, .s 179, .s 180, .s 181, .s 182, .s 183, .s 184, .s 185, .s 186, .s 187, .s 188, .s 189, .s 190, .s 191, .s 192, .s 193, .s 194, .s 195, .s 196, .s 197, .s 198, .s 199, .s 200, .s 201, .s 202, .s 203, .s 204, .s 205, .s 206, .s 207, .s 208, .s 209, .s 210, .s 211, .s 212, .s 213, .s 214, .s 215, .s 216, .s 217, .s 218, .s 219, .s 220, .s 221, .s 222, .s 223, .s 224, .s 225, .s 226, .s 227, .s 228, .s 229, .s 230, .s 231, .s 232, .s 233, .s 234, .s 235, .s 236, .s 237, .s 238, .s 239, .s 240, .s 241, .s 242, .s 243, .s 244, .s 245, .s 246, .s 247, .s 248, .s 249, .s 250, .s 251, .s 252, .s 253, .s 254, .s 255, .s 256, .s 257, .s 258, .s 259, .s 260, .s 261, .s 262, .s 263, .s 264] (fun (s6 : Nat → Value) wr => (s6 11 : Value) = .bool false ∧ Sep w [] [.blk N18 38 (oqc xo), .own enc 45 11 (.slice pu5 es.length cu5) (es), .join (es.map enR), .join (RMR B11 (Rm.mk rho2 rho3 (es.map toLt) bs) va vb), .blk N9 9 ([.string (rootB (seedB 2)), .string (rootB (seedB 3))])] wr) (fun (s6 : Nat → Value) _ => 0) rfl rfl (show (fun (u11 u12 : Value) => u11 = .bool false ∧ Sep w [] [.blk N18 38 (oqc xo), .own enc 45 11 (.slice pu5 es.length cu5) (es), .join (es.map enR), .join (RMR B11 (Rm.mk rho2 rho3 (es.map toLt) bs) va vb), .blk N9 9 ([.string (rootB (seedB 2)), .string (rootB (seedB 3))])] _) (.bool false) (.int .i64 0) from ⟨rfl, hM⟩) ?_
              clear hM
              intro s6 wr hrel Js6 Ks6 hJs6 hKs6
              dsimp only [fillS]
              try dsimp only at hrel
              try dsimp only at hJs6
              generalize s6 11 = u11 at hrel hJs6 ⊢
              generalize s6 12 = u12 at hrel hJs6 ⊢
              obtain ⟨rfl, hM⟩ := hrel
              go_upto_region 39 with fail
              refine wp_region_fromM (fun W => Sep w [] [.blk N18 38 (oqc xo), .own enc 45 11 (.slice pu5 es.length cu5) (es), .join (es.map enR), .join (RMR B11 (Rm.mk rho2 rho3 (es.map toLt) bs) va vb), .blk N9 9 ([.string (rootB (seedB 2)), .string (rootB (seedB 3))])] W) hM ?_
              clear hM
              rintro Y79 hM
              refine tF 8 [.val 0 (some 143) (.bool false), .val 1 (some 144) (.bool false), .skip 2 (some 145), .skip 3 (some 146), .skip 4 (some 147), .skip 5 (some 148), .skip 6 (some 149), .skip 7 (some 150)] trivial ?_
              refine wpFrom_not (d := some 151) (by kernel_rfl) ?_
              refine tF 11 [.skip 9 (some 152), .val 10 (some 153) (.bool false)] trivial ?_
              refine dF ?_
              try simp only [puts, Tk.put, Act.put, List.setIfInBounds_toArray, List.set_cons_zero, List.set_cons_succ]
              go_upto_region 42 with fail
              refine wp_region_M (fun W => Sep w [] [.blk N18 38 (oqc xo), .own enc 45 11 (.slice pu5 es.length cu5) (es), .join (es.map enR), .join (RMR B11 (Rm.mk rho2 rho3 (es.map toLt) bs) va vb), .blk N9 9 ([.string (rootB (seedB 2)), .string (rootB (seedB 3))])] W) (fun W => Sep w [] [.blk N18 38 (oqc xo), .own enc 45 11 (.slice pu5 es.length cu5) (es), .join (es.map enR), .join (RMR B11 (Rm.mk rho2 rho3 (es.map toLt) bs) va vb), .blk N9 9 ([.string (rootB (seedB 2)), .string (rootB (seedB 3))])] W) hmx hM.drew ?_
              clear hM
              rintro Y80 hM
              have hS := hM.sub (.cons_cons _ (.cons_cons _ (.cons_cons _ (.cons_cons _ (.cons_cons _ .slnil)))))
              refine tD 3 [.val 0 (some 169) (.bool false), .val 1 (some 170) (.bool false), .skip 2 (some 171), .skip 3 (some 172), .skip 4 (some 173), .skip 5 (some 174), .skip 6 (some 175), .skip 7 (some 176), .skip 8 (some 177), .skip 9 (some 178), .skip 10 (some 179), .skip 11 (some 180), .val 12 (some 181) (.bool false), .val 13 (some 182) (.bool false), .skip 14 (some 183), .skip 15 (some 184), .skip 16 (some 185), .skip 17 (some 186), .skip 18 (some 187), .skip 19 (some 188), .skip 20 (some 189), .skip 21 (some 190), .skip 22 (some 191)] trivial hS ?_
              refine oD 23 2 (stepH_not (d := some 192) (by kernel_rfl) (And.intro hS ?_))
              refine tD 0 [.val 24 (some 193) (.bool false), .val 25 (some 11) (.bool false)] trivial hS ?_
              refine dD ?_
              try simp only [puts, Tk.put, Act.put, List.setIfInBounds_toArray, List.set_cons_zero, List.set_cons_succ]
              clear hS
              go_upto_region 43 with fail
              refine wp_region_fromM (fun W => Sep w [] [.blk N18 38 (oqc xo), .own enc 45 11 (.slice pu5 es.length cu5) (es), .join (es.map enR), .join (RMR B11 (Rm.mk rho2 rho3 (es.map toLt) bs) va vb), .blk N9 9 ([.string (rootB (seedB 2)), .string (rootB (seedB 3))])] W) hM ?_
              clear hM
              rintro Y81 hM
              refine tF 5 [.val 0 (some 194) (pt B11 0), .val 1 (some 195) (pt N18 1), .load 2 (some 196) 36 (pt N18 1) (bdv xo.b), .val 3 (some 197) (pt N18 17), .load 4 (some 198) 3 (pt N18 17) (.int .i64 xo.nw)] ⟨load_part (hM.at 0 rfl) 1 (bdc xo.b) rfl _ _ Tryz.underlying36 rfl (by kernel_rfl), ld_any _ _ Tryz.underlying3 rfl (hM.at 0 rfl) 17 rfl, trivial⟩ ?_
              have hq := rmBid_any xo.b xo.nw _ (hM.oka 3 rfl) HXO.out.b (Nat.le_trans HI.out.len HJB.out)
              rw [bid_noN HNO.out] at hq
              refine cF (some 199) 13 #[pt B11 0, bdv xo.b, .int .i64 xo.nw] ((hq).mono ?_)
              rintro e Y82 ⟨rfl, va82, vb82, hT⟩
              clear hq
              replace hM := hM.turn 3 rfl hT rfl
              clear hT
              refine tF 8 [.val 6 (some 200) (.bool false), .val 7 (some 201) (.bool false)] trivial ?_
              refine dF ?_
              try simp only [puts, Tk.put, Act.put, List.setIfInBounds_toArray, List.set_cons_zero, List.set_cons_succ]
              go_upto_region 45 with fail
              refine wp_region_fromM (fun W => Sep w [] [.blk N18 38 (oqc xo), .own enc 45 11 (.slice pu5 es.length cu5) (es), .join (es.map enR), .join (RMR B11 (Rm.mk rho2 rho3 (es.map toLt) bs) va82 vb82), .blk N9 9 ([.string (rootB (seedB 2)), .string (rootB (seedB 3))])] W) hM ?_
              clear hM
              rintro Y83 hM
              refine tF 1 [.val 0 (some 202) (.bool false)] trivial ?_
              refine dF ?_
              try simp only [puts, Tk.put, Act.put, List.setIfInBounds_toArray, List.set_cons_zero, List.set_cons_succ]
              go_wp2_with fail
              refine Met.intro (hJs2 _ _ rfl (show (fun (u5 : Value) => ∃ (es2 : List En) (bs2 : List Bd) (va2 vb2 : Value), Inv19 (j + 1) es2 bs2 ∧ Sep w [] [.own enc 45 11 (u5) (es2), .join (es2.map enR), .join (RMR B11 (Rm.mk rho2 rho3 (es2.map toLt) bs2) va2 vb2), .blk N9 9 ([.string (rootB (seedB 2)), .string (rootB (seedB 3))]), .blk N18 38 (oqc xo)] _) (.slice pu5 es.length cu5) from ⟨es, bs, _, _, HI.out.up, hM.pick [1, 2, 3, 4, 0] (by decide) rfl⟩))
          | true =>
            have Hhb12 := Lib.hid hb12
            clear hb12
            go_upto_region 20 with fail
            refine wp_region_fromM (fun W => Sep w [] [.blk N18 38 (oqc xo), .own enc 45 11 (.slice pu5 es.length cu5) (es), .join (es.map enR), .join (RMR B11 (Rm.mk rho2 rho3 (es.map toLt) bs) va vb), .blk N9 9 ([.string (rootB (seedB 2)), .string (rootB (seedB 3))])] W) hM ?_
            clear hM
            rintro Y84 hM
            refine tF 6 [.val 0 (some 87) (pt B11 0), .val 1 (some 88) (pt N18 1), .val 2 (some 89) (pt N18 2), .load 3 (some 90) 34 (pt N18 2) (akv xo.b.k), .val 4 (some 91) (pt N18 17), .load 5 (some 92) 3 (pt N18 17) (.int .i64 xo.nw)] ⟨load_part (hM.at 0 rfl) 2 (akc xo.b.k) rfl _ _ Tryz.underlying34 rfl (by kernel_rfl), ld_any _ _ Tryz.underlying3 rfl (hM.at 0 rfl) 17 rfl, trivial⟩ ?_
            cases hb14 : (errA xo.b.k) != 0 with
            | false =>
              have Hhb14 := Lib.hid hb14
              clear hb14
              cases hb15 : decide (8 ≤ (es.length : Int)) with
              | false =>
                have Hhb15 := Lib.hid hb15
                clear hb15
                cases hb16 : decide (xo.nw < 0) with
                | false =>
                  have Hhb16 := Lib.hid hb16
                  clear hb16
                  cases hb17 : decide (1099511627776 < xo.nw) with
                  | false =>
                    have Hhb17 := Lib.hid hb17
                    clear hb17
                    have hq := rmOpen_any xo.b.k xo.nw _ (hM.oka 3 rfl)
                    rw [open_yesE Hhb14.out HNO.out Hhb15.out (since_in Hhb16.out Hhb17.out)] at hq
                    refine cF (some 93) 10 #[pt B11 0, akv xo.b.k, .int .i64 xo.nw] ((hq).mono ?_)
                    rintro e Y85 ⟨rfl, va85, vb85, hT⟩
                    clear hq
                    replace hM := hM.turn 3 rfl hT rfl
                    clear hT
                    refine tF 8 [.val 7 (some 9) (.int .i64 0)] trivial ?_
                    refine dF ?_
                    try simp only [puts, Tk.put, Act.put, List.setIfInBounds_toArray, List.set_cons_zero, List.set_cons_succ]
                    go_upto_region 27 with fail
                    refine wp_region_fromM (fun W => Sep w [] [.blk N18 38 (oqc xo), .own enc 45 11 (.slice pu5 es.length cu5) (es), .join (es.map enR), .join (RMR B11 (Rm.mk rho2 rho3 ((es ++ [En.mk xo.b.k xo.nw none 0 []]).map toLt) bs) va85 vb85), .blk N9 9 ([.string (rootB (seedB 2)), .string (rootB (seedB 3))])] W) hM ?_
                    clear hM
                    rintro Y86 hM
                    refine tF 3 [.val 0 (some 113) (pt N18 1), .val 1 (some 114) (pt N18 2), .load 2 (some 115) 34 (pt N18 2) (akv xo.b.k)] ⟨load_part (hM.at 0 rfl) 2 (akc xo.b.k) rfl _ _ Tryz.underlying34 rfl (by kernel_rfl), trivial⟩ ?_
                    refine cF (some 116) 11 #[akv xo.b.k] ((refAsk_any xo.b.k _).mono ?_)
                    rintro e Y87 ⟨rfl, hb⟩
                    replace hM := hM.below hb
                    clear hb
                    refine tF 6 [.alt 4 (some 117) (.bool ((errA xo.b.k) != 0)) (.bool false), .val 5 (some 112) (.bool false)] ⟨congrArg Value.bool (Hhb14.out), trivial⟩ ?_
                    refine dF ?_
                    try simp only [puts, Tk.put, Act.put, List.setIfInBounds_toArray, List.set_cons_zero, List.set_cons_succ]
                    go_upto_region 30 with fail
                    refine wp_region_fromM (fun W => Sep w [] [.blk N18 38 (oqc xo), .own enc 45 11 (.slice pu5 es.length cu5) (es), .join (es.map enR), .join (RMR B11 (Rm.mk rho2 rho3 ((es ++ [En.mk xo.b.k xo.nw none 0 []]).map toLt) bs) va85 vb85), .blk N9 9 ([.string (rootB (seedB 2)), .string (rootB (seedB 3))])] W) hM ?_
                    clear hM
                    rintro Y88 hM
                    refine tF 3 [.val 0 (some 121) (.int .i64 qa), .alt 1 (some 122) (.bool (decide (0 ≤ qa))) (.bool false), .val 2 (some 120) (.bool false)] ⟨congrArg Value.bool (decide_eq_false HGE.out), trivial⟩ ?_
                    refine dF ?_
                    try simp only [puts, Tk.put, Act.put, List.setIfInBounds_toArray, List.set_cons_zero, List.set_cons_succ]
                    go_upto_region 33 with fail
                    refine wp_region_fromM (fun W => Sep w [] [.blk N18 38 (oqc xo), .own enc 45 11 (.slice pu5 es.length cu5) (es), .join (es.map enR), .join (RMR B11 (Rm.mk rho2 rho3 ((es ++ [En.mk xo.b.k xo.nw none 0 []]).map toLt) bs) va85 vb85), .blk N9 9 ([.string (rootB (seedB 2)), .string (rootB (seedB 3))])] W) hM ?_
                    clear hM
                    rintro Y89 hM
                    refine tF 4 [.val 0 (some 126) (.slice pu5 es.length cu5), .val 1 (some 127) (.int .i64 (es.length : Int)), .alt 2 (some 128) (.bool (decide (8 ≤ (es.length : Int)))) (.bool false), .val 3 (some 125) (.bool false)] ⟨congrArg Value.bool (Hhb15.out), trivial⟩ ?_
                    refine dF ?_
                    try simp only [puts, Tk.put, Act.put, List.setIfInBounds_toArray, List.set_cons_zero, List.set_cons_succ]
                    go_upto_region 21 with fail
                    refine wp_region_fromM (fun W => Sep w [] [.blk N18 38 (oqc xo), .own enc 45 11 (.slice pu5 es.length cu5) (es), .join (es.map enR), .join (RMR B11 (Rm.mk rho2 rho3 ((es ++ [En.mk xo.b.k xo.nw none 0 []]).map toLt) bs) va85 vb85), .blk N9 9 ([.string (rootB (seedB 2)), .string (rootB (seedB 3))])] W) hM ?_
                    clear hM
                    rintro Y90 hM
                    refine tF 3 [.val 0 (some 94) (pt N18 17), .load 1 (some 95) 3 (pt N18 17) (.int .i64 xo.nw), .val 2 (some 10) (.int .i64 xo.nw)] ⟨ld_any _ _ Tryz.underlying3 rfl (hM.at 0 rfl) 17 rfl, trivial⟩ ?_
                    refine dF ?_
                    try simp only [puts, Tk.put, Act.put, List.setIfInBounds_toArray, List.set_cons_zero, List.set_cons_succ]
                    go_upto_region 22 with fail
                    refine wp_region_fromM (fun W => Sep w [] [.blk N18 38 (oqc xo), .own enc 45 11 (.slice pu5 es.length cu5) (es), .join (es.map enR), .join (RMR B11 (Rm.mk rho2 rho3 ((es ++ [En.mk xo.b.k xo.nw none 0 []]).map toLt) bs) va85 vb85), .blk N9 9 ([.string (rootB (seedB 2)), .string (rootB (seedB 3))])] W) hM ?_
                    clear hM
                    rintro Y91 hM
                    refine tF 6 [.val 0 (some 96) (.int .i64 xo.nw), .alt 1 (some 97) (.bool (decide (xo.nw < 0))) (.bool false), .val 2 (some 98) (.bool false), .val 3 (some 99) (.int .i64 xo.nw), .alt 4 (some 100) (.bool (decide (1099511627776 < xo.nw))) (.bool false), .val 5 (some 101) (.bool false)] ⟨congrArg Value.bool (Hhb16.out), congrArg Value.bool (Hhb17.out), trivial⟩ ?_
                    refine dF ?_
                    try simp only [puts, Tk.put, Act.put, List.setIfInBounds_toArray, List.set_cons_zero, List.set_cons_succ]
                    go_upto_region 24 with fail
                    refine wp_region_fromM (fun W => Sep w [] [.blk N18 38 (oqc xo), .own enc 45 11 (.slice pu5 es.length cu5) (es), .join (es.map enR), .join (RMR B11 (Rm.mk rho2 rho3 ((es ++ [En.mk xo.b.k xo.nw none 0 []]).map toLt) bs) va85 vb85), .blk N9 9 ([.string (rootB (seedB 2)), .string (rootB (seedB 3))])] W) hM ?_
                    clear hM
                    rintro Y92 hM
                    refine tF 6 [.val 0 (some 102) (.slice pu5 es.length cu5), .val 1 (some 103) (pt N18 1), .val 2 (some 104) (pt N18 2), .load 3 (some 105) 34 (pt N18 2) (akv xo.b.k), .val 4 (some 106) (.int .i64 xo.nw), .val 5 (some 107) (env (En.mk xo.b.k xo.nw none 0 []))] ⟨load_part (hM.at 0 rfl) 2 (akc xo.b.k) rfl _ _ Tryz.underlying34 rfl (by kernel_rfl), trivial⟩ ?_
                    refine rF (some 108) (.slice (some ⟨Y92.heap.size, 0, none⟩) 1 1) (Y92.alloc (.cells (enc (En.mk xo.b.k xo.nw none 0 [])).toArray 45)) ?_
                    replace hM := hM.alloc 45 (enc (En.mk xo.b.k xo.nw none 0 []))
                    generalize World.alloc _ _ = Y93 at *
                    generalize hNe : Y92.heap.size = N93 at *
                    clear hNe
                    obtain ⟨v94, Y94, hrun, ht⟩ := own_app1 infoEn rfl (by decide) Tryz.underlying29 enc_len enc_one (hM.oka 2 rfl) (En.mk xo.b.k xo.nw none 0 []) (hM.at 0 rfl) (by decide) (by have h1 := of_decide_eq_false Hhb15.out; omega) 29
                    replace hM := hM.turn 2 rfl ht rfl
                    clear ht
                    refine wpFrom_append (d := some 109) (t := 29) (t' := 29) (ty := 29) (v := .slice pu5 es.length cu5) (x := .slice (some ⟨N93, 0, none⟩) 1 1) (by kernel_rfl) hrun ?_
                    clear hrun
                    refine tF 9 [.val 8 (some 5) (v94)] trivial ?_
                    refine dF ?_
                    try simp only [puts, Tk.put, Act.put, List.setIfInBounds_toArray, List.set_cons_zero, List.set_cons_succ]
                    replace hM := hM.nil bdc 36 16
                    replace hM := Sep.enadd (es := es) (e := En.mk xo.b.k xo.nw none 0 []) (hM.pick (l' := .join (es.map enR) :: enR (En.mk xo.b.k xo.nw none 0 []) :: [.blk N93 45 (enc (En.mk xo.b.k xo.nw none 0 [])), .blk N18 38 (oqc xo), .own enc 45 11 (v94) (es ++ [En.mk xo.b.k xo.nw none 0 []]), .join (RMR B11 (Rm.mk rho2 rho3 ((es ++ [En.mk xo.b.k xo.nw none 0 []]).map toLt) bs) va85 vb85), .blk N9 9 ([.string (rootB (seedB 2)), .string (rootB (seedB 3))])]) [4, 0, 1, 2, 3, 5, 6] (by decide) rfl)
                    go_upto_region 25 with fail
                    refine wp_region_fromM (fun W => Sep w [] [.join ((es ++ [En.mk xo.b.k xo.nw none 0 []]).map enR), .blk N93 45 (enc (En.mk xo.b.k xo.nw none 0 [])), .blk N18 38 (oqc xo), .own enc 45 11 (v94) (es ++ [En.mk xo.b.k xo.nw none 0 []]), .join (RMR B11 (Rm.mk rho2 rho3 ((es ++ [En.mk xo.b.k xo.nw none 0 []]).map toLt) bs) va85 vb85), .blk N9 9 ([.string (rootB (seedB 2)), .string (rootB (seedB 3))])] W) hM ?_
                    clear hM
                    rintro Y95 hM
                    refine tF 2 [.val 0 (some 110) (.int .i64 0), .val 1 (some 111) (.bool false)] trivial ?_
                    refine dF ?_
                    try simp only [puts, Tk.put, Act.put, List.setIfInBounds_toArray, List.set_cons_zero, List.set_cons_succ]
                    go_wp2_with fail
                    refine Met.intro (hJs2 _ _ rfl (show (fun (u5 : Value) => ∃ (es2 : List En) (bs2 : List Bd) (va2 vb2 : Value), Inv19 (j + 1) es2 bs2 ∧ Sep w [] [.own enc 45 11 (u5) (es2), .join (es2.map enR), .join (RMR B11 (Rm.mk rho2 rho3 (es2.map toLt) bs2) va2 vb2), .blk N9 9 ([.string (rootB (seedB 2)), .string (rootB (seedB 3))]), .blk N18 38 (oqc xo)] _) (v94) from ⟨es ++ [En.mk xo.b.k xo.nw none 0 []], bs, _, _, (HI.out.opened HNO.out (by have h := since_ok xo.nw; rw [since_in Hhb16.out Hhb17.out] at h; exact h)), hM.pick [3, 0, 4, 5, 2] (by decide) rfl⟩))
                  | true =>
                    have Hhb17 := Lib.hid hb17
                    clear hb17
                    have hq := rmOpen_any xo.b.k xo.nw _ (hM.oka 3 rfl)
                    rw [open_yesE Hhb14.out HNO.out Hhb15.out (since_big Hhb17.out)] at hq
                    refine cF (some 93) 10 #[pt B11 0, akv xo.b.k, .int .i64 xo.nw] ((hq).mono ?_)
                    rintro e Y96 ⟨rfl, va96, vb96, hT⟩
                    clear hq
                    replace hM := hM.turn 3 rfl hT rfl
                    clear hT
                    refine tF 8 [.val 7 (some 9) (.int .i64 0)] trivial ?_
                    refine dF ?_
                    try simp only [puts, Tk.put, Act.put, List.setIfInBounds_toArray, List.set_cons_zero, List.set_cons_succ]
                    go_upto_region 27 with fail
                    refine wp_region_fromM (fun W => Sep w [] [.blk N18 38 (oqc xo), .own enc 45 11 (.slice pu5 es.length cu5) (es), .join (es.map enR), .join (RMR B11 (Rm.mk rho2 rho3 ((es ++ [En.mk xo.b.k 0 none 0 []]).map toLt) bs) va96 vb96), .blk N9 9 ([.string (rootB (seedB 2)), .string (rootB (seedB 3))])] W) hM ?_
                    clear hM
                    rintro Y97 hM
                    refine tF 3 [.val 0 (some 113) (pt N18 1), .val 1 (some 114) (pt N18 2), .load 2 (some 115) 34 (pt N18 2) (akv xo.b.k)] ⟨load_part (hM.at 0 rfl) 2 (akc xo.b.k) rfl _ _ Tryz.underlying34 rfl (by kernel_rfl), trivial⟩ ?_
                    refine cF (some 116) 11 #[akv xo.b.k] ((refAsk_any xo.b.k _).mono ?_)
                    rintro e Y98 ⟨rfl, hb⟩
                    replace hM := hM.below hb
                    clear hb
                    refine tF 6 [.alt 4 (some 117) (.bool ((errA xo.b.k) != 0)) (.bool false), .val 5 (some 112) (.bool false)] ⟨congrArg Value.bool (Hhb14.out), trivial⟩ ?_
                    refine dF ?_
                    try simp only [puts, Tk.put, Act.put, List.setIfInBounds_toArray, List.set_cons_zero, List.set_cons_succ]
                    go_upto_region 30 with fail
                    refine wp_region_fromM (fun W => Sep w [] [.blk N18 38 (oqc xo), .own enc 45 11 (.slice pu5 es.length cu5) (es), .join (es.map enR), .join (RMR B11 (Rm.mk rho2 rho3 ((es ++ [En.mk xo.b.k 0 none 0 []]).map toLt) bs) va96 vb96), .blk N9 9 ([.string (rootB (seedB 2)), .string (rootB (seedB 3))])] W) hM ?_
                    clear hM
                    rintro Y99 hM
                    refine tF 3 [.val 0 (some 121) (.int .i64 qa), .alt 1 (some 122) (.bool (decide (0 ≤ qa))) (.bool false), .val 2 (some 120) (.bool false)] ⟨congrArg Value.bool (decide_eq_false HGE.out), trivial⟩ ?_
                    refine dF ?_
                    try simp only [puts, Tk.put, Act.put, List.setIfInBounds_toArray, List.set_cons_zero, List.set_cons_succ]
                    go_upto_region 33 with fail
                    refine wp_region_fromM (fun W => Sep w [] [.blk N18 38 (oqc xo), .own enc 45 11 (.slice pu5 es.length cu5) (es), .join (es.map enR), .join (RMR B11 (Rm.mk rho2 rho3 ((es ++ [En.mk xo.b.k 0 none 0 []]).map toLt) bs) va96 vb96), .blk N9 9 ([.string (rootB (seedB 2)), .string (rootB (seedB 3))])] W) hM ?_
                    clear hM
                    rintro Y100 hM
                    refine tF 4 [.val 0 (some 126) (.slice pu5 es.length cu5), .val 1 (some 127) (.int .i64 (es.length : Int)), .alt 2 (some 128) (.bool (decide (8 ≤ (es.length : Int)))) (.bool false), .val 3 (some 125) (.bool false)] ⟨congrArg Value.bool (Hhb15.out), trivial⟩ ?_
                    refine dF ?_
                    try simp only [puts, Tk.put, Act.put, List.setIfInBounds_toArray, List.set_cons_zero, List.set_cons_succ]
                    go_upto_region 21 with fail
                    refine wp_region_fromM (fun W => Sep w [] [.blk N18 38 (oqc xo), .own enc 45 11 (.slice pu5 es.length cu5) (es), .join (es.map enR), .join (RMR B11 (Rm.mk rho2 rho3 ((es ++ [En.mk xo.b.k 0 none 0 []]).map toLt) bs) va96 vb96), .blk N9 9 ([.string (rootB (seedB 2)), .string (rootB (seedB 3))])] W) hM ?_
                    clear hM
                    rintro Y101 hM
                    refine tF 3 [.val 0 (some 94) (pt N18 17), .load 1 (some 95) 3 (pt N18 17) (.int .i64 xo.nw), .val 2 (some 10) (.int .i64 xo.nw)] ⟨ld_any _ _ Tryz.underlying3 rfl (hM.at 0 rfl) 17 rfl, trivial⟩ ?_
                    refine dF ?_
                    try simp only [puts, Tk.put, Act.put, List.setIfInBounds_toArray, List.set_cons_zero, List.set_cons_succ]
                    go_upto_region 22 with fail
                    refine wp_region_fromM (fun W => Sep w [] [.blk N18 38 (oqc xo), .own enc 45 11 (.slice pu5 es.length cu5) (es), .join (es.map enR), .join (RMR B11 (Rm.mk rho2 rho3 ((es ++ [En.mk xo.b.k 0 none 0 []]).map toLt) bs) va96 vb96), .blk N9 9 ([.string (rootB (seedB 2)), .string (rootB (seedB 3))])] W) hM ?_
                    clear hM
                    rintro Y102 hM
                    refine tF 6 [.val 0 (some 96) (.int .i64 xo.nw), .alt 1 (some 97) (.bool (decide (xo.nw < 0))) (.bool false), .val 2 (some 98) (.bool false), .val 3 (some 99) (.int .i64 xo.nw), .alt 4 (some 100) (.bool (decide (1099511627776 < xo.nw))) (.bool true), .val 5 (some 101) (.bool true)] ⟨congrArg Value.bool (Hhb16.out), congrArg Value.bool (Hhb17.out), trivial⟩ ?_
                    refine dF ?_
                    try simp only [puts, Tk.put, Act.put, List.setIfInBounds_toArray, List.set_cons_zero, List.set_cons_succ]
                    go_upto_region 23 with fail
                    refine wp_region_fromM (fun W => Sep w [] [.blk N18 38 (oqc xo), .own enc 45 11 (.slice pu5 es.length cu5) (es), .join (es.map enR), .join (RMR B11 (Rm.mk rho2 rho3 ((es ++ [En.mk xo.b.k 0 none 0 []]).map toLt) bs) va96 vb96), .blk N9 9 ([.string (rootB (seedB 2)), .string (rootB (seedB 3))])] W) hM ?_
                    clear hM
                    rintro Y103 hM
                    refine tF 1 [.val 0 (some 10) (.int .i64 0)] trivial ?_
                    refine dF ?_
                    try simp only [puts, Tk.put, Act.put, List.setIfInBounds_toArray, List.set_cons_zero, List.set_cons_succ]
                    go_upto_region 24 with fail
                    refine wp_region_fromM (fun W => Sep w [] [.blk N18 38 (oqc xo), .own enc 45 11 (.slice pu5 es.length cu5) (es), .join (es.map enR), .join (RMR B11 (Rm.mk rho2 rho3 ((es ++ [En.mk xo.b.k 0 none 0 []]).map toLt) bs) va96 vb96), .blk N9 9 ([.string (rootB (seedB 2)), .string (rootB (seedB 3))])] W) hM ?_
                    clear hM
                    rintro Y104 hM
                    refine tF 6 [.val 0 (some 102) (.slice pu5 es.length cu5), .val 1 (some 103) (pt N18 1), .val 2 (some 104) (pt N18 2), .load 3 (some 105) 34 (pt N18 2) (akv xo.b.k), .val 4 (some 106) (.int .i64 0), .val 5 (some 107) (env (En.mk xo.b.k 0 none 0 []))] ⟨load_part (hM.at 0 rfl) 2 (akc xo.b.k) rfl _ _ Tryz.underlying34 rfl (by kernel_rfl), trivial⟩ ?_
                    refine rF (some 108) (.slice (some ⟨Y104.heap.size, 0, none⟩) 1 1) (Y104.alloc (.cells (enc (En.mk xo.b.k 0 none 0 [])).toArray 45)) ?_
                    replace hM := hM.alloc 45 (enc (En.mk xo.b.k 0 none 0 []))
                    generalize World.alloc _ _ = Y105 at *
                    generalize hNe : Y104.heap.size = N105 at *
                    clear hNe
                    obtain ⟨v106, Y106, hrun, ht⟩ := own_app1 infoEn rfl (by decide) Tryz.underlying29 enc_len enc_one (hM.oka 2 rfl) (En.mk xo.b.k 0 none 0 []) (hM.at 0 rfl) (by decide) (by have h1 := of_decide_eq_false Hhb15.out; omega) 29
                    replace hM := hM.turn 2 rfl ht rfl
                    clear ht
                    refine wpFrom_append (d := some 109) (t := 29) (t' := 29) (ty := 29) (v := .slice pu5 es.length cu5) (x := .slice (some ⟨N105, 0, none⟩) 1 1) (by kernel_rfl) hrun ?_
                    clear hrun
                    refine tF 9 [.val 8 (some 5) (v106)] trivial ?_
                    refine dF ?_
                    try simp only [puts, Tk.put, Act.put, List.setIfInBounds_toArray, List.set_cons_zero, List.set_cons_succ]
                    replace hM := hM.nil bdc 36 16
                    replace hM := Sep.enadd (es := es) (e := En.mk xo.b.k 0 none 0 []) (hM.pick (l' := .join (es.map enR) :: enR (En.mk xo.b.k 0 none 0 []) :: [.blk N105 45 (enc (En.mk xo.b.k 0 none 0 [])), .blk N18 38 (oqc xo), .own enc 45 11 (v106) (es ++ [En.mk xo.b.k 0 none 0 []]), .join (RMR B11 (Rm.mk rho2 rho3 ((es ++ [En.mk xo.b.k 0 none 0 []]).map toLt) bs) va96 vb96), .blk N9 9 ([.string (rootB (seedB 2)), .string (rootB (seedB 3))])]) [4, 0, 1, 2, 3, 5, 6] (by decide) rfl)
                    go_upto_region 25 with fail
                    refine wp_region_fromM (fun W => Sep w [] [.join ((es ++ [En.mk xo.b.k 0 none 0 []]).map enR), .blk N105 45 (enc (En.mk xo.b.k 0 none 0 [])), .blk N18 38 (oqc xo), .own enc 45 11 (v106) (es ++ [En.mk xo.b.k 0 none 0 []]), .join (RMR B11 (Rm.mk rho2 rho3 ((es ++ [En.mk xo.b.k 0 none 0 []]).map toLt) bs) va96 vb96), .blk N9 9 ([.string (rootB (seedB 2)), .string (rootB (seedB 3))])] W) hM ?_
                    clear hM
                    rintro Y107 hM
                    refine tF 2 [.val 0 (some 110) (.int .i64 0), .val 1 (some 111) (.bool false)] trivial ?_
                    refine dF ?_
                    try simp only [puts, Tk.put, Act.put, List.setIfInBounds_toArray, List.set_cons_zero, List.set_cons_succ]
                    go_wp2_with fail
                    refine Met.intro (hJs2 _ _ rfl (show (fun (u5 : Value) => ∃ (es2 : List En) (bs2 : List Bd) (va2 vb2 : Value), Inv19 (j + 1) es2 bs2 ∧ Sep w [] [.own enc 45 11 (u5) (es2), .join (es2.map enR), .join (RMR B11 (Rm.mk rho2 rho3 (es2.map toLt) bs2) va2 vb2), .blk N9 9 ([.string (rootB (seedB 2)), .string (rootB (seedB 3))]), .blk N18 38 (oqc xo)] _) (v106) from ⟨es ++ [En.mk xo.b.k 0 none 0 []], bs, _, _, (HI.out.opened HNO.out (by have h := since_ok xo.nw; rw [since_big Hhb17.out] at h; exact h)), hM.pick [3, 0, 4, 5, 2] (by decide) rfl⟩))
                | true =>
                  have Hhb16 := Lib.hid hb16
                  clear hb16
                  have hq := rmOpen_any xo.b.k xo.nw _ (hM.oka 3 rfl)
                  rw [open_yesE Hhb14.out HNO.out Hhb15.out (since_neg Hhb16.out)] at hq
                  refine cF (some 93) 10 #[pt B11 0, akv xo.b.k, .int .i64 xo.nw] ((hq).mono ?_)
                  rintro e Y108 ⟨rfl, va108, vb108, hT⟩
                  clear hq
                  replace hM := hM.turn 3 rfl hT rfl
                  clear hT
                  refine tF 8 [.val 7 (some 9) (.int .i64 0)] trivial ?_
                  refine dF ?_
                  try simp only [puts, Tk.put, Act.put, List.setIfInBounds_toArray, List.set_cons_zero, List.set_cons_succ]
                  go_upto_region 27 with fail
                  refine wp_region_fromM (fun W => Sep w [] [.blk N18 38 (oqc xo), .own enc 45 11 (.slice pu5 es.length cu5) (es), .join (es.map enR), .join (RMR B11 (Rm.mk rho2 rho3 ((es ++ [En.mk xo.b.k 0 none 0 []]).map toLt) bs) va108 vb108), .blk N9 9 ([.string (rootB (seedB 2)), .string (rootB (seedB 3))])] W) hM ?_
                  clear hM
                  rintro Y109 hM
                  refine tF 3 [.val 0 (some 113) (pt N18 1), .val 1 (some 114) (pt N18 2), .load 2 (some 115) 34 (pt N18 2) (akv xo.b.k)] ⟨load_part (hM.at 0 rfl) 2 (akc xo.b.k) rfl _ _ Tryz.underlying34 rfl (by kernel_rfl), trivial⟩ ?_
                  refine cF (some 116) 11 #[akv xo.b.k] ((refAsk_any xo.b.k _).mono ?_)
                  rintro e Y110 ⟨rfl, hb⟩
                  replace hM := hM.below hb
                  clear hb
                  refine tF 6 [.alt 4 (some 117) (.bool ((errA xo.b.k) != 0)) (.bool false), .val 5 (some 112) (.bool false)] ⟨congrArg Value.bool (Hhb14.out), trivial⟩ ?_
                  refine dF ?_
                  try simp only [puts, Tk.put, Act.put, List.setIfInBounds_toArray, List.set_cons_zero, List.set_cons_succ]
                  go_upto_region 30 with fail
                  refine wp_region_fromM (fun W => Sep w [] [.blk N18 38 (oqc xo), .own enc 45 11 (.slice pu5 es.length cu5) (es), .join (es.map enR), .join (RMR B11 (Rm.mk rho2 rho3 ((es ++ [En.mk xo.b.k 0 none 0 []]).map toLt) bs) va108 vb108), .blk N9 9 ([.string (rootB (seedB 2)), .string (rootB (seedB 3))])] W) hM ?_
                  clear hM
                  rintro Y111 hM
                  refine tF 3 [.val 0 (some 121) (.int .i64 qa), .alt 1 (some 122) (.bool (decide (0 ≤ qa))) (.bool false), .val 2 (some 120) (.bool false)] ⟨congrArg Value.bool (decide_eq_false HGE.out), trivial⟩ ?_
                  refine dF ?_
                  try simp only [puts, Tk.put, Act.put, List.setIfInBounds_toArray, List.set_cons_zero, List.set_cons_succ]
                  go_upto_region 33 with fail
                  refine wp_region_fromM (fun W => Sep w [] [.blk N18 38 (oqc xo), .own enc 45 11 (.slice pu5 es.length cu5) (es), .join (es.map enR), .join (RMR B11 (Rm.mk rho2 rho3 ((es ++ [En.mk xo.b.k 0 none 0 []]).map toLt) bs) va108 vb108), .blk N9 9 ([.string (rootB (seedB 2)), .string (rootB (seedB 3))])] W) hM ?_
                  clear hM
                  rintro Y112 hM
                  refine tF 4 [.val 0 (some 126) (.slice pu5 es.length cu5), .val 1 (some 127) (.int .i64 (es.length : Int)), .alt 2 (some 128) (.bool (decide (8 ≤ (es.length : Int)))) (.bool false), .val 3 (some 125) (.bool false)] ⟨congrArg Value.bool (Hhb15.out), trivial⟩ ?_
                  refine dF ?_
                  try simp only [puts, Tk.put, Act.put, List.setIfInBounds_toArray, List.set_cons_zero, List.set_cons_succ]
                  go_upto_region 21 with fail
                  refine wp_region_fromM (fun W => Sep w [] [.blk N18 38 (oqc xo), .own enc 45 11 (.slice pu5 es.length cu5) (es), .join (es.map enR), .join (RMR B11 (Rm.mk rho2 rho3 ((es ++ [En.mk xo.b.k 0 none 0 []]).map toLt) bs) va108 vb108), .blk N9 9 ([.string (rootB (seedB 2)), .string (rootB (seedB 3))])] W) hM ?_
                  clear hM
                  rintro Y113 hM
                  refine tF 3 [.val 0 (some 94) (pt N18 17), .load 1 (some 95) 3 (pt N18 17) (.int .i64 xo.nw), .val 2 (some 10) (.int .i64 xo.nw)] ⟨ld_any _ _ Tryz.underlying3 rfl (hM.at 0 rfl) 17 rfl, trivial⟩ ?_
                  refine dF ?_
                  try simp only [puts, Tk.put, Act.put, List.setIfInBounds_toArray, List.set_cons_zero, List.set_cons_succ]
                  go_upto_region 22 with fail
                  refine wp_region_fromM (fun W => Sep w [] [.blk N18 38 (oqc xo), .own enc 45 11 (.slice pu5 es.length cu5) (es), .join (es.map enR), .join (RMR B11 (Rm.mk rho2 rho3 ((es ++ [En.mk xo.b.k 0 none 0 []]).map toLt) bs) va108 vb108), .blk N9 9 ([.string (rootB (seedB 2)), .string (rootB (seedB 3))])] W) hM ?_
                  clear hM
                  rintro Y114 hM
                  refine tF 6 [.val 0 (some 96) (.int .i64 xo.nw), .alt 1 (some 97) (.bool (decide (xo.nw < 0))) (.bool true), .val 2 (some 98) (.bool true), .skip 3 (some 99), .skip 4 (some 100), .val 5 (some 101) (.bool true)] ⟨congrArg Value.bool (Hhb16.out), trivial⟩ ?_
                  refine dF ?_
                  try simp only [puts, Tk.put, Act.put, List.setIfInBounds_toArray, List.set_cons_zero, List.set_cons_succ]
                  go_upto_region 23 with fail
                  refine wp_region_fromM (fun W => Sep w [] [.blk N18 38 (oqc xo), .own enc 45 11 (.slice pu5 es.length cu5) (es), .join (es.map enR), .join (RMR B11 (Rm.mk rho2 rho3 ((es ++ [En.mk xo.b.k 0 none 0 []]).map toLt) bs) va108 vb108), .blk N9 9 ([.string (rootB (seedB 2)), .string (rootB (seedB 3))])] W) hM ?_
                  clear hM
                  rintro Y115 hM
                  refine tF 1 [.val 0 (some 10) (.int .i64 0)] trivial ?_
                  refine dF ?_
                  try simp only [puts, Tk.put, Act.put, List.setIfInBounds_toArray, List.set_cons_zero, List.set_cons_succ]
                  go_upto_region 24 with fail
                  refine wp_region_fromM (fun W => Sep w [] [.blk N18 38 (oqc xo), .own enc 45 11 (.slice pu5 es.length cu5) (es), .join (es.map enR), .join (RMR B11 (Rm.mk rho2 rho3 ((es ++ [En.mk xo.b.k 0 none 0 []]).map toLt) bs) va108 vb108), .blk N9 9 ([.string (rootB (seedB 2)), .string (rootB (seedB 3))])] W) hM ?_
                  clear hM
                  rintro Y116 hM
                  refine tF 6 [.val 0 (some 102) (.slice pu5 es.length cu5), .val 1 (some 103) (pt N18 1), .val 2 (some 104) (pt N18 2), .load 3 (some 105) 34 (pt N18 2) (akv xo.b.k), .val 4 (some 106) (.int .i64 0), .val 5 (some 107) (env (En.mk xo.b.k 0 none 0 []))] ⟨load_part (hM.at 0 rfl) 2 (akc xo.b.k) rfl _ _ Tryz.underlying34 rfl (by kernel_rfl), trivial⟩ ?_
                  refine rF (some 108) (.slice (some ⟨Y116.heap.size, 0, none⟩) 1 1) (Y116.alloc (.cells (enc (En.mk xo.b.k 0 none 0 [])).toArray 45)) ?_
                  replace hM := hM.alloc 45 (enc (En.mk xo.b.k 0 none 0 []))
                  generalize World.alloc _ _ = Y117 at *
                  generalize hNe : Y116.heap.size = N117 at *
                  clear hNe
                  obtain ⟨v118, Y118, hrun, ht⟩ := own_app1 infoEn rfl (by decide) Tryz.underlying29 enc_len enc_one (hM.oka 2 rfl) (En.mk xo.b.k 0 none 0 []) (hM.at 0 rfl) (by decide) (by have h1 := of_decide_eq_false Hhb15.out; omega) 29
                  replace hM := hM.turn 2 rfl ht rfl
                  clear ht
                  refine wpFrom_append (d := some 109) (t := 29) (t' := 29) (ty := 29) (v := .slice pu5 es.length cu5) (x := .slice (some ⟨N117, 0, none⟩) 1 1) (by kernel_rfl) hrun ?_
                  clear hrun
                  refine tF 9 [.val 8 (some 5) (v118)] trivial ?_
                  refine dF ?_
                  try simp only [puts, Tk.put, Act.put, List.setIfInBounds_toArray, List.set_cons_zero, List.set_cons_succ]
                  replace hM := hM.nil bdc 36 16
                  replace hM := Sep.enadd (es := es) (e := En.mk xo.b.k 0 none 0 []) (hM.pick (l' := .join (es.map enR) :: enR (En.mk xo.b.k 0 none 0 []) :: [.blk N117 45 (enc (En.mk xo.b.k 0 none 0 [])), .blk N18 38 (oqc xo), .own enc 45 11 (v118) (es ++ [En.mk xo.b.k 0 none 0 []]), .join (RMR B11 (Rm.mk rho2 rho3 ((es ++ [En.mk xo.b.k 0 none 0 []]).map toLt) bs) va108 vb108), .blk N9 9 ([.string (rootB (seedB 2)), .string (rootB (seedB 3))])]) [4, 0, 1, 2, 3, 5, 6] (by decide) rfl)
                  go_upto_region 25 with fail
                  refine wp_region_fromM (fun W => Sep w [] [.join ((es ++ [En.mk xo.b.k 0 none 0 []]).map enR), .blk N117 45 (enc (En.mk xo.b.k 0 none 0 [])), .blk N18 38 (oqc xo), .own enc 45 11 (v118) (es ++ [En.mk xo.b.k 0 none 0 []]), .join (RMR B11 (Rm.mk rho2 rho3 ((es ++ [En.mk xo.b.k 0 none 0 []]).map toLt) bs) va108 vb108), .blk N9 9 ([.string (rootB (seedB 2)), .string (rootB (seedB 3))])] W) hM ?_
                  clear hM
                  rintro Y119 hM
                  refine tF 2 [.val 0 (some 110) (.int .i64 0), .val 1 (some 111) (.bool false)] trivial ?_
                  refine dF ?_
                  try simp only [puts, Tk.put, Act.put, List.setIfInBounds_toArray, List.set_cons_zero, List.set_cons_succ]
                  go_wp2_with fail
                  refine Met.intro (hJs2 _ _ rfl (show (fun (u5 : Value) => ∃ (es2 : List En) (bs2 : List Bd) (va2 vb2 : Value), Inv19 (j + 1) es2 bs2 ∧ Sep w [] [.own enc 45 11 (u5) (es2), .join (es2.map enR), .join (RMR B11 (Rm.mk rho2 rho3 (es2.map toLt) bs2) va2 vb2), .blk N9 9 ([.string (rootB (seedB 2)), .string (rootB (seedB 3))]), .blk N18 38 (oqc xo)] _) (v118) from ⟨es ++ [En.mk xo.b.k 0 none 0 []], bs, _, _, (HI.out.opened HNO.out (by have h := since_ok xo.nw; rw [since_neg Hhb16.out] at h; exact h)), hM.pick [3, 0, 4, 5, 2] (by decide) rfl⟩))
              | true =>
                have Hhb15 := Lib.hid hb15
                clear hb15
                have hq := rmOpen_any xo.b.k xo.nw _ (hM.oka 3 rfl)
                rw [open_fullE Hhb14.out HNO.out Hhb15.out] at hq
                refine cF (some 93) 10 #[pt B11 0, akv xo.b.k, .int .i64 xo.nw] ((hq).mono ?_)
                rintro e Y120 ⟨rfl, va120, vb120, hT⟩
                clear hq
                replace hM := hM.turn 3 rfl hT rfl
                clear hT
                refine tF 8 [.val 7 (some 9) (.int .i64 10)] trivial ?_
                refine dF ?_
                try simp only [puts, Tk.put, Act.put, List.setIfInBounds_toArray, List.set_cons_zero, List.set_cons_succ]
                go_upto_region 27 with fail
                refine wp_region_fromM (fun W => Sep w [] [.blk N18 38 (oqc xo), .own enc 45 11 (.slice pu5 es.length cu5) (es), .join (es.map enR), .join (RMR B11 (Rm.mk rho2 rho3 (es.map toLt) bs) va120 vb120), .blk N9 9 ([.string (rootB (seedB 2)), .string (rootB (seedB 3))])] W) hM ?_
                clear hM
                rintro Y121 hM
                refine tF 3 [.val 0 (some 113) (pt N18 1), .val 1 (some 114) (pt N18 2), .load 2 (some 115) 34 (pt N18 2) (akv xo.b.k)] ⟨load_part (hM.at 0 rfl) 2 (akc xo.b.k) rfl _ _ Tryz.underlying34 rfl (by kernel_rfl), trivial⟩ ?_
                refine cF (some 116) 11 #[akv xo.b.k] ((refAsk_any xo.b.k _).mono ?_)
                rintro e Y122 ⟨rfl, hb⟩
                replace hM := hM.below hb
                clear hb
                refine tF 6 [.alt 4 (some 117) (.bool ((errA xo.b.k) != 0)) (.bool false), .val 5 (some 112) (.bool false)] ⟨congrArg Value.bool (Hhb14.out), trivial⟩ ?_
                refine dF ?_
                try simp only [puts, Tk.put, Act.put, List.setIfInBounds_toArray, List.set_cons_zero, List.set_cons_succ]
                go_upto_region 30 with fail
                refine wp_region_fromM (fun W => Sep w [] [.blk N18 38 (oqc xo), .own enc 45 11 (.slice pu5 es.length cu5) (es), .join (es.map enR), .join (RMR B11 (Rm.mk rho2 rho3 (es.map toLt) bs) va120 vb120), .blk N9 9 ([.string (rootB (seedB 2)), .string (rootB (seedB 3))])] W) hM ?_
                clear hM
                rintro Y123 hM
                refine tF 3 [.val 0 (some 121) (.int .i64 qa), .alt 1 (some 122) (.bool (decide (0 ≤ qa))) (.bool false), .val 2 (some 120) (.bool false)] ⟨congrArg Value.bool (decide_eq_false HGE.out), trivial⟩ ?_
                refine dF ?_
                try simp only [puts, Tk.put, Act.put, List.setIfInBounds_toArray, List.set_cons_zero, List.set_cons_succ]
                go_upto_region 33 with fail
                refine wp_region_fromM (fun W => Sep w [] [.blk N18 38 (oqc xo), .own enc 45 11 (.slice pu5 es.length cu5) (es), .join (es.map enR), .join (RMR B11 (Rm.mk rho2 rho3 (es.map toLt) bs) va120 vb120), .blk N9 9 ([.string (rootB (seedB 2)), .string (rootB (seedB 3))])] W) hM ?_
                clear hM
                rintro Y124 hM
                refine tF 4 [.val 0 (some 126) (.slice pu5 es.length cu5), .val 1 (some 127) (.int .i64 (es.length : Int)), .alt 2 (some 128) (.bool (decide (8 ≤ (es.length : Int)))) (.bool true), .val 3 (some 125) (.bool true)] ⟨congrArg Value.bool (Hhb15.out), trivial⟩ ?_
                refine dF ?_
                try simp only [puts, Tk.put, Act.put, List.setIfInBounds_toArray, List.set_cons_zero, List.set_cons_succ]
                go_upto_region 34 with fail
                refine wp_region_fromM (fun W => Sep w [] [.blk N18 38 (oqc xo), .own enc 45 11 (.slice pu5 es.length cu5) (es), .join (es.map enR), .join (RMR B11 (Rm.mk rho2 rho3 (es.map toLt) bs) va120 vb120), .blk N9 9 ([.string (rootB (seedB 2)), .string (rootB (seedB 3))])] W) hM ?_
                clear hM
                rintro Y125 hM
                refine tF 2 [.val 0 (some 129) (.int .i64 10), .val 1 (some 130) (.bool false)] trivial ?_
                refine dF ?_
                try simp only [puts, Tk.put, Act.put, List.setIfInBounds_toArray, List.set_cons_zero, List.set_cons_succ]
                go_wp2_with fail
                refine Met.intro (hJs2 _ _ rfl (show (fun (u5 : Value) => ∃ (es2 : List En) (bs2 : List Bd) (va2 vb2 : Value), Inv19 (j + 1) es2 bs2 ∧ Sep w [] [.own enc 45 11 (u5) (es2), .join (es2.map enR), .join (RMR B11 (Rm.mk rho2 rho3 (es2.map toLt) bs2) va2 vb2), .blk N9 9 ([.string (rootB (seedB 2)), .string (rootB (seedB 3))]), .blk N18 38 (oqc xo)] _) (.slice pu5 es.length cu5) from ⟨es, bs, _, _, HI.out.up, hM.pick [1, 2, 3, 4, 0] (by decide) rfl⟩))
            | true =>
              have Hhb14 := Lib.hid hb14
              clear hb14
              have hq := rmOpen_any xo.b.k xo.nw _ (hM.oka 3 rfl)
              rw [open_err39 Hhb14.out] at hq
              refine cF (some 93) 10 #[pt B11 0, akv xo.b.k, .int .i64 xo.nw] ((hq).mono ?_)
              rintro e Y126 ⟨rfl, va126, vb126, hT⟩
              clear hq
              replace hM := hM.turn 3 rfl hT rfl
              clear hT
              refine tF 8 [.val 7 (some 9) (.int .i64 39)] trivial ?_
              refine dF ?_
              try simp only [puts, Tk.put, Act.put, List.setIfInBounds_toArray, List.set_cons_zero, List.set_cons_succ]
              go_upto_region 27 with fail
              refine wp_region_fromM (fun W => Sep w [] [.blk N18 38 (oqc xo), .own enc 45 11 (.slice pu5 es.length cu5) (es), .join (es.map enR), .join (RMR B11 (Rm.mk rho2 rho3 (es.map toLt) bs) va126 vb126), .blk N9 9 ([.string (rootB (seedB 2)), .string (rootB (seedB 3))])] W) hM ?_
              clear hM
              rintro Y127 hM
              refine tF 3 [.val 0 (some 113) (pt N18 1), .val 1 (some 114) (pt N18 2), .load 2 (some 115) 34 (pt N18 2) (akv xo.b.k)] ⟨load_part (hM.at 0 rfl) 2 (akc xo.b.k) rfl _ _ Tryz.underlying34 rfl (by kernel_rfl), trivial⟩ ?_
              refine cF (some 116) 11 #[akv xo.b.k] ((refAsk_any xo.b.k _).mono ?_)
              rintro e Y128 ⟨rfl, hb⟩
              replace hM := hM.below hb
              clear hb
              refine tF 6 [.alt 4 (some 117) (.bool ((errA xo.b.k) != 0)) (.bool true), .val 5 (some 112) (.bool true)] ⟨congrArg Value.bool (Hhb14.out), trivial⟩ ?_
              refine dF ?_
              try simp only [puts, Tk.put, Act.put, List.setIfInBounds_toArray, List.set_cons_zero, List.set_cons_succ]
              go_upto_region 28 with fail
              refine wp_region_fromM (fun W => Sep w [] [.blk N18 38 (oqc xo), .own enc 45 11 (.slice pu5 es.length cu5) (es), .join (es.map enR), .join (RMR B11 (Rm.mk rho2 rho3 (es.map toLt) bs) va126 vb126), .blk N9 9 ([.string (rootB (seedB 2)), .string (rootB (seedB 3))])] W) hM ?_
              clear hM
              rintro Y129 hM
              refine tF 2 [.val 0 (some 118) (.int .i64 39), .val 1 (some 119) (.bool false)] trivial ?_
              refine dF ?_
              try simp only [puts, Tk.put, Act.put, List.setIfInBounds_toArray, List.set_cons_zero, List.set_cons_succ]
              go_wp2_with fail
              refine Met.intro (hJs2 _ _ rfl (show (fun (u5 : Value) => ∃ (es2 : List En) (bs2 : List Bd) (va2 vb2 : Value), Inv19 (j + 1) es2 bs2 ∧ Sep w [] [.own enc 45 11 (u5) (es2), .join (es2.map enR), .join (RMR B11 (Rm.mk rho2 rho3 (es2.map toLt) bs2) va2 vb2), .blk N9 9 ([.string (rootB (seedB 2)), .string (rootB (seedB 3))]), .blk N18 38 (oqc xo)] _) (.slice pu5 es.length cu5) from ⟨es, bs, _, _, HI.out.up, hM.pick [1, 2, 3, 4, 0] (by decide) rfl⟩))
      case rests2 =>
        intro s2 wc hcut
        dsimp only [fillS]
        try dsimp only at hcut
        generalize s2 5 = u5 at hcut ⊢
        obtain ⟨es2, bs2, va2, vb2, hi2, hM⟩ := hcut
        have HI2 := Lib.hid hi2
        clear hi2
        obtain ⟨pu5, cu5, rfl⟩ := (hM.oka 0 rfl).slice enc_len
        go_upto_region 47 with fail
        refine wp_region_M (fun W => Sep w [] [.own enc 45 11 (.slice pu5 es2.length cu5) (es2), .join (es2.map enR), .join (RMR B11 (Rm.mk rho2 rho3 (es2.map toLt) bs2) va2 vb2), .blk N9 9 ([.string (rootB (seedB 2)), .string (rootB (seedB 3))]), .blk N18 38 (oqc xo)] W) (fun W => Sep w [] [.own enc 45 11 (.slice pu5 es2.length cu5) (es2), .join (es2.map enR), .join (RMR B11 (Rm.mk rho2 rho3 (es2.map toLt) bs2) va2 vb2), .blk N9 9 ([.string (rootB (seedB 2)), .string (rootB (seedB 3))]), .blk N18 38 (oqc xo)] W) hmx hM.drew ?_
        clear hM
        rintro Y130 hM
        have hS := hM.sub (.cons_cons _ (.cons_cons _ (.cons_cons _ (.cons_cons _ (.cons_cons _ .slnil)))))
        refine tD 4 [.val 0 (some 216) (pt B11 0), .val 2 (some 218) (pt B11 0), .val 3 (some 219) (pt N18 1), .val 4 (some 220) (pt N18 2), .load 5 (some 221) 34 (pt N18 2) (akv xo.b.k)] ⟨fun W h => load_part (h.at 4 rfl) 2 (akc xo.b.k) rfl _ _ Tryz.underlying34 rfl (by kernel_rfl), trivial⟩ hS ?_
        refine oD 1 3 (cD (some 217) 16 #[pt B11 0] ((rmAsks_any _ (RmV.of (hM.oka 2 rfl)) (by show (es2.map toLt).length ≤ 1000; rw [List.length_map]; exact Nat.le_trans HI2.out.el HJJ.out)).mono ?_))
        rintro e Y131 ⟨v131, rfl, hR⟩
        refine And.intro (hS.below hR.b) ?_
        replace hS := hS.below hR.b
        replace hM := hM.gain hR
        clear hR
        obtain ⟨pv131, nv131, cv131, hnv, rfl⟩ := slice_n ((hM.oka 0 rfl).slice akc_len)
        have HNv131 := Lib.hid hnv
        clear hnv
        refine oD 6 2 (cD (some 222) 17 #[pt B11 0, akv xo.b.k] ((rmBids_any xo.b.k _ (RmV.of (hM.oka 3 rfl)) (Nat.le_trans HI2.out.len HJJ.out)).mono ?_))
        rintro e Y132 ⟨v132, rfl, hR⟩
        refine And.intro (hS.below hR.b) ?_
        replace hS := hS.below hR.b
        replace hM := hM.gain hR
        clear hR
        obtain ⟨pv132, cv132, rfl⟩ := (hM.oka 0 rfl).slice bdc_len
        refine tD 0 [.val 7 (some 17) (.slice pv131 nv131 cv131), .val 8 (some 18) (.slice pv132 (forB (Rm.mk rho2 rho3 (es2.map toLt) bs2).bs xo.b.k anyB).length cv132)] trivial hS ?_
        refine dD ?_
        try simp only [puts, Tk.put, Act.put, List.setIfInBounds_toArray, List.set_cons_zero, List.set_cons_succ]
        clear hS
        go_upto_region 48 with fail
        refine wp_region_fromM (fun W => Sep w [] [.own bdc 36 16 (.slice pv132 (forB (Rm.mk rho2 rho3 (es2.map toLt) bs2).bs xo.b.k anyB).length cv132) (forB (Rm.mk rho2 rho3 (es2.map toLt) bs2).bs xo.b.k anyB), .own akc 34 9 (.slice pv131 nv131 cv131) (((es2.map toLt).map askL)), .own enc 45 11 (.slice pu5 es2.length cu5) (es2), .join (es2.map enR), .join (RMR B11 (Rm.mk rho2 rho3 (es2.map toLt) bs2) va2 vb2), .blk N9 9 ([.string (rootB (seedB 2)), .string (rootB (seedB 3))]), .blk N18 38 (oqc xo)] W) hM ?_
        clear hM
        rintro Y133 hM
        refine tF 4 [.val 0 (some 223) (.slice pu5 es2.length cu5), .val 1 (some 224) (pt N18 1), .val 2 (some 225) (pt N18 2), .load 3 (some 226) 34 (pt N18 2) (akv xo.b.k)] ⟨load_part (hM.at 6 rfl) 2 (akc xo.b.k) rfl _ _ Tryz.underlying34 rfl (by kernel_rfl), trivial⟩ ?_
        refine cF (some 227) 9 #[.slice pu5 es2.length cu5, akv xo.b.k] ((find19_any xo.b.k es2 _ _ ((hM.oka 2 rfl).rsl enc_len) (Nat.le_refl _)).mono ?_)
        rintro e Y134 ⟨rfl, hb⟩
        replace hM := hM.below hb
        clear hb
        refine tF 6 [.val 5 (some 8) (.int .i64 (idxG (isEn xo.b.k) es2))] trivial ?_
        refine dF ?_
        try simp only [puts, Tk.put, Act.put, List.setIfInBounds_toArray, List.set_cons_zero, List.set_cons_succ]
        generalize hqi : idxG (isEn xo.b.k) es2 = qb
        have HQb := Lib.hid hqi
        clear hqi
        by_cases hge : 0 ≤ qb
        case pos =>
          obtain ⟨pb, eb, hp, he, hek, hef⟩ := en_yes (by rw [HQb.out]; exact hge)
          obtain rfl : qb = (pb : Int) := HQb.out.symm.trans hp
          have HEb := Lib.hid he
          have HEKb := Lib.hid hek
          have HEFb := Lib.hid hef
          clear hp he hek hef hge
          obtain ⟨bnb, onb, hit, hct⟩ := (hM.oka 2 rfl).elem enc_len HEb.out Tryz.underlying29 (fun W => by kernel_rfl)
          have HInb := Lib.hid hit
          have HCnb := Lib.hid hct
          clear hit hct
          have HEB2 : Hid (eb.bs = forB (Rm.mk rho2 rho3 (es2.map toLt) bs2).bs xo.b.k anyB) := Lib.hid (by rw [HI2.out.at' eb (List.mem_of_getElem? HEb.out), HEKb.out])
          go_upto_region 49 with fail
          refine wp_region_fromM (fun W => Sep w [] [.own bdc 36 16 (.slice pv132 (forB (Rm.mk rho2 rho3 (es2.map toLt) bs2).bs xo.b.k anyB).length cv132) (forB (Rm.mk rho2 rho3 (es2.map toLt) bs2).bs xo.b.k anyB), .own akc 34 9 (.slice pv131 nv131 cv131) (((es2.map toLt).map askL)), .own enc 45 11 (.slice pu5 es2.length cu5) (es2), .join (es2.map enR), .join (RMR B11 (Rm.mk rho2 rho3 (es2.map toLt) bs2) va2 vb2), .blk N9 9 ([.string (rootB (seedB 2)), .string (rootB (seedB 3))]), .blk N18 38 (oqc xo)] W) hM ?_
          clear hM
          rintro Y135 hM
          refine tF 1 [.val 0 (some 19) (.int .i64 0)] trivial ?_
          refine dF ?_
          try simp only [puts, Tk.put, Act.put, List.setIfInBounds_toArray, List.set_cons_zero, List.set_cons_succ]
          go_upto_region 50 with fail
          refine wp_region_fromM (fun W => Sep w [] [.own bdc 36 16 (.slice pv132 (forB (Rm.mk rho2 rho3 (es2.map toLt) bs2).bs xo.b.k anyB).length cv132) (forB (Rm.mk rho2 rho3 (es2.map toLt) bs2).bs xo.b.k anyB), .own akc 34 9 (.slice pv131 nv131 cv131) (((es2.map toLt).map askL)), .own enc 45 11 (.slice pu5 es2.length cu5) (es2), .join (es2.map enR), .join (RMR B11 (Rm.mk rho2 rho3 (es2.map toLt) bs2) va2 vb2), .blk N9 9 ([.string (rootB (seedB 2)), .string (rootB (seedB 3))]), .blk N18 38 (oqc xo)] W) hM ?_
          clear hM
          rintro Y136 hM
          refine tF 2 [.val 0 (some 228) (.int .i64 (pb : Int)), .alt 1 (some 229) (.bool (decide (0 ≤ (pb : Int)))) (.bool true)] ⟨congrArg Value.bool (decide_eq_true (Int.natCast_nonneg _)), trivial⟩ ?_
          refine dF ?_
          try simp only [puts, Tk.put, Act.put, List.setIfInBounds_toArray, List.set_cons_zero, List.set_cons_succ]
          go_upto_region 51 with fail
          refine wp_region_fromM (fun W => Sep w [] [.own bdc 36 16 (.slice pv132 (forB (Rm.mk rho2 rho3 (es2.map toLt) bs2).bs xo.b.k anyB).length cv132) (forB (Rm.mk rho2 rho3 (es2.map toLt) bs2).bs xo.b.k anyB), .own akc 34 9 (.slice pv131 nv131 cv131) (((es2.map toLt).map askL)), .own enc 45 11 (.slice pu5 es2.length cu5) (es2), .join (es2.map enR), .join (RMR B11 (Rm.mk rho2 rho3 (es2.map toLt) bs2) va2 vb2), .blk N9 9 ([.string (rootB (seedB 2)), .string (rootB (seedB 3))]), .blk N18 38 (oqc xo)] W) hM ?_
          clear hM
          rintro Y137 hM
          refine tF 7 [.val 0 (some 230) (.slice pu5 es2.length cu5), .val 1 (some 231) (.int .i64 (pb : Int)), .idx 2 (some 232) 29 (.slice pu5 es2.length cu5) (.int .i64 (pb : Int)) (pt bnb onb), .val 3 (some 233) (pt bnb (onb + 10)), .load 4 (some 234) 43 (pt bnb (onb + 10)) (eb.sl), .val 5 (some 235) (.int .i64 (eb.bs.length : Int)), .val 6 (some 19) (.int .i64 (eb.bs.length : Int))] ⟨HInb.out _, ld_cell _ _ Tryz.underlying43 rfl (HCnb.out _ (hM.oka 2 rfl) 10 _ rfl), trivial⟩ ?_
          refine dF ?_
          try simp only [puts, Tk.put, Act.put, List.setIfInBounds_toArray, List.set_cons_zero, List.set_cons_succ]
          go_upto_region 52 with fail
          refine wp_region_fromM (fun W => Sep w [] [.own bdc 36 16 (.slice pv132 (forB (Rm.mk rho2 rho3 (es2.map toLt) bs2).bs xo.b.k anyB).length cv132) (forB (Rm.mk rho2 rho3 (es2.map toLt) bs2).bs xo.b.k anyB), .own akc 34 9 (.slice pv131 nv131 cv131) (((es2.map toLt).map askL)), .own enc 45 11 (.slice pu5 es2.length cu5) (es2), .join (es2.map enR), .join (RMR B11 (Rm.mk rho2 rho3 (es2.map toLt) bs2) va2 vb2), .blk N9 9 ([.string (rootB (seedB 2)), .string (rootB (seedB 3))]), .blk N18 38 (oqc xo)] W) hM ?_
          clear hM
          rintro Y138 hM
          refine tF 11 [.val 0 (some 236) (.slice pv131 nv131 cv131), .val 1 (some 237) (.int .i64 (nv131 : Int)), .val 2 (some 238) (.slice pu5 es2.length cu5), .val 3 (some 239) (.int .i64 (es2.length : Int)), .alt 4 (some 240) (.bool ((nv131 : Int) != (es2.length : Int))) (.bool false), .val 5 (some 241) (.bool false), .val 6 (some 242) (.slice pv132 (forB (Rm.mk rho2 rho3 (es2.map toLt) bs2).bs xo.b.k anyB).length cv132), .val 7 (some 243) (.int .i64 ((forB (Rm.mk rho2 rho3 (es2.map toLt) bs2).bs xo.b.k anyB).length : Int)), .val 8 (some 244) (.int .i64 (eb.bs.length : Int)), .alt 9 (some 245) (.bool (((forB (Rm.mk rho2 rho3 (es2.map toLt) bs2).bs xo.b.k anyB).length : Int) != (eb.bs.length : Int))) (.bool false), .val 10 (some 246) (.bool false)] ⟨congrArg Value.bool (lens_a HNv131.out), congrArg Value.bool (by rw [← HEB2.out]; exact bne_self_eq_false' _), trivial⟩ ?_
          refine dF ?_
          try simp only [puts, Tk.put, Act.put, List.setIfInBounds_toArray, List.set_cons_zero, List.set_cons_succ]
          go_upto_region 54 with fail
          refine wp_region_fromM (fun W => Sep w [] [.own bdc 36 16 (.slice pv132 (forB (Rm.mk rho2 rho3 (es2.map toLt) bs2).bs xo.b.k anyB).length cv132) (forB (Rm.mk rho2 rho3 (es2.map toLt) bs2).bs xo.b.k anyB), .own akc 34 9 (.slice pv131 nv131 cv131) (((es2.map toLt).map askL)), .own enc 45 11 (.slice pu5 es2.length cu5) (es2), .join (es2.map enR), .join (RMR B11 (Rm.mk rho2 rho3 (es2.map toLt) bs2) va2 vb2), .blk N9 9 ([.string (rootB (seedB 2)), .string (rootB (seedB 3))]), .blk N18 38 (oqc xo)] W) hM ?_
          clear hM
          rintro Y139 hM
          refine tF 1 [.val 0 (some 20) (.int .i64 0)] trivial ?_
          refine dF ?_
          try simp only [puts, Tk.put, Act.put, List.setIfInBounds_toArray, List.set_cons_zero, List.set_cons_succ]
          have HEL2 : Hid (eb.bs.length ≤ 1000) := Lib.hid (by rw [HEB2.out]; exact Nat.le_trans (List.length_filter_le _ _) (Nat.le_trans HI2.out.len HJJ.out))
          go_wp2_with fail
          refine wp_loop_fit [.k (.slice pl l.length cl), .k (undef), .s 2, .k (.slice (some ⟨N9, 0, none⟩) 2 2), .k (pt B11 0), .k (.slice pu5 es2.length cu5), .k (.int .i64 (j : Int)), .k (pt N18 0), .k (.int .i64 (pb : Int)), .k (s2 9), .k (s2 10), .k (s2 11), .k (s2 12), .k (s2 13), .k (s2 14), .k (s2 15), .k (s2 16), .k (.slice pv131 nv131 cv131), .k (.slice pv132 (forB (Rm.mk rho2 rho3 (es2.map toLt) bs2).bs xo.b.k anyB).length cv132), .k (.int .i64 (eb.bs.length : Int)), .s 20, .s 21, .s 22, .s 23, .s 24, .s 25, .s 26, .s 27, .s 28, .s 29, .s 30, .s 31, .s 32, .s 33, .s 34, .s 35, .s 36, .s 37, .s 38, .s 39, .s 40, .s 41, .s 42, .s 43, .s 44, .s 45, .s 46, .s 47, .s 48, .s 49, .s 50, .s 51, .s 52, .k (.int .i64 ((atC xo.kd 3 : Nat) : Int)), .s 54, .s 55, .s 56, .s 57, .s 58, .s 59, .s 60, .s 61, .s 62, .s 63, .s 64, .s 65, .s 66, .s 67, .s 68, .s 69, .s 70, .s 71, .s 72, .s 73, .s 74, .s 75, .s 76, .s 77, .s 78, .s 79, .s 80, .s 81, .s 82, .s 83, .s 84, .k (s2 85), .s 86, .s 87, .s 88, .s 89, .s 90, .s 91, .s 92, .s 93, .s 94, .s 95, .s 96, .s 97, .s 98, .s 99, .s 100, .s 101, .s 102, .s 103, .s 104, .s 105, .s 106, .s 107, .s 108, .s 109, .s 110, .s 111, .k (s2 112), .s 113, .s 114, .s 115, .s 116, .s 117, .s 118, .s 119, .k (s2 120), .s 121, .s 122, .s 123, .s 124, .k (s2 125), .s 126, .s 127, .s 128, .s 129, .s 130, .k (s2 131), .s 132, .s 133, .s 134, .s 135, .s 136, .s 137, .s 138, .s 139, .s 140, .s 141, .s 142, .s 143, .s 144, .s 145, .s 146, .s 147, .s 148, .s 149, .s 150, .s 151, .s 152, .s 153, .s 154, .s 155, .s 156, .s 157, .s 158, .s 159, .s 160, .s 161, .s 162, .s 163, .s 164, .s 165, .s 166, .s 167, .s 168, .s 169, .s 170, .s 171, .s 172, .s 173, .s 174, .s 175, .s 176, .s 177, .s 178, .s 179, .s 180, .s 181, .s 182, .s 183, .s 184, .s 185, .s 186, .s 187, .s 188, .s 189, .s 190, .s 191, .s 192, .s 193, .s 194, .s 195, .s 196, .s 197, .s 198, .s 199, .s 200, .s 201, .s 202, .s 203, .s 204, .s 205, .s 206, .s 207, .s 208, .s 209, .s 210, .s 211, .s 212, .s 213, .s 214, .s 215, .s 216, .s 217, .s 218, .s 219, .s 220, .s 221, .s 222, .s 223, .s 224, .s 225, .s 226, .s 227, .s 228, .s 229, .s 230, .s 231, .s 232, .s 233, .s 234, .s 235, .s 236, .s 237, .s 238, .s 239, .s 240, .s 241, .s 242, .s 243, .s 244, .s 245, .s 246, .s 247, .s 248, .s 249, .s 250, .s 251, .s 252, .s 253, .s 254, .s 255, .s 256, .s 257, .s 258, .s 259, .s 260, .s 261, .s 262, .s 263, .s 264] (fun (s7 : Nat → Value) wr => ∃ kk : Nat, kk ≤ eb.bs.length ∧ (s7 20 : Value) = .int .i64 (kk : Int) ∧ Sep w [] [.own bdc 36 16 (.slice pv132 (forB (Rm.mk rho2 rho3 (es2.map toLt) bs2).bs xo.b.k anyB).length cv132) (forB (Rm.mk rho2 rho3 (es2.map toLt) bs2).bs xo.b.k anyB), .own akc 34 9 (.slice pv131 nv131 cv131) (((es2.map toLt).map askL)), .own enc 45 11 (.slice pu5 es2.length cu5) (es2), .join (es2.map enR), .join (RMR B11 (Rm.mk rho2 rho3 (es2.map toLt) bs2) va2 vb2), .blk N9 9 ([.string (rootB (seedB 2)), .string (rootB (seedB 3))]), .blk N18 38 (oqc xo)] wr) (fun (s7 : Nat → Value) _ => eb.bs.length - (intOf (s7 20 : Value)).toNat) rfl rfl (show (fun (u20 : Value) => ∃ kk : Nat, kk ≤ eb.bs.length ∧ u20 = .int .i64 (kk : Int) ∧ Sep w [] [.own bdc 36 16 (.slice pv132 (forB (Rm.mk rho2 rho3 (es2.map toLt) bs2).bs xo.b.k anyB).length cv132) (forB (Rm.mk rho2 rho3 (es2.map toLt) bs2).bs xo.b.k anyB), .own akc 34 9 (.slice pv131 nv131 cv131) (((es2.map toLt).map askL)), .own enc 45 11 (.slice pu5 es2.length cu5) (es2), .join (es2.map enR), .join (RMR B11 (Rm.mk rho2 rho3 (es2.map toLt) bs2) va2 vb2), .blk N9 9 ([.string (rootB (seedB 2)), .string (rootB (seedB 3))]), .blk N18 38 (oqc xo)] _) (.int .i64 0) from ⟨0, Nat.zero_le _, rfl, hM⟩) ?_
          clear hM
          intro s7 wr hrel Js7 Ks7 hJs7 hKs7
          dsimp only [fillS]
          try dsimp only at hrel
          try dsimp only at hJs7
          generalize s7 20 = u20 at hrel hJs7 ⊢
          obtain ⟨kk, hkk, rfl, hM⟩ := hrel
          have HKK := Lib.hid hkk
          clear hkk
          by_cases hlt : kk < eb.bs.length
          case pos =>
            obtain ⟨y, hy⟩ : ∃ y, eb.bs[kk]? = some y := ⟨_, List.getElem?_eq_getElem hlt⟩
            have HY := Lib.hid hy
            obtain ⟨br, or, hit, hct⟩ := ((hM.oka 3 rfl).en HEb.out).elem bdc_len hy Tryz.underlying43 (fun W => by kernel_rfl)
            have HIr := Lib.hid hit
            have HCr := Lib.hid hct
            clear hit hct
            obtain ⟨bs, os, hit, hct⟩ := (hM.oka 0 rfl).elem bdc_len (show (forB (Rm.mk rho2 rho3 (es2.map toLt) bs2).bs xo.b.k anyB)[kk]? = some y by rw [← HEB2.out]; exact HY.out) Tryz.underlying43 (fun W => by kernel_rfl)
            have HIs := Lib.hid hit
            have HCs := Lib.hid hct
            clear hit hct
            have HLT := Lib.hid hlt
            clear hy hlt
            go_upto_region 55 with fail
            refine wp_region_fromM (fun W => Sep w [] [.own bdc 36 16 (.slice pv132 (forB (Rm.mk rho2 rho3 (es2.map toLt) bs2).bs xo.b.k anyB).length cv132) (forB (Rm.mk rho2 rho3 (es2.map toLt) bs2).bs xo.b.k anyB), .own akc 34 9 (.slice pv131 nv131 cv131) (((es2.map toLt).map askL)), .own enc 45 11 (.slice pu5 es2.length cu5) (es2), .join (es2.map enR), .join (RMR B11 (Rm.mk rho2 rho3 (es2.map toLt) bs2) va2 vb2), .blk N9 9 ([.string (rootB (seedB 2)), .string (rootB (seedB 3))]), .blk N18 38 (oqc xo)] W) hM ?_
            clear hM
            rintro Y140 hM
            refine tF 3 [.val 0 (some 247) (.int .i64 (kk : Int)), .val 1 (some 248) (.int .i64 (eb.bs.length : Int)), .alt 2 (some 249) (.bool (decide ((kk : Int) < (eb.bs.length : Int)))) (.bool true)] ⟨congrArg Value.bool (decide_eq_true (by have h := HLT.out; omega)), trivial⟩ ?_
            refine dF ?_
            try simp only [puts, Tk.put, Act.put, List.setIfInBounds_toArray, List.set_cons_zero, List.set_cons_succ]
            go_upto_region 57 with fail
            refine wp_region_M (fun W => Sep w [] [.own bdc 36 16 (.slice pv132 (forB (Rm.mk rho2 rho3 (es2.map toLt) bs2).bs xo.b.k anyB).length cv132) (forB (Rm.mk rho2 rho3 (es2.map toLt) bs2).bs xo.b.k anyB), .own akc 34 9 (.slice pv131 nv131 cv131) (((es2.map toLt).map askL)), .own enc 45 11 (.slice pu5 es2.length cu5) (es2), .join (es2.map enR), .join (RMR B11 (Rm.mk rho2 rho3 (es2.map toLt) bs2) va2 vb2), .blk N9 9 ([.string (rootB (seedB 2)), .string (rootB (seedB 3))]), .blk N18 38 (oqc xo)] W) (fun W => Sep w [] [.own bdc 36 16 (.slice pv132 (forB (Rm.mk rho2 rho3 (es2.map toLt) bs2).bs xo.b.k anyB).length cv132) (forB (Rm.mk rho2 rho3 (es2.map toLt) bs2).bs xo.b.k anyB), .own akc 34 9 (.slice pv131 nv131 cv131) (((es2.map toLt).map askL)), .own enc 45 11 (.slice pu5 es2.length cu5) (es2), .join (es2.map enR), .join (RMR B11 (Rm.mk rho2 rho3 (es2.map toLt) bs2) va2 vb2), .blk N9 9 ([.string (rootB (seedB 2)), .string (rootB (seedB 3))]), .blk N18 38 (oqc xo)] W) hmx hM.drew ?_
            clear hM
            rintro Y141 hM
            have hS := hM.sub (.cons_cons _ (.cons_cons _ (.cons_cons _ (.cons_cons _ (.cons_cons _ (.cons_cons _ (.cons_cons _ .slnil)))))))
            refine tD 1 [.val 0 (some 252) (.slice pv132 (forB (Rm.mk rho2 rho3 (es2.map toLt) bs2).bs xo.b.k anyB).length cv132), .val 1 (some 253) (.int .i64 (kk : Int)), .idx 2 (some 254) 43 (.slice pv132 (forB (Rm.mk rho2 rho3 (es2.map toLt) bs2).bs xo.b.k anyB).length cv132) (.int .i64 (kk : Int)) (pt bs os), .load 3 (some 255) 36 (pt bs os) (bdv y), .val 4 (some 256) (.slice pu5 es2.length cu5), .val 5 (some 257) (.int .i64 (pb : Int)), .idx 6 (some 258) 29 (.slice pu5 es2.length cu5) (.int .i64 (pb : Int)) (pt bnb onb), .val 7 (some 259) (pt bnb (onb + 10)), .load 8 (some 260) 43 (pt bnb (onb + 10)) (eb.sl), .val 9 (some 261) (.int .i64 (kk : Int)), .idx 10 (some 262) 43 (eb.sl) (.int .i64 (kk : Int)) (pt br or), .load 11 (some 263) 36 (pt br or) (bdv y)] ⟨fun W h => HIs.out _, fun W h => ld_cells (bdc y) _ _ Tryz.underlying36 rfl (by kernel_rfl) (HCs.out _ (h.oka 0 rfl)), fun W h => HInb.out _, fun W h => ld_cell _ _ Tryz.underlying43 rfl (HCnb.out _ (h.oka 2 rfl) 10 _ rfl), fun W h => HIr.out _, fun W h => ld_cells (bdc y) _ _ Tryz.underlying36 rfl (by kernel_rfl) (HCr.out _ ((h.oka 3 rfl).en HEb.out)), trivial⟩ hS ?_
            refine oD 12 0 (unD (.tmp 255) (.tmp 263) 36 (some 264) (bdc y).toArray (bdc y).toArray true (Eq.trans (run_eqBd y y _) (congrArg (fun z => Result.ok z _) (decide_eq_true rfl))) hS ?_)
            refine dD ?_
            try simp only [puts, Tk.put, Act.put, List.setIfInBounds_toArray, List.set_cons_zero, List.set_cons_succ]
            clear hS
            go_upto_region 56 with fail
            refine wp_region_fromM (fun W => Sep w [] [.own bdc 36 16 (.slice pv132 (forB (Rm.mk rho2 rho3 (es2.map toLt) bs2).bs xo.b.k anyB).length cv132) (forB (Rm.mk rho2 rho3 (es2.map toLt) bs2).bs xo.b.k anyB), .own akc 34 9 (.slice pv131 nv131 cv131) (((es2.map toLt).map askL)), .own enc 45 11 (.slice pu5 es2.length cu5) (es2), .join (es2.map enR), .join (RMR B11 (Rm.mk rho2 rho3 (es2.map toLt) bs2) va2 vb2), .blk N9 9 ([.string (rootB (seedB 2)), .string (rootB (seedB 3))]), .blk N18 38 (oqc xo)] W) hM ?_
            clear hM
            rintro Y142 hM
            refine tF 3 [.val 0 (some 250) (.int .i64 (kk : Int)), .alt 1 (some 251) (.int .i64 (IntKind.i64.wrap ((kk : Int) + 1))) (.int .i64 ((kk + 1 : Nat) : Int)), .val 2 (some 20) (.int .i64 ((kk + 1 : Nat) : Int))] ⟨congrArg (Value.int .i64) ((IntWalk.i64_in _ (by have := HEL2.out; have := HLT.out; omega)).trans (by omega)), trivial⟩ ?_
            refine dF ?_
            try simp only [puts, Tk.put, Act.put, List.setIfInBounds_toArray, List.set_cons_zero, List.set_cons_succ]
            go_wp2_with fail
            refine Met.intro (hJs7 _ _ rfl (show (fun (u20 : Value) => ∃ kk : Nat, kk ≤ eb.bs.length ∧ u20 = .int .i64 (kk : Int) ∧ Sep w [] [.own bdc 36 16 (.slice pv132 (forB (Rm.mk rho2 rho3 (es2.map toLt) bs2).bs xo.b.k anyB).length cv132) (forB (Rm.mk rho2 rho3 (es2.map toLt) bs2).bs xo.b.k anyB), .own akc 34 9 (.slice pv131 nv131 cv131) (((es2.map toLt).map askL)), .own enc 45 11 (.slice pu5 es2.length cu5) (es2), .join (es2.map enR), .join (RMR B11 (Rm.mk rho2 rho3 (es2.map toLt) bs2) va2 vb2), .blk N9 9 ([.string (rootB (seedB 2)), .string (rootB (seedB 3))]), .blk N18 38 (oqc xo)] _) (.int .i64 ((kk + 1 : Nat) : Int)) from ⟨kk + 1, HLT.out, rfl, hM⟩) ?_)
            show eb.bs.length - (intOf (.int .i64 ((kk + 1 : Nat) : Int) : Value)).toNat < eb.bs.length - (intOf (.int .i64 (kk : Int) : Value)).toNat
            have := HLT.out; simp [intOf]; omega
          case neg =>
            have HGEK := Lib.hid hlt
            clear hlt
            go_upto_region 55 with fail
            refine wp_region_fromM (fun W => Sep w [] [.own bdc 36 16 (.slice pv132 (forB (Rm.mk rho2 rho3 (es2.map toLt) bs2).bs xo.b.k anyB).length cv132) (forB (Rm.mk rho2 rho3 (es2.map toLt) bs2).bs xo.b.k anyB), .own akc 34 9 (.slice pv131 nv131 cv131) (((es2.map toLt).map askL)), .own enc 45 11 (.slice pu5 es2.length cu5) (es2), .join (es2.map enR), .join (RMR B11 (Rm.mk rho2 rho3 (es2.map toLt) bs2) va2 vb2), .blk N9 9 ([.string (rootB (seedB 2)), .string (rootB (seedB 3))]), .blk N18 38 (oqc xo)] W) hM ?_
            clear hM
            rintro Y143 hM
            refine tF 3 [.val 0 (some 247) (.int .i64 (kk : Int)), .val 1 (some 248) (.int .i64 (eb.bs.length : Int)), .alt 2 (some 249) (.bool (decide ((kk : Int) < (eb.bs.length : Int)))) (.bool false)] ⟨congrArg Value.bool (decide_eq_false (by have h := HGEK.out; omega)), trivial⟩ ?_
            refine dF ?_
            try simp only [puts, Tk.put, Act.put, List.setIfInBounds_toArray, List.set_cons_zero, List.set_cons_succ]
            go_upto_region 8 with fail
            refine wp_region_fromM (fun W => Sep w [] [.own bdc 36 16 (.slice pv132 (forB (Rm.mk rho2 rho3 (es2.map toLt) bs2).bs xo.b.k anyB).length cv132) (forB (Rm.mk rho2 rho3 (es2.map toLt) bs2).bs xo.b.k anyB), .own akc 34 9 (.slice pv131 nv131 cv131) (((es2.map toLt).map askL)), .own enc 45 11 (.slice pu5 es2.length cu5) (es2), .join (es2.map enR), .join (RMR B11 (Rm.mk rho2 rho3 (es2.map toLt) bs2) va2 vb2), .blk N9 9 ([.string (rootB (seedB 2)), .string (rootB (seedB 3))]), .blk N18 38 (oqc xo)] W) hM ?_
            clear hM
            rintro Y144 hM
            refine tF 3 [.val 0 (some 38) (.int .i64 (j : Int)), .alt 1 (some 39) (.int .i64 (IntKind.i64.wrap ((j : Int) + 1))) (.int .i64 ((j + 1 : Nat) : Int)), .val 2 (some 6) (.int .i64 ((j + 1 : Nat) : Int))] ⟨congrArg (Value.int .i64) ((IntWalk.i64_in _ (by have := HLENl.out; have := HJ.out; omega)).trans (by omega)), trivial⟩ ?_
            refine dF ?_
            try simp only [puts, Tk.put, Act.put, List.setIfInBounds_toArray, List.set_cons_zero, List.set_cons_succ]
            replace hM : Sep w [] [.own bdc 36 16 (.slice pv132 (forB (Rm.mk rho2 rho3 (es2.map toLt) bs2).bs xo.b.k anyB).length cv132) (forB (Rm.mk rho2 rho3 (es2.map toLt) bs2).bs xo.b.k anyB), .own akc 34 9 (.slice pv131 nv131 cv131) (((es2.map toLt).map askL)), .own enc 45 11 (.slice pu5 es2.length cu5) (es2), .join (es2.map enR), .join (RMR B11 (Rm.mk rho2 rho3 (es2.map toLt) bs2) va2 vb2), .blk N9 9 ([.string (rootB (seedB 2)), .string (rootB (seedB 3))]), .blk N18 38 (oqc xo)] Y144 := hM
            go_wp2_with fail
            refine Met.intro (hJs1 _ _ rfl (show (fun (u5 u6 : Value) => ∃ (j : Nat) (es : List En) (bs : List Bd) (va vb : Value), j ≤ l.length ∧ Inv19 j es bs ∧ u6 = .int .i64 (j : Int) ∧ Sep w [] [.own enc 45 11 (u5) (es), .join (es.map enR), .join (RMR B11 (Rm.mk rho2 rho3 (es.map toLt) bs) va vb), .blk N9 9 ([.string (rootB (seedB 2)), .string (rootB (seedB 3))])] _) (.slice pu5 es2.length cu5) (.int .i64 ((j + 1 : Nat) : Int)) from ⟨j + 1, es2, bs2, _, _, HJ.out, HI2.out, rfl, hM.pick [2, 3, 4, 5] (by decide) rfl⟩) ?_)
            show l.length - (intOf (.int .i64 ((j + 1 : Nat) : Int) : Value)).toNat < l.length - (intOf (.int .i64 (j : Int) : Value)).toNat
            have := HJ.out; simp [intOf]; omega
        case neg =>
          have HGE := Lib.hid hge
          have HNO := Lib.hid (en_no (by rw [HQb.out]; exact hge))
          clear hge
          have HEB2 : Hid (forB (Rm.mk rho2 rho3 (es2.map toLt) bs2).bs xo.b.k anyB = []) := Lib.hid (for_none HI2.out.has HNO.out _)
          go_upto_region 49 with fail
          refine wp_region_fromM (fun W => Sep w [] [.own bdc 36 16 (.slice pv132 (forB (Rm.mk rho2 rho3 (es2.map toLt) bs2).bs xo.b.k anyB).length cv132) (forB (Rm.mk rho2 rho3 (es2.map toLt) bs2).bs xo.b.k anyB), .own akc 34 9 (.slice pv131 nv131 cv131) (((es2.map toLt).map askL)), .own enc 45 11 (.slice pu5 es2.length cu5) (es2), .join (es2.map enR), .join (RMR B11 (Rm.mk rho2 rho3 (es2.map toLt) bs2) va2 vb2), .blk N9 9 ([.string (rootB (seedB 2)), .string (rootB (seedB 3))]), .blk N18 38 (oqc xo)] W) hM ?_
          clear hM
          rintro Y145 hM
          refine tF 1 [.val 0 (some 19) (.int .i64 0)] trivial ?_
          refine dF ?_
          try simp only [puts, Tk.put, Act.put, List.setIfInBounds_toArray, List.set_cons_zero, List.set_cons_succ]
          go_upto_region 50 with fail
          refine wp_region_fromM (fun W => Sep w [] [.own bdc 36 16 (.slice pv132 (forB (Rm.mk rho2 rho3 (es2.map toLt) bs2).bs xo.b.k anyB).length cv132) (forB (Rm.mk rho2 rho3 (es2.map toLt) bs2).bs xo.b.k anyB), .own akc 34 9 (.slice pv131 nv131 cv131) (((es2.map toLt).map askL)), .own enc 45 11 (.slice pu5 es2.length cu5) (es2), .join (es2.map enR), .join (RMR B11 (Rm.mk rho2 rho3 (es2.map toLt) bs2) va2 vb2), .blk N9 9 ([.string (rootB (seedB 2)), .string (rootB (seedB 3))]), .blk N18 38 (oqc xo)] W) hM ?_
          clear hM
          rintro Y146 hM
          refine tF 2 [.val 0 (some 228) (.int .i64 qb), .alt 1 (some 229) (.bool (decide (0 ≤ qb))) (.bool false)] ⟨congrArg Value.bool (decide_eq_false HGE.out), trivial⟩ ?_
          refine dF ?_
          try simp only [puts, Tk.put, Act.put, List.setIfInBounds_toArray, List.set_cons_zero, List.set_cons_succ]
          go_upto_region 52 with fail
          refine wp_region_fromM (fun W => Sep w [] [.own bdc 36 16 (.slice pv132 (forB (Rm.mk rho2 rho3 (es2.map toLt) bs2).bs xo.b.k anyB).length cv132) (forB (Rm.mk rho2 rho3 (es2.map toLt) bs2).bs xo.b.k anyB), .own akc 34 9 (.slice pv131 nv131 cv131) (((es2.map toLt).map askL)), .own enc 45 11 (.slice pu5 es2.length cu5) (es2), .join (es2.map enR), .join (RMR B11 (Rm.mk rho2 rho3 (es2.map toLt) bs2) va2 vb2), .blk N9 9 ([.string (rootB (seedB 2)), .string (rootB (seedB 3))]), .blk N18 38 (oqc xo)] W) hM ?_
          clear hM
          rintro Y147 hM
          refine tF 11 [.val 0 (some 236) (.slice pv131 nv131 cv131), .val 1 (some 237) (.int .i64 (nv131 : Int)), .val 2 (some 238) (.slice pu5 es2.length cu5), .val 3 (some 239) (.int .i64 (es2.length : Int)), .alt 4 (some 240) (.bool ((nv131 : Int) != (es2.length : Int))) (.bool false), .val 5 (some 241) (.bool false), .val 6 (some 242) (.slice pv132 (forB (Rm.mk rho2 rho3 (es2.map toLt) bs2).bs xo.b.k anyB).length cv132), .val 7 (some 243) (.int .i64 ((forB (Rm.mk rho2 rho3 (es2.map toLt) bs2).bs xo.b.k anyB).length : Int)), .val 8 (some 244) (.int .i64 0), .alt 9 (some 245) (.bool (((forB (Rm.mk rho2 rho3 (es2.map toLt) bs2).bs xo.b.k anyB).length : Int) != 0)) (.bool false), .val 10 (some 246) (.bool false)] ⟨congrArg Value.bool (lens_a HNv131.out), congrArg Value.bool (by rw [HEB2.out]; rfl), trivial⟩ ?_
          refine dF ?_
          try simp only [puts, Tk.put, Act.put, List.setIfInBounds_toArray, List.set_cons_zero, List.set_cons_succ]
          go_upto_region 54 with fail
          refine wp_region_fromM (fun W => Sep w [] [.own bdc 36 16 (.slice pv132 (forB (Rm.mk rho2 rho3 (es2.map toLt) bs2).bs xo.b.k anyB).length cv132) (forB (Rm.mk rho2 rho3 (es2.map toLt) bs2).bs xo.b.k anyB), .own akc 34 9 (.slice pv131 nv131 cv131) (((es2.map toLt).map askL)), .own enc 45 11 (.slice pu5 es2.length cu5) (es2), .join (es2.map enR), .join (RMR B11 (Rm.mk rho2 rho3 (es2.map toLt) bs2) va2 vb2), .blk N9 9 ([.string (rootB (seedB 2)), .string (rootB (seedB 3))]), .blk N18 38 (oqc xo)] W) hM ?_
          clear hM
          rintro Y148 hM
          refine tF 1 [.val 0 (some 20) (.int .i64 0)] trivial ?_
          refine dF ?_
          try simp only [puts, Tk.put, Act.put, List.setIfInBounds_toArray, List.set_cons_zero, List.set_cons_succ]
          go_wp2_with fail
          refine wp_loop_fit [.k (.slice pl l.length cl), .k (undef), .s 2, .k (.slice (some ⟨N9, 0, none⟩) 2 2), .k (pt B11 0), .k (.slice pu5 es2.length cu5), .k (.int .i64 (j : Int)), .k (pt N18 0), .k (.int .i64 qb), .k (s2 9), .k (s2 10), .k (s2 11), .k (s2 12), .k (s2 13), .k (s2 14), .k (s2 15), .k (s2 16), .k (.slice pv131 nv131 cv131), .k (.slice pv132 (forB (Rm.mk rho2 rho3 (es2.map toLt) bs2).bs xo.b.k anyB).length cv132), .k (.int .i64 0), .s 20, .s 21, .s 22, .s 23, .s 24, .s 25, .s 26, .s 27, .s 28, .s 29, .s 30, .s 31, .s 32, .s 33, .s 34, .s 35, .s 36, .s 37, .s 38, .s 39, .s 40, .s 41, .s 42, .s 43, .s 44, .s 45, .s 46, .s 47, .s 48, .s 49, .s 50, .s 51, .s 52, .k (.int .i64 ((atC xo.kd 3 : Nat) : Int)), .s 54, .s 55, .s 56, .s 57, .s 58, .s 59, .s 60, .s 61, .s 62, .s 63, .s 64, .s 65, .s 66, .s 67, .s 68, .s 69, .s 70, .s 71, .s 72, .s 73, .s 74, .s 75, .s 76, .s 77, .s 78, .s 79, .s 80, .s 81, .s 82, .s 83, .s 84, .k (s2 85), .s 86, .s 87, .s 88, .s 89, .s 90, .s 91, .s 92, .s 93, .s 94, .s 95, .s 96, .s 97, .s 98, .s 99, .s 100, .s 101, .s 102, .s 103, .s 104, .s 105, .s 106, .s 107, .s 108, .s 109, .s 110, .s 111, .k (s2 112), .s 113, .s 114, .s 115, .s 116, .s 117, .s 118, .s 119, .k (s2 120), .s 121, .s 122, .s 123, .s 124, .k (s2 125), .s 126, .s 127, .s 128, .s 129, .s 130, .k (s2 131), .s 132, .s 133, .s 134, .s 135, .s 136, .s 137, .s 138, .s 139, .s 140, .s 141, .s 142, .s 143, .s 144, .s 145, .s 146, .s 147, .s 148, .s 149, .s 150, .s 151, .s 152, .s 153, .s 154, .s 155, .s 156, .s 157, .s 158, .s 159, .s 160, .s 161, .s 162, .s 163, .s 164, .s 165, .s 166, .s 167, .s 168, .s 169, .s 170, .s 171, .s 172, .s 173, .s 174, .s 175, .s 176, .s 177, .s 178, .s 179, .s 180, .s 181, .s 182, .s 183, .s 184, .s 185, .s 186, .s 187, .s 188, .s 189, .s 190, .s 191, .s 192, .s 193, .s 194, .s 195, .s 196, .s 197, .s 198, .s 199, .s 200, .s 201, .s 202, .s 203, .s 204, .s 205, .s 206, .s 207, .s 208, .s 209, .s 210, .s 211, .s 212, .s 213, .s 214, .s 215, .s 216, .s 217, .s 218, .s 219, .s 220, .s 221, .s 222, .s 223, .s 224, .s 225, .s 226, .s 227, .s 228, .s 229, .s 230, .s 231, .s 232, .s 233, .s 234, .s 235, .s 236, .s 237, .s 238, .s 239, .s 240, .s 241, .s 242, .s 243, .s 244, .s 245, .s 246, .s 247, .s 248, .s 249, .s 250, .s 251, .s 252, .s 253, .s 254, .s 255, .s 256, .s 257, .s 258, .s 259, .s 260, .s 261, .s 262, .s 263, .s 264] (fun (s8 : Nat → Value) wr => (s8 20 : Value) = .int .i64 0 ∧ Sep w [] [.own bdc 36 16 (.slice pv132 (forB (Rm.mk rho2 rho3 (es2.map toLt) bs2).bs xo.b.k anyB).length cv132) (forB (Rm.mk rho2 rho3 (es2.map toLt) bs2).bs xo.b.k anyB), .own akc 34 9 (.slice pv131 nv131 cv131) (((es2.map toLt).map askL)), .own enc 45 11 (.slice pu5 es2.length cu5) (es2), .join (es2.map enR), .join (RMR B11 (Rm.mk rho2 rho3 (es2.map toLt) bs2) va2 vb2), .blk N9 9 ([.string (rootB (seedB 2)), .string (rootB (seedB 3))]), .blk N18 38 (oqc xo)] wr) (fun (s8 : Nat → Value) _ => 0) rfl rfl (show (fun (u20 : Value) => u20 = .int .i64 0 ∧ Sep w [] [.own bdc 36 16 (.slice pv132 (forB (Rm.mk rho2 rho3 (es2.map toLt) bs2).bs xo.b.k anyB).length cv132) (forB (Rm.mk rho2 rho3 (es2.map toLt) bs2).bs xo.b.k anyB), .own akc 34 9 (.slice pv131 nv131 cv131) (((es2.map toLt).map askL)), .own enc 45 11 (.slice pu5 es2.length cu5) (es2), .join (es2.map enR), .join (RMR B11 (Rm.mk rho2 rho3 (es2.map toLt) bs2) va2 vb2), .blk N9 9 ([.string (rootB (seedB 2)), .string (rootB (seedB 3))]), .blk N18 38 (oqc xo)] _) (.int .i64 0) from ⟨rfl, hM⟩) ?_
          clear hM
          intro s8 wr hrel Js8 Ks8 hJs8 hKs8
          dsimp only [fillS]
          try dsimp only at hrel
          try dsimp only at hJs8
          generalize s8 20 = u20 at hrel hJs8 ⊢
          obtain ⟨rfl, hM⟩ := hrel
          go_upto_region 55 with fail
          refine wp_region_fromM (fun W => Sep w [] [.own bdc 36 16 (.slice pv132 (forB (Rm.mk rho2 rho3 (es2.map toLt) bs2).bs xo.b.k anyB).length cv132) (forB (Rm.mk rho2 rho3 (es2.map toLt) bs2).bs xo.b.k anyB), .own akc 34 9 (.slice pv131 nv131 cv131) (((es2.map toLt).map askL)), .own enc 45 11 (.slice pu5 es2.length cu5) (es2), .join (es2.map enR), .join (RMR B11 (Rm.mk rho2 rho3 (es2.map toLt) bs2) va2 vb2), .blk N9 9 ([.string (rootB (seedB 2)), .string (rootB (seedB 3))]), .blk N18 38 (oqc xo)] W) hM ?_
          clear hM
          rintro Y149 hM
          refine tF 3 [.val 0 (some 247) (.int .i64 0), .val 1 (some 248) (.int .i64 0), .val 2 (some 249) (.bool false)] trivial ?_
          refine dF ?_
          try simp only [puts, Tk.put, Act.put, List.setIfInBounds_toArray, List.set_cons_zero, List.set_cons_succ]
          go_upto_region 8 with fail
          refine wp_region_fromM (fun W => Sep w [] [.own bdc 36 16 (.slice pv132 (forB (Rm.mk rho2 rho3 (es2.map toLt) bs2).bs xo.b.k anyB).length cv132) (forB (Rm.mk rho2 rho3 (es2.map toLt) bs2).bs xo.b.k anyB), .own akc 34 9 (.slice pv131 nv131 cv131) (((es2.map toLt).map askL)), .own enc 45 11 (.slice pu5 es2.length cu5) (es2), .join (es2.map enR), .join (RMR B11 (Rm.mk rho2 rho3 (es2.map toLt) bs2) va2 vb2), .blk N9 9 ([.string (rootB (seedB 2)), .string (rootB (seedB 3))]), .blk N18 38 (oqc xo)] W) hM ?_
          clear hM
          rintro Y150 hM
          refine tF 3 [.val 0 (some 38) (.int .i64 (j : Int)), .alt 1 (some 39) (.int .i64 (IntKind.i64.wrap ((j : Int) + 1))) (.int .i64 ((j + 1 : Nat) : Int)), .val 2 (some 6) (.int .i64 ((j + 1 : Nat) : Int))] ⟨congrArg (Value.int .i64) ((IntWalk.i64_in _ (by have := HLENl.out; have := HJ.out; omega)).trans (by omega)), trivial⟩ ?_
          refine dF ?_
          try simp only [puts, Tk.put, Act.put, List.setIfInBounds_toArray, List.set_cons_zero, List.set_cons_succ]
          replace hM : Sep w [] [.own bdc 36 16 (.slice pv132 (forB (Rm.mk rho2 rho3 (es2.map toLt) bs2).bs xo.b.k anyB).length cv132) (forB (Rm.mk rho2 rho3 (es2.map toLt) bs2).bs xo.b.k anyB), .own akc 34 9 (.slice pv131 nv131 cv131) (((es2.map toLt).map askL)), .own enc 45 11 (.slice pu5 es2.length cu5) (es2), .join (es2.map enR), .join (RMR B11 (Rm.mk rho2 rho3 (es2.map toLt) bs2) va2 vb2), .blk N9 9 ([.string (rootB (seedB 2)), .string (rootB (seedB 3))]), .blk N18 38 (oqc xo)] Y150 := hM
          go_wp2_with fail
          refine Met.intro (hJs1 _ _ rfl (show (fun (u5 u6 : Value) => ∃ (j : Nat) (es : List En) (bs : List Bd) (va vb : Value), j ≤ l.length ∧ Inv19 j es bs ∧ u6 = .int .i64 (j : Int) ∧ Sep w [] [.own enc 45 11 (u5) (es), .join (es.map enR), .join (RMR B11 (Rm.mk rho2 rho3 (es.map toLt) bs) va vb), .blk N9 9 ([.string (rootB (seedB 2)), .string (rootB (seedB 3))])] _) (.slice pu5 es2.length cu5) (.int .i64 ((j + 1 : Nat) : Int)) from ⟨j + 1, es2, bs2, _, _, HJ.out, HI2.out, rfl, hM.pick [2, 3, 4, 5] (by decide) rfl⟩) ?_)
          show l.length - (intOf (.int .i64 ((j + 1 : Nat) : Int) : Value)).toNat < l.length - (intOf (.int .i64 (j : Int) : Value)).toNat
          have := HJ.out; simp [intOf]; omega
end Go.Proofs.YtbhfajnejibaoaaGreat
namespace Go.Proofs.YtbhfajnejibaoaaGreat
open Go.ChangeShapes Go.WideShapes Go.ChangeAt Go.RowKit Go.Deep
open Go.ChangeMaps (open_string)
set_option maxRecDepth 100000 in
theorem auctionRuns_lifted (os : Os) (started : os.Started) (H : Type) (enc : TypeId × Value → H) :
    ReturnsInHanded {} Tryz.checked os 3 .any (Rows.auctionRunsSpec.pre6 enc Tryz.prog Tryz.f3 Rows.auctionRunsRow.domain false) (Rows.auctionRunsSpec.post enc Tryz.prog Tryz.f3 false true false false) := by
  refine returnsInHanded_of_change_sized (C := Tryz.checked) Tryz.own started (by kernel_rfl) Tryz.func3
    (ChangeSpec.witness6 (enc := enc) (C := Tryz.checked) false ⟨#[], #[.slice none 0 0], []⟩ 8 (by kernel_rfl) (by kernel_rfl) (by kernel_rfl) (by kernel_rfl)) ?_
  intro W base args ds gs before hval0 hW hcnd hsz0 _
  have hval : ∀ (j : Nat) t v, Tryz.f3.params[j]? = some t → args[j]? = some v → Value.okWide Tryz.prog W .any base t v := hval0
  have hW' := hW
  obtain ⟨p, q, hA0, hV, rfl, hfz, hnd⟩ := hW
  have hA : DataW.TrodAll enc Tryz.prog W 0 (fun _ => true) true Tryz.f3.params.toList args.toList ds p := hA0
  have hsz : (DataW.weightsEach Tryz.prog (Tryz.f3.params.toList ++ Rows.auctionRunsSpec.plain.varTypes Tryz.prog) (ds ++ gs)).all (· ≤ reachBytes) = true := hsz0
  rw [Tryz.params3] at hA hval hsz
  obtain ⟨v0, d0, rfl, rfl, h0⟩ := trodAll_one hA
  obtain ⟨rfl, rfl⟩ := trodVars_none hV
  obtain ⟨a0, len0, cap0, rfl⟩ := okWide_slice Tryz.underlying22 (hval 0 22 v0 rfl rfl)
  have k0 := h0
  have lt0 : ∀ x ∈ p, x.block < W.heap.size := by obtain ⟨m, hm⟩ := k0; exact DataW.trod_lt m _ _ _ hm
  obtain ⟨l0, hsl0, hok0⟩ := open_oqs h0 (fun n hn => sized_in hsz (j := 0) (t := 22) rfl rfl n hn)
  clear hA0 hval0
  refine (auctionRuns_any l0 _ W hsl0 (Nat.le_refl _) hok0).mono fun e W' ⟨he, bel⟩ => ?_
  subst he
  exact ⟨_, rfl, _, _, _, [], _, [], hW', trodAll_mk1 (shut_bool Tryz.underlying4 _), (trodAll_mk1 (Below.trod Tryz.laidOut (by kernel_rfl) (of_decide_eq_true (by kernel_rfl)) k0 bel lt0)), rfl, bel.frame _, fun h => by cases h⟩
theorem auctionRuns_over : Rows.auctionRunsRow.holds Tryz.pinned (OpenSpec.ofChange Rows.auctionRunsSpec) :=
  OpenClaim.holds_of_wide 3 Tryz.f3 rfl rfl rfl rfl rfl rfl rfl ⟨rfl, rfl, rfl, rfl, rfl⟩ rfl rfl rfl rfl rfl (by kernel_rfl) Tryz.func3 (by kernel_rfl)
    (of_decide_eq_true (by kernel_rfl)) (by unfold Func.isWrapper; first | (rw [if_pos (by decide +kernel)]; kernel_rfl) | (rw [if_neg (by decide +kernel)]; exact ⟨rfl, rfl⟩))
    (fun os started H enc _ => auctionRuns_lifted os started H enc)
theorem auctionRuns_proved : Rows.AuctionRunsSaid := auctionRuns_over
end Go.Proofs.YtbhfajnejibaoaaGreat
