/-
  EscrowPlain answers true at every input, and leaves its arguments as they are.
-/
import Derived.Deep.Slices
import Derived.SizedLaws
import Derived.Carry
import Derived.ChangeMaps5
import Derived.Test.YthhmdgmmeedhdaaGreatK14
namespace Go.Proofs.YthhmdgmmeedhdaaGreat
open Go.RowKit Go.Shelf
attribute [local irreducible] wpFrom wpAnyH StepH
def mxI (a : Int) : Int := if (0 : Int) > a then 0 else a
def mnI (m a : Int) : Int := if m < a then m else a
theorem near_is (a m : Int) (h : 0 ≤ m) : mnI m (mxI a) = nearI a m := by
  unfold nearI mnI mxI
  split <;> split <;> omega
theorem wrap_ne (a : Int) : a ≠ IntKind.i64.wrap (a + 1) := by
  intro h
  unfold IntKind.wrap at h
  simp only [IntKind.bits, IntKind.signed, Bool.true_and] at h
  split at h <;> omega
theorem OwnL.upto {b0 q : Nat} {W : World} {v : Value} {l : List Lk} (h : OwnL b0 W v l) (hk : ∀ k, v.ownBlock = some k → k < q) : RSl lkc b0 q W v l := by
  obtain ⟨a, cap, rfl, hc, hx, h0 | ⟨b, off, rfl, hl, hh, ho⟩⟩ := OwnL.rsl h
  · exact ⟨a, cap, rfl, hc, hx, .inl h0⟩
  · exact ⟨_, cap, rfl, hc, hx, .inr ⟨b, off, rfl, hl, hk b rfl, ho⟩⟩
theorem want_is {tt ww z : Int} (h : ww = tt + nearI z (1099511627776 - tt)) (hz : 0 < z) (ht : tt < 1099511627776) : tt + mnI (1099511627776 - tt) z = ww := by
  rw [h]
  unfold nearI mnI
  split <;> omega
theorem want_no {tt ww z : Int} (h : ww = tt + nearI z (1099511627776 - tt)) (hz : ¬ 0 < z) : ww = tt := by
  rw [h]
  unfold nearI
  omega
theorem want_in {tt ww z : Int} (h : ww = tt + nearI z (1099511627776 - tt)) (hz : 0 < z) (ht : 0 ≤ tt ∧ tt < 1099511627776) : IntKind.i64.wrap (tt + mnI (1099511627776 - tt) z) = ww := by
  rw [want_is h hz ht.2]
  exact IntWalk.i64_in _ (by rw [h]; unfold nearI; omega)
theorem end_ne (l : List Lk) {i j : Nat} (st : Int) (h : i ≠ j) : (endE l i st)[j]? = l[j]? := by
  unfold endE
  rw [List.getElem?_modify]
  simp [h]
theorem end_get {l : List Lk} {i : Nat} {x : Lk} (h : l[i]? = some x) (st : Int) : (endE l i st)[i]? = some { x with st := st } := by
  unfold endE
  rw [List.getElem?_modify]
  simp [h]
theorem ownL_at_lt {b0 q g o : Nat} {W W' : World} {v : Value} {l : List Lk} {i : Nat} {x : Lk} {b : Nat} (h : OwnL b0 W v l) (hx : l[i]? = some x) (hk : ∀ k, v.ownBlock = some k → b ≤ k ∧ k < q) (hi : (Instr.indexAt 32 v (.int .i64 (i : Int))).run Tryz.prog W' = .ok (.pointer (some ⟨g, o, none⟩)) W') : g < q := by
  obtain ⟨b', o', _, hb, hi', _⟩ := (OwnL.upto (q := q) h (fun k hk' => (hk k hk').2)).elem lkc_len hx Tryz.underlying32 (fun W => by kernel_rfl)
  have h2 := (hi' W').symm.trans hi
  obtain ⟨rfl, rfl⟩ : b' = g ∧ o' = o := by simpa using h2
  exact hb
set_option maxRecDepth 100000 in
set_option maxHeartbeats 4000000 in
theorem escrowPlain_any (a b : Int) (s : Es) (v : Value) (z : Int) (w : World) {lo hi : Nat} (hl : RSl lkc lo hi w v s.lk) (hhi : hi ≤ w.heap.size) (hr : s.lk.length * 40 ≤ 140737488355328) :
    Calls Tryz.prog 7 #[.int .i64 a, .int .i64 b, stv s v, .int .i64 z] w fun e W' => e = .returned (.bool true) ∧ Below w.heap.size w W' := by
  have hmx : Tryz.prog.follows .mixedOrders = true := by kernel_rfl
  have hm1000 : (1000 : Nat) < M := by unfold M; decide
  obtain ⟨m, hm, hm1, hm2⟩ : ∃ m, Int.tmod s.tm 1099511627776 = m ∧ -1099511627776 < m ∧ m < 1099511627776 := ⟨_, rfl, by have := Int.lt_tmod_of_pos s.tm (show (0 : Int) < 1099511627776 by omega); omega, Int.tmod_lt_of_pos _ (by omega)⟩
  obtain ⟨tt, ht, ht1, ht2⟩ : ∃ tt, Int.tmod (m + 1099511627776) 1099511627776 = tt ∧ 0 ≤ tt ∧ tt < 1099511627776 := ⟨_, rfl, Int.tmod_nonneg _ (by omega), Int.tmod_lt_of_pos _ (by omega)⟩
  obtain ⟨ww, hw⟩ : ∃ ww, ww = tt + nearI z (1099511627776 - tt) := ⟨_, rfl⟩
  have HE1 := Lib.hid (fun k x (hx : s.lk[k]? = some x) => hl.elem lkc_len hx Tryz.underlying32 (fun W => by kernel_rfl))
  obtain ⟨p1, c1, rfl⟩ := hl.slice
  have hv := hl.one
  have HL := Lib.hid hl
  have HH := Lib.hid hhi
  have HR := Lib.hid hr
  have HM1 := Lib.hid hm
  have HT1 := Lib.hid ht
  have HW := Lib.hid hw
  have HB := Lib.hid (And.intro (And.intro hm1 hm2) (And.intro ht1 ht2))
  clear hl hhi hr hm ht hw hm1 hm2 ht1 ht2
  have hM := Mem.start w
  go_enter Tryz.func7, Tryz.ntmps7
  go_upto_region 0 with fail
  refine wp_region_fromM (fun W => Mem w none [] W) hM ?_
  clear hM
  rintro Y1 hM
  refine rF (some 6) (pt Y1.heap.size 0) (Y1.alloc (.cells (stc s (.slice p1 s.lk.length c1)).toArray 34)) ?_
  replace hM := hM.alloc 34 (stc s (.slice p1 s.lk.length c1))
  generalize World.alloc _ _ = Y2 at *
  generalize hNe : Y1.heap.size = P at *
  clear hNe
  refine tF 2 [.val 1 (some 8) (.bool false)] trivial ?_
  refine dF ?_
  try simp only [puts, Tk.put, Act.put, List.setIfInBounds_toArray, List.set_cons_zero, List.set_cons_succ]
  go_upto_region 1 with fail
  refine wp_region_fromM (fun W => Mem w none [(P, 34, stc s (.slice p1 s.lk.length c1))] W) hM ?_
  clear hM
  rintro Y3 hM
  refine cF (some 13) 8 #[] ((alive12_any _).mono ?_)
  rintro e W1 ⟨rfl, hb⟩
  replace hM := hM.below hb
  clear hb
  refine tF 2 [.val 1 (some 14) (.bool false)] trivial ?_
  refine dF ?_
  try simp only [puts, Tk.put, Act.put, List.setIfInBounds_toArray, List.set_cons_zero, List.set_cons_succ]
  go_upto_region 3 with fail
  refine wp_region_fromM (fun W => Mem w none [(P, 34, stc s (.slice p1 s.lk.length c1))] W) hM ?_
  clear hM
  rintro Y4 hM
  refine tF 2 [.val 0 (some 15) (.int .i64 a), .val 1 (some 16) (.int .i64 b)] trivial ?_
  refine cF (some 17) 9 #[.int .i64 a, .int .i64 b] ((genesis_any a b _).mono ?_)
  rintro e W1 ⟨rfl, hb⟩
  replace hM := hM.below hb
  clear hb
  refine rF (some 9) (pt W1.heap.size 0) (W1.alloc (.cells (stc zS nilV).toArray 34)) ?_
  replace hM := hM.alloc 34 (stc zS nilV)
  generalize World.alloc _ _ = Y5 at *
  generalize hNe : W1.heap.size = G at *
  clear hNe
  refine sF 34 (pt G 0) (stv (genP a b) nilV) (sto_st (hM.at 0 rfl) (stc_len _ _) (genP a b) rfl) ?_
  replace hM := hM.set 0 (cs' := stc (genP a b) nilV) rfl rfl
  generalize World.setRow _ _ _ = Y6 at *
  refine dF ?_
  try simp only [puts, Tk.put, Act.put, List.setIfInBounds_toArray, List.set_cons_zero, List.set_cons_succ]
  go_upto_region 4 with fail
  refine wp_region_M (fun W => Mem w none [(G, 34, stc (genP a b) nilV), (P, 34, stc s (.slice p1 s.lk.length c1))] W) (fun W => Mem w none [(G, 34, stc (genP a b) nilV), (P, 34, stc s (.slice p1 s.lk.length c1))] W) hmx hM.drew ?_
  clear hM
  rintro Y7 hM
  have hS := hM.sub (.cons_cons _ (.cons_cons _ .slnil))
  refine tD 29 [.val 0 (some 18) (pt G 0), .load 1 (some 19) 3 (pt G 0) (.int .i64 (genP a b).sd), .val 2 (some 20) (.int .i64 a)] ⟨fun W h => ld_int (h.at 0 rfl) 0 rfl, trivial⟩ hS ?_
  refine oD 3 28 (rD (some 21) (.int .i64 (mxI a)) (Y7) (hS) ?_)
  refine oD 4 27 (rD (some 22) (.int .i64 (mnI 1 (mxI a))) (Y7) (hS) ?_)
  refine tD 22 [.alt 5 (some 23) (.bool ((genP a b).sd != (mnI 1 (mxI a)))) (.bool false), .val 6 (some 24) (.bool false), .val 7 (some 25) (pt G 1), .load 8 (some 26) 3 (pt G 1) (.int .i64 (genP a b).tm), .val 9 (some 27) (.int .i64 b)] ⟨congrArg Value.bool (by rw [near_is a 1 (by omega)]; exact bne_self_eq_false _), fun W h => ld_int (h.at 0 rfl) 1 rfl, trivial⟩ hS ?_
  refine oD 10 21 (rD (some 28) (.int .i64 (mxI b)) (Y7) (hS) ?_)
  refine oD 11 20 (rD (some 29) (.int .i64 (mnI 1099511627776 (mxI b))) (Y7) (hS) ?_)
  refine tD 15 [.alt 12 (some 30) (.bool ((genP a b).tm != (mnI 1099511627776 (mxI b)))) (.bool false), .val 13 (some 31) (.bool false), .val 14 (some 32) (.bool false), .val 15 (some 33) (pt G 2), .load 16 (some 34) 30 (pt G 2) (bkv (genP a b).pu)] ⟨congrArg Value.bool (by rw [near_is b 1099511627776 (by omega)]; exact bne_self_eq_false _), fun W h => ld_pu (s := (genP a b)) (h.at 0 rfl), trivial⟩ hS ?_
  refine oD 17 14 (cD (some 35) 24 #[.int .u64 1000] ((bookEven_any 1000 hm1000 _).mono ?_))
  rintro e W1 ⟨rfl, hb⟩
  refine And.intro (hS.below hb) ?_
  replace hS := hS.below hb
  replace hM := hM.below hb
  clear hb
  refine oD 18 13 (neD (.tmp 34) (.tmp 35) 30 (some 36) (bkc fun _ => 1000).toArray ((run_eqK 9996 _ _ _).trans (by rw [eqK_refl])) hS ?_)
  refine tD 8 [.val 19 (some 37) (.bool false), .val 20 (some 38) (.bool false), .val 21 (some 39) (pt G 66), .load 22 (some 40) 30 (pt G 66) (bkv (genP a b).va), .val 23 (some 41) (bkv noK)] ⟨fun W h => ld_va (s := (genP a b)) (h.at 0 rfl), trivial⟩ hS ?_
  refine oD 24 7 (neD (.tmp 40) (.tmp 41) 30 (some 42) (bkc noK).toArray ((run_eqK 9996 _ _ _).trans (by rw [eqK_refl])) hS ?_)
  refine tD 3 [.val 25 (some 43) (.bool false), .val 26 (some 44) (.bool false), .val 27 (some 45) (pt G 150), .load 28 (some 46) 32 (pt G 150) (nilV)] ⟨fun W h => ld_lk (s := (genP a b)) (h.at 0 rfl), trivial⟩ hS ?_
  refine oD 29 2 (rD (some 47) (.int .i64 0) (W1) (hS) ?_)
  refine tD 0 [.val 30 (some 48) (.bool false), .val 31 (some 49) (.bool false)] trivial hS ?_
  refine dD ?_
  try simp only [puts, Tk.put, Act.put, List.setIfInBounds_toArray, List.set_cons_zero, List.set_cons_succ]
  clear hS
  go_upto_region 6 with fail
  refine wp_region_fromM (fun W => Mem w none [(G, 34, stc (genP a b) nilV), (P, 34, stc s (.slice p1 s.lk.length c1))] W) hM ?_
  clear hM
  rintro Y8 hM
  refine tF 6 [.val 0 (some 50) (pt P 1), .load 1 (some 51) 3 (pt P 1) (.int .i64 s.tm), .alt 2 (some 52) (.int .i64 (Int.tmod s.tm 1099511627776)) (.int .i64 m), .alt 3 (some 53) (.int .i64 (IntKind.i64.wrap (m + 1099511627776))) (.int .i64 (m + 1099511627776)), .alt 4 (some 54) (.int .i64 (Int.tmod (m + 1099511627776) 1099511627776)) (.int .i64 tt), .val 5 (some 55) (pt P 1)] ⟨ld_int (hM.at 1 rfl) 1 rfl, congrArg (Value.int .i64) HM1.out, congrArg (Value.int .i64) (IntWalk.i64_in _ (by have := HB.out; omega)), congrArg (Value.int .i64) HT1.out, trivial⟩ ?_
  refine sF 3 (pt P 1) (.int .i64 tt) (sto_tm (s := s) (hM.at 1 rfl) tt) ?_
  replace hM := hM.set 1 (cs' := stc ({ s with tm := tt }) (.slice p1 s.lk.length c1)) rfl rfl
  generalize World.setRow _ _ _ = Y9 at *
  refine dF ?_
  try simp only [puts, Tk.put, Act.put, List.setIfInBounds_toArray, List.set_cons_zero, List.set_cons_succ]
  go_upto_region 7 with fail
  refine wp_region_fromM (fun W => Mem w none [(G, 34, stc (genP a b) nilV), (P, 34, stc ({ s with tm := tt }) (.slice p1 s.lk.length c1))] W) hM ?_
  clear hM
  rintro Y10 hM
  refine tF 2 [.load 0 (some 56) 34 (pt P 0) (stv ({ s with tm := tt }) ((.slice p1 s.lk.length c1))), .val 1 (some 57) (.int .i64 z)] ⟨ld_st (hM.at 1 rfl), trivial⟩ ?_
  have hPG := (hM.at 1 rfl).lt
  have hGG := (hM.at 0 rfl).lt
  have hw0 := hM.size
  refine cF (some 58) 11 #[stv ({ s with tm := tt }) ((.slice p1 s.lk.length c1)), .int .i64 z] (((show Calls _ _ _ _ (OwnR ({ s with tm := ww }) _) from (by have h := esc_rise_any ({ s with tm := tt }) (.slice p1 s.lk.length c1) z _ (by have := HB.out; exact ⟨this.2.1, Int.le_of_lt this.2.2⟩) (show RSl lkc lo hi _ (.slice p1 s.lk.length c1) s.lk from HL.out.below hM.b HH.out) (Nat.le_trans HH.out hM.size) HR.out; unfold riseP at h; rw [show ({ s with tm := tt } : Es).tm + nearI z (1099511627776 - ({ s with tm := tt } : Es).tm) = ww from HW.out.symm] at h; exact h))).mono ?_)
  rintro e W1 ⟨v1, rfl, hO, hb⟩
  replace hO : OwnL Y10.heap.size W1 v1 s.lk := hO
  have hk1 : ∀ k, v1.ownBlock = some k → Y10.heap.size ≤ k ∧ k < W1.heap.size := fun k hk => World.ownsRow.lt hO k hk
  replace hM := hM.below hb
  clear hb
  obtain ⟨p2, c2, rfl⟩ := (OwnL.rsl hO).slice
  replace hO := hO.alloc (.cells (stc zS nilV).toArray 34)
  refine rF (some 10) (pt W1.heap.size 0) (W1.alloc (.cells (stc zS nilV).toArray 34)) ?_
  replace hM := hM.alloc 34 (stc zS nilV)
  generalize World.alloc _ _ = Y11 at *
  generalize hNe : W1.heap.size = Q at *
  clear hNe
  have HK := Lib.hid hk1
  clear hk1
  have hO1 := OwnL.row hO (B := Q) (fun k hk => by have := HK.out k hk; omega) (stc ({ s with tm := ww }) (.slice p2 s.lk.length c2)).toArray
  refine sF (w' := Y11.setRow Q (stc ({ s with tm := ww }) (.slice p2 s.lk.length c2)).toArray) 34 (pt Q 0) (stv ({ s with tm := ww }) (.slice p2 s.lk.length c2)) (sto_st (hM.at 0 rfl) (stc_len _ _) ({ s with tm := ww }) (OwnL.one hO).1) ?_
  replace hM := hM.set 0 (cs' := stc ({ s with tm := ww }) (.slice p2 s.lk.length c2)) rfl rfl
  generalize World.setRow _ _ _ = Y12 at *
  replace hO := hO1
  clear hO1
  generalize hB0 : Y10.heap.size = b0 at *
  clear hB0
  refine dF ?_
  try simp only [puts, Tk.put, Act.put, List.setIfInBounds_toArray, List.set_cons_zero, List.set_cons_succ]
  go_upto_region 8 with fail
  refine wp_region_fromM (fun W => Mem w none [(Q, 34, stc ({ s with tm := ww }) (.slice p2 s.lk.length c2)), (G, 34, stc (genP a b) nilV), (P, 34, stc ({ s with tm := tt }) (.slice p1 s.lk.length c1))] W ∧ OwnL b0 W (.slice p2 s.lk.length c2) s.lk) ⟨hM, hO⟩ ?_
  clear hM hO
  rintro Y13 ⟨hM, hO⟩
  refine tF 3 [.val 0 (some 59) (pt P 1), .load 1 (some 60) 3 (pt P 1) (.int .i64 (tt)), .val 2 (some 11) (.int .i64 (tt))] ⟨ld_int (hM.at 2 rfl) 1 rfl, trivial⟩ ?_
  refine dF ?_
  try simp only [puts, Tk.put, Act.put, List.setIfInBounds_toArray, List.set_cons_zero, List.set_cons_succ]
  go_upto_if 62 with fail
  go_cut [11, 62] (fun p q wc => p = .int .i64 ww ∧ (∃ c, q = .bool c) ∧ Mem w none [(Q, 34, stc ({ s with tm := ww }) (.slice p2 s.lk.length c2)), (G, 34, stc (genP a b) nilV), (P, 34, stc ({ s with tm := tt }) (.slice p1 s.lk.length c1))] wc ∧ OwnL b0 wc (.slice p2 s.lk.length c2) s.lk)
  case first =>
    by_cases hz : 0 < z
    case pos =>
      go_upto_region 10 with fail
      refine wp_region_fromM (fun W => Mem w none [(Q, 34, stc ({ s with tm := ww }) (.slice p2 s.lk.length c2)), (G, 34, stc (genP a b) nilV), (P, 34, stc ({ s with tm := tt }) (.slice p1 s.lk.length c1))] W ∧ OwnL b0 W (.slice p2 s.lk.length c2) s.lk) ⟨hM, hO⟩ ?_
      clear hM hO
      rintro Y14 ⟨hM, hO⟩
      refine tF 6 [.val 0 (some 63) (pt P 1), .load 1 (some 64) 3 (pt P 1) (.int .i64 (tt)), .val 2 (some 65) (.int .i64 z), .val 3 (some 66) (pt P 1), .load 4 (some 67) 3 (pt P 1) (.int .i64 (tt)), .alt 5 (some 68) (.int .i64 (IntKind.i64.wrap (1099511627776 - tt))) (.int .i64 (1099511627776 - tt))] ⟨ld_int (hM.at 2 rfl) 1 rfl, ld_int (hM.at 2 rfl) 1 rfl, congrArg (Value.int .i64) (IntWalk.i64_in _ (by have := HB.out; omega)), trivial⟩ ?_
      refine rF (some 69) (.int .i64 (mnI (1099511627776 - tt) z)) (Y14) ?_
      refine tF 9 [.alt 7 (some 70) (.int .i64 (IntKind.i64.wrap (tt + (mnI (1099511627776 - tt) z)))) (.int .i64 ww), .val 8 (some 11) (.int .i64 ww)] ⟨congrArg (Value.int .i64) (want_in HW.out hz HB.out.2), trivial⟩ ?_
      refine dF ?_
      try simp only [puts, Tk.put, Act.put, List.setIfInBounds_toArray, List.set_cons_zero, List.set_cons_succ]
      go_wp2_with fail
      go_meet
      exact ⟨rfl, ⟨_, rfl⟩, hM, hO⟩
    case neg =>
      have hwt := Lib.hid (want_no HW.out hz)
      go_wp2_with fail
      go_meet
      exact ⟨by rw [hwt.out], ⟨_, rfl⟩, hM, hO⟩
  case rest =>
    obtain ⟨rfl, ⟨c, rfl⟩, hM, hO⟩ := hcut
    go_upto_region 11 with fail
    refine wp_region_fromM (fun W => Mem w none [(Q, 34, stc ({ s with tm := ww }) (.slice p2 s.lk.length c2)), (G, 34, stc (genP a b) nilV), (P, 34, stc ({ s with tm := tt }) (.slice p1 s.lk.length c1))] W ∧ OwnL b0 W (.slice p2 s.lk.length c2) s.lk) ⟨hM, hO⟩ ?_
    clear hM hO
    rintro Y15 ⟨hM, hO⟩
    refine tF 1 [.val 0 (some 12) (.int .i64 0)] trivial ?_
    refine dF ?_
    try simp only [puts, Tk.put, Act.put, List.setIfInBounds_toArray, List.set_cons_zero, List.set_cons_succ]
    go_wp2_with fail
    go_loopw [12] (fun i wr => ∃ (k : Nat) (L : List Lk), k ≤ s.lk.length ∧ i = .int .i64 (k : Nat) ∧ (L.length = s.lk.length ∧ ∀ j, k ≤ j → L[j]? = s.lk[j]?) ∧ Mem w none [(Q, 34, stc ({ s with tm := ww }) (.slice p2 s.lk.length c2)), (G, 34, stc (genP a b) nilV), (P, 34, stc ({ s with tm := tt }) (.slice p1 s.lk.length c1))] wr ∧ OwnL b0 wr (.slice p2 s.lk.length c2) L) (fun i _ => s.lk.length - (intOf i).toNat)
    case atStart => exact ⟨0, s.lk, Nat.zero_le _, rfl, ⟨rfl, fun _ _ => rfl⟩, hM, hO⟩
    clear hM hO
    case round =>
      obtain ⟨k, L, hk, rfl, hL, hM, hO⟩ := hrel
      have HLL := Lib.hid hL
      have hsn : s.lk.length ≤ 140737488355328 := by have := HR.out; omega
      have HSN := Lib.hid hsn
      clear hL hsn
      by_cases hlt : k < s.lk.length
      case pos =>
        obtain ⟨x, hx⟩ : ∃ x, s.lk[k]? = some x := ⟨_, List.getElem?_eq_getElem hlt⟩
        obtain ⟨bo, oo, _, _, hi1, hc1⟩ := HE1.out k x hx
        have hx2 : L[k]? = some x := (HLL.out.2 k (Nat.le_refl k)).trans hx
        have HI1 := Lib.hid hi1
        have HC1 := Lib.hid hc1
        have HX2 := Lib.hid hx2
        have HLT := Lib.hid hlt
        have hlt' : (k : Int) < (s.lk.length : Int) := by omega
        clear hi1 hc1 hx2 hx hlt
        go_upto_region 12 with fail
        refine wp_region_fromM (fun W => Mem w none [(Q, 34, stc ({ s with tm := ww }) (.slice p2 s.lk.length c2)), (G, 34, stc (genP a b) nilV), (P, 34, stc ({ s with tm := tt }) (.slice p1 s.lk.length c1))] W ∧ OwnL b0 W (.slice p2 s.lk.length c2) L) ⟨hM, hO⟩ ?_
        clear hM hO
        rintro Y16 ⟨hM, hO⟩
        refine tF 3 [.val 0 (some 71) (.int .i64 (k : Int)), .val 1 (some 72) (pt Q 150), .load 2 (some 73) 32 (pt Q 150) ((.slice p2 s.lk.length c2))] ⟨ld_lk (s := { s with tm := ww }) (hM.at 0 rfl), trivial⟩ ?_
        refine rF (some 74) (.int .i64 s.lk.length) (Y16) ?_
        refine tF 5 [.alt 4 (some 75) (.bool (decide ((k : Int) < (s.lk.length : Int)))) (.bool true)] ⟨congrArg Value.bool (decide_eq_true hlt'), trivial⟩ ?_
        refine dF ?_
        try simp only [puts, Tk.put, Act.put, List.setIfInBounds_toArray, List.set_cons_zero, List.set_cons_succ]
        go_upto_region 14 with fail
        refine wp_region_M (fun W => Mem w none [(Q, 34, stc ({ s with tm := ww }) (.slice p2 s.lk.length c2)), (G, 34, stc (genP a b) nilV), (P, 34, stc ({ s with tm := tt }) (.slice p1 s.lk.length c1))] W) (fun W => Mem w none [(Q, 34, stc ({ s with tm := ww }) (.slice p2 s.lk.length c2)), (G, 34, stc (genP a b) nilV), (P, 34, stc ({ s with tm := tt }) (.slice p1 s.lk.length c1))] W ∧ OwnL b0 W (.slice p2 s.lk.length c2) L) hmx ⟨hM.drew, hO.drew⟩ ?_
        clear hM hO
        rintro Y17 ⟨hM, hO⟩
        have hS := hM.sub (.cons_cons _ (.cons_cons _ (.cons_cons _ .slnil)))
        obtain ⟨g, o, W2, hi2, hst, hgb, hgr, hO2⟩ := own_end hO HX2.out (IntKind.i64.wrap (x.st + 1))
        obtain ⟨g', o', _, _, hi4, hc4⟩ := (OwnL.rsl hO).elem lkc_len HX2.out Tryz.underlying32 (fun W => by kernel_rfl)
        obtain ⟨rfl, rfl⟩ : g = g' ∧ o = o' := by
          have h := (hi2 wr).symm.trans (hi4 wr)
          simpa using h
        have hcl := hc4 _ (OwnL.rsl hO) 2 _ rfl
        have hgq : g < Q := ownL_at_lt hO HX2.out HK.out (hi2 wr)
        have HI2 := Lib.hid hi2
        have HCL := Lib.hid hcl
        clear hi2 hi4 hc4 hcl
        refine tD 5 [.val 0 (some 78) (pt Q 150), .load 1 (some 79) 32 (pt Q 150) ((.slice p2 s.lk.length c2)), .val 2 (some 80) (.int .i64 (k : Int)), .val 3 (some 81) (pt Q 150), .load 4 (some 82) 32 (pt Q 150) ((.slice p2 s.lk.length c2)), .val 5 (some 83) (.int .i64 (k : Int)), .idx 6 (some 84) 32 ((.slice p2 s.lk.length c2)) (.int .i64 (k : Int)) (pt g o), .val 7 (some 85) (pt g (o + 2))] ⟨fun W h => ld_lk (s := { s with tm := ww }) (h.at 0 rfl), fun W h => ld_lk (s := { s with tm := ww }) (h.at 0 rfl), fun W h => HI2.out _, trivial⟩ hS ?_
        refine oD 8 4 (lD (some 86) 3 (pt g (o + 2)) (.int .i64 x.st) (ld_cell _ _ Tryz.underlying3 rfl HCL.out) (hS) ?_)
        refine tD 1 [.val 9 (some 87) (.int .i64 (IntKind.i64.wrap (x.st + 1))), .idx 10 (some 88) 32 ((.slice p2 s.lk.length c2)) (.int .i64 (k : Int)) (pt g o), .val 11 (some 89) (pt g (o + 2))] ⟨fun W h => HI2.out _, trivial⟩ hS ?_
        have hM2 := hM.own hgr (fun q hq => ⟨by obtain rfl := Option.some.inj hq; omega, fun y hy => by
          obtain rfl := Option.some.inj hq
          simp only [List.mem_cons, List.not_mem_nil, or_false] at hy
          rcases hy with rfl | rfl | rfl <;> (dsimp only; omega)⟩)
        refine oD 12 0 (sD (w' := W2) 3 (pt g (o + 2)) (.int .i64 (IntKind.i64.wrap (x.st + 1))) (hst) (hM2.sub (.cons_cons _ (.cons_cons _ (.cons_cons _ .slnil)))) ?_)
        clear hS
        replace hM := hM2
        clear hM2 hO hst hgr HCL
        refine dD ?_
        try simp only [puts, Tk.put, Act.put, List.setIfInBounds_toArray, List.set_cons_zero, List.set_cons_succ]
        have HL3 := Lib.hid (And.intro ((end_len L k (IntKind.i64.wrap (x.st + 1))).trans HLL.out.1) (fun j (hj : k + 1 ≤ j) => (end_ne L (IntKind.i64.wrap (x.st + 1)) (show k ≠ j by omega)).trans (HLL.out.2 j (by omega))))
        have hx3 := end_get HX2.out (IntKind.i64.wrap (x.st + 1))
        have HX3 := Lib.hid hx3
        clear hx3
        generalize endE L k (IntKind.i64.wrap (x.st + 1)) = L3 at *
        go_upto_region 15 with fail
        refine wp_region_M (fun W => Mem w none [(Q, 34, stc ({ s with tm := ww }) (.slice p2 s.lk.length c2)), (G, 34, stc (genP a b) nilV), (P, 34, stc ({ s with tm := tt }) (.slice p1 s.lk.length c1))] W ∧ RSl lkc b0 Q W (.slice p2 s.lk.length c2) L3) (fun W => Mem w none [(Q, 34, stc ({ s with tm := ww }) (.slice p2 s.lk.length c2)), (G, 34, stc (genP a b) nilV), (P, 34, stc ({ s with tm := tt }) (.slice p1 s.lk.length c1))] W ∧ OwnL b0 W (.slice p2 s.lk.length c2) L3) hmx ⟨hM.drew, hO2.drew⟩ ?_
        clear hM hO2
        rintro Y18 ⟨hM, hO⟩
        have hup := OwnL.upto (q := Q) hO (fun k hk => (HK.out k hk).2)
        obtain ⟨bn, on, _, _, hi3, hc3⟩ := hup.elem lkc_len HX3.out Tryz.underlying32 (fun W => by kernel_rfl)
        have HI3 := Lib.hid hi3
        have HC3 := Lib.hid hc3
        clear hi3 hc3
        have hS := And.intro hM hup
        refine tD 0 [.val 0 (some 90) (pt P 150), .load 1 (some 91) 32 (pt P 150) ((.slice p1 s.lk.length c1)), .val 2 (some 92) (.int .i64 (k : Int)), .idx 3 (some 93) 32 ((.slice p1 s.lk.length c1)) (.int .i64 (k : Int)) (pt bo oo), .val 4 (some 94) (pt bo (oo + 2)), .load 5 (some 95) 3 (pt bo (oo + 2)) (.int .i64 x.st), .val 6 (some 96) (pt Q 150), .load 7 (some 97) 32 (pt Q 150) ((.slice p2 s.lk.length c2)), .val 8 (some 98) (.int .i64 (k : Int)), .idx 9 (some 99) 32 ((.slice p2 s.lk.length c2)) (.int .i64 (k : Int)) (pt bn on), .val 10 (some 100) (pt bn (on + 2)), .load 11 (some 101) 3 (pt bn (on + 2)) (.int .i64 (IntKind.i64.wrap (x.st + 1))), .alt 12 (some 102) (.bool (x.st == (IntKind.i64.wrap (x.st + 1)))) (.bool false)] ⟨fun W h => ld_lk (s := { s with tm := tt }) (h.1.at 2 rfl), fun W h => HI1.out _, fun W h => ld_cell _ _ Tryz.underlying3 rfl (HC1.out _ (HL.out.below h.1.b HH.out) 2 _ rfl), fun W h => ld_lk (s := { s with tm := ww }) (h.1.at 0 rfl), fun W h => HI3.out _, fun W h => ld_cell _ _ Tryz.underlying3 rfl (HC3.out _ h.2 2 _ rfl), congrArg Value.bool (beq_eq_false_iff_ne.2 (wrap_ne x.st)), trivial⟩ hS ?_
        refine dD ?_
        try simp only [puts, Tk.put, Act.put, List.setIfInBounds_toArray, List.set_cons_zero, List.set_cons_succ]
        clear hS
        clear hup
        have hlt2 := HLT.out
        have hsn2 := HSN.out
        have HM5 := Lib.hid hM
        have HO5 := Lib.hid hO
        clear hM hO
        have hwr : IntKind.i64.wrap ((k : Int) + 1) = ((k + 1 : Nat) : Int) := (IntWalk.i64_in _ (by omega)).trans (by omega)
        go_wp2_with fail
        go_roundw
        case rel => exact ⟨k + 1, L3, HLT.out, by go_num, HL3.out, HM5.out, HO5.out⟩
        case measure => have := HLT.out; simp [intOf]; omega
      case neg =>
        obtain rfl : k = s.lk.length := by omega
        go_upto_region 12 with fail
        refine wp_region_fromM (fun W => Mem w none [(Q, 34, stc ({ s with tm := ww }) (.slice p2 s.lk.length c2)), (G, 34, stc (genP a b) nilV), (P, 34, stc ({ s with tm := tt }) (.slice p1 s.lk.length c1))] W ∧ OwnL b0 W (.slice p2 s.lk.length c2) L) ⟨hM, hO⟩ ?_
        clear hM hO
        rintro Y19 ⟨hM, hO⟩
        refine tF 3 [.val 0 (some 71) (.int .i64 (s.lk.length : Int)), .val 1 (some 72) (pt Q 150), .load 2 (some 73) 32 (pt Q 150) ((.slice p2 s.lk.length c2))] ⟨ld_lk (s := { s with tm := ww }) (hM.at 0 rfl), trivial⟩ ?_
        refine rF (some 74) (.int .i64 s.lk.length) (Y19) ?_
        refine tF 5 [.alt 4 (some 75) (.bool (decide ((s.lk.length : Int) < (s.lk.length : Int)))) (.bool false)] ⟨congrArg Value.bool (decide_eq_false (by omega)), trivial⟩ ?_
        refine dF ?_
        try simp only [puts, Tk.put, Act.put, List.setIfInBounds_toArray, List.set_cons_zero, List.set_cons_succ]
        go_upto_region 17 with fail
        refine wp_region_fromM (fun W => Mem w none [(Q, 34, stc ({ s with tm := ww }) (.slice p2 s.lk.length c2)), (G, 34, stc (genP a b) nilV), (P, 34, stc ({ s with tm := tt }) (.slice p1 s.lk.length c1))] W ∧ OwnL b0 W (.slice p2 s.lk.length c2) L) ⟨hM, hO⟩ ?_
        clear hM hO
        rintro Y20 ⟨hM, hO⟩
        refine tF 7 [.val 0 (some 103) (pt Q 1), .load 1 (some 104) 3 (pt Q 1) (.int .i64 (ww)), .val 2 (some 105) (.int .i64 ww), .alt 3 (some 106) (.bool (ww == ww)) (.bool true), .val 4 (some 107) (.bool true), .val 5 (some 108) (pt Q 150), .load 6 (some 109) 32 (pt Q 150) ((.slice p2 s.lk.length c2))] ⟨ld_int (hM.at 0 rfl) 1 rfl, congrArg Value.bool (beq_self_eq_true _), ld_lk (s := { s with tm := ww }) (hM.at 0 rfl), trivial⟩ ?_
        refine rF (some 110) (.int .i64 s.lk.length) (Y20) ?_
        refine tF 10 [.val 8 (some 111) (pt P 150), .load 9 (some 112) 32 (pt P 150) ((.slice p1 s.lk.length c1))] ⟨ld_lk (s := { s with tm := tt }) (hM.at 2 rfl), trivial⟩ ?_
        refine rF (some 113) (.int .i64 s.lk.length) (Y20) ?_
        refine tF 14 [.alt 11 (some 114) (.bool ((s.lk.length : Int) == (s.lk.length : Int))) (.bool true), .val 12 (some 115) (.bool true), .val 13 (some 8) (.bool true)] ⟨congrArg Value.bool (beq_self_eq_true _), trivial⟩ ?_
        refine dF ?_
        try simp only [puts, Tk.put, Act.put, List.setIfInBounds_toArray, List.set_cons_zero, List.set_cons_succ]
        go_wp2_with fail
        go_ret
        exact ⟨rfl, hM.b⟩
end Go.Proofs.YthhmdgmmeedhdaaGreat
namespace Go.Proofs.YthhmdgmmeedhdaaGreat
open Go.ChangeShapes Go.WideShapes Go.ChangeAt Go.RowKit Go.Deep
open Go.ChangeMaps (open_string)
set_option maxRecDepth 100000 in
theorem escrowPlain_lifted (os : Os) (started : os.Started) (H : Type) (enc : TypeId × Value → H) :
    ReturnsInHanded {} Tryz.checked os 7 .any (Rows.escrowPlainSpec.pre6 enc Tryz.prog Tryz.f7 Rows.escrowPlainRow.domain false) (Rows.escrowPlainSpec.post enc Tryz.prog Tryz.f7 false true false false) := by
  refine returnsInHanded_of_change_sized (C := Tryz.checked) Tryz.own started (by kernel_rfl) Tryz.func7
    (ChangeSpec.witness6 (enc := enc) (C := Tryz.checked) false ⟨#[], #[.int .i64 0, .int .i64 0, .agg #[.int .i64 0, .int .i64 0, .int .u64 0, .int .u64 0, .int .u64 0, .int .u64 0, .int .u64 0, .int .u64 0, .int .u64 0, .int .u64 0, .int .u64 0, .int .u64 0, .int .u64 0, .int .u64 0, .int .u64 0, .int .u64 0, .int .u64 0, .int .u64 0, .int .u64 0, .int .u64 0, .int .u64 0, .int .u64 0, .int .u64 0, .int .u64 0, .int .u64 0, .int .u64 0, .int .u64 0, .int .u64 0, .int .u64 0, .int .u64 0, .int .u64 0, .int .u64 0, .int .u64 0, .int .u64 0, .int .u64 0, .int .u64 0, .int .u64 0, .int .u64 0, .int .u64 0, .int .u64 0, .int .u64 0, .int .u64 0, .int .u64 0, .int .u64 0, .int .u64 0, .int .u64 0, .int .u64 0, .int .u64 0, .int .u64 0, .int .u64 0, .int .u64 0, .int .u64 0, .int .u64 0, .int .u64 0, .int .u64 0, .int .u64 0, .int .u64 0, .int .u64 0, .int .u64 0, .int .u64 0, .int .u64 0, .int .u64 0, .int .u64 0, .int .u64 0, .int .u64 0, .int .u64 0, .int .u64 0, .int .u64 0, .int .u64 0, .int .u64 0, .int .u64 0, .int .u64 0, .int .u64 0, .int .u64 0, .int .u64 0, .int .u64 0, .int .u64 0, .int .u64 0, .int .u64 0, .int .u64 0, .int .u64 0, .int .u64 0, .int .u64 0, .int .u64 0, .int .u64 0, .int .u64 0, .int .u64 0, .int .u64 0, .int .u64 0, .int .u64 0, .int .u64 0, .int .u64 0, .int .u64 0, .int .u64 0, .int .u64 0, .int .u64 0, .int .u64 0, .int .u64 0, .int .u64 0, .int .u64 0, .int .u64 0, .int .u64 0, .int .u64 0, .int .u64 0, .int .u64 0, .int .u64 0, .int .u64 0, .int .u64 0, .int .u64 0, .int .u64 0, .int .u64 0, .int .u64 0, .int .u64 0, .int .u64 0, .int .u64 0, .int .u64 0, .int .u64 0, .int .u64 0, .int .u64 0, .int .u64 0, .int .u64 0, .int .u64 0, .int .u64 0, .int .u64 0, .int .u64 0, .int .u64 0, .int .u64 0, .int .u64 0, .int .u64 0, .int .u64 0, .int .i64 0, .int .i64 0, .int .i64 0, .int .i64 0, .int .i64 0, .int .i64 0, .int .i64 0, .int .i64 0, .int .u64 0, .int .u64 0, .int .u64 0, .int .u64 0, .int .u64 0, .int .u64 0, .int .u64 0, .int .u64 0, .int .u64 0, .int .u64 0, .int .u64 0, .int .u64 0, .slice none 0 0], .int .i64 0], []⟩ 8 (by kernel_rfl) (by kernel_rfl) (by kernel_rfl) (by kernel_rfl)) ?_
  intro W base args ds gs before hval0 hW hcnd hsz0 _
  have hval : ∀ (j : Nat) t v, Tryz.f7.params[j]? = some t → args[j]? = some v → Value.okWide Tryz.prog W .any base t v := hval0
  have hW' := hW
  obtain ⟨p, q, hA0, hV, rfl, hfz, hnd⟩ := hW
  have hA : DataW.TrodAll enc Tryz.prog W 0 (fun _ => true) true Tryz.f7.params.toList args.toList ds p := hA0
  have hsz : (DataW.weightsEach Tryz.prog (Tryz.f7.params.toList ++ Rows.escrowPlainSpec.plain.varTypes Tryz.prog) (ds ++ gs)).all (· ≤ reachBytes) = true := hsz0
  rw [Tryz.params7] at hA hval hsz
  obtain ⟨v0, v1, v2, v3, d0, d1, d2, d3, p0, p1, p2, p3, rfl, rfl, rfl, h0, h1, h2, h3⟩ := trodAll_four hA
  obtain ⟨rfl, rfl⟩ := trodVars_none hV
  have k0 := h0
  have k1 := h1
  have k2 := h2
  have k3 := h3
  have lt0 : ∀ x ∈ p0, x.block < W.heap.size := by obtain ⟨m, hm⟩ := k0; exact DataW.trod_lt m _ _ _ hm
  have lt1 : ∀ x ∈ p1, x.block < W.heap.size := by obtain ⟨m, hm⟩ := k1; exact DataW.trod_lt m _ _ _ hm
  have lt2 : ∀ x ∈ p2, x.block < W.heap.size := by obtain ⟨m, hm⟩ := k2; exact DataW.trod_lt m _ _ _ hm
  have lt3 : ∀ x ∈ p3, x.block < W.heap.size := by obtain ⟨m, hm⟩ := k3; exact DataW.trod_lt m _ _ _ hm
  obtain ⟨z0, rfl, _, _, wf0⟩ := open_int Tryz.underlying3 (hval 0 3 v0 rfl rfl) h0
  obtain ⟨zl0, zh0⟩ := wf_i64 wf0
  obtain ⟨z1, rfl, _, _, wf1⟩ := open_int Tryz.underlying3 (hval 1 3 v1 rfl rfl) h1
  obtain ⟨zl1, zh1⟩ := wf_i64 wf1
  obtain ⟨s2, lv2, rfl, hp2, hva2, hhe2, hbu2, hsl2, hln2⟩ := open_state (hval 2 34 v2 rfl rfl) h2 (fun n hn => sized_in hsz (j := 2) (t := 34) rfl rfl n hn)
  obtain ⟨z3, rfl, _, _, wf3⟩ := open_int Tryz.underlying3 (hval 3 3 v3 rfl rfl) h3
  obtain ⟨zl3, zh3⟩ := wf_i64 wf3
  clear hA0 hval0
  refine (escrowPlain_any z0 z1 s2 lv2 z3 W hsl2 (Nat.le_refl _) (by omega)).mono fun e W' ⟨he, bel⟩ => ?_
  subst he
  exact ⟨_, rfl, _, _, _, [], _, [], hW', trodAll_mk1 (shut_bool Tryz.underlying4 _), (trodAll_mk4 (Below.trod Tryz.laidOut (by kernel_rfl) (of_decide_eq_true (by kernel_rfl)) k0 bel lt0) (Below.trod Tryz.laidOut (by kernel_rfl) (of_decide_eq_true (by kernel_rfl)) k1 bel lt1) (Below.trod Tryz.laidOut (by kernel_rfl) (of_decide_eq_true (by kernel_rfl)) k2 bel lt2) (Below.trod Tryz.laidOut (by kernel_rfl) (of_decide_eq_true (by kernel_rfl)) k3 bel lt3)), rfl, bel.frame _, fun h => by cases h⟩
theorem escrowPlain_over : Rows.escrowPlainRow.holds Tryz.pinned (OpenSpec.ofChange Rows.escrowPlainSpec) :=
  OpenClaim.holds_of_wide 7 Tryz.f7 rfl rfl rfl rfl rfl rfl rfl ⟨rfl, rfl, rfl, rfl, rfl⟩ rfl rfl rfl rfl rfl (by kernel_rfl) Tryz.func7 (by kernel_rfl)
    (of_decide_eq_true (by kernel_rfl)) (by unfold Func.isWrapper; first | (rw [if_pos (by decide +kernel)]; kernel_rfl) | (rw [if_neg (by decide +kernel)]; exact ⟨rfl, rfl⟩))
    (fun os started H enc _ => escrowPlain_lifted os started H enc)
theorem escrowPlain_proved : Rows.EscrowPlainSaid := escrowPlain_over
end Go.Proofs.YthhmdgmmeedhdaaGreat
