/-
  EscrowReverts answers true at every input, and leaves its arguments as they are.
-/
import Derived.Deep.Slices
import Derived.SizedLaws
import Derived.Carry
import Derived.ChangeMaps5
import Derived.Test.YthhmdgmmeedhdaaGreatK14
namespace Go.Proofs.YthhmdgmmeedhdaaGreat
open Go.RowKit Go.Shelf
attribute [local irreducible] wpFrom wpAnyH StepH
theorem ite_no {c : Prop} [Decidable c] {p q : Es × Int} {f : Nat → Int} (h1 : p.1.no = f) (h2 : q.1.no = f) : (if c then p else q).1.no = f := by
  by_cases h : c
  · rw [if_pos h]; exact h1
  · rw [if_neg h]; exact h2
theorem done_no (o : Orc) (s : Es) (t : Tr) : (doneE o s t).1.no = s.no := by
  unfold doneE plainE prepE fulE canE
  repeat' (first | apply ite_no | rfl)
theorem appl_no {s : Es} (hs : OkE s) {t : Tr} {w W' : World} {e : Ending} (hA : (applyE orcB s t).2.2 = false) (h : ApplyR (applyP s t) w e W') : ∃ v', e = .returned (.tuple #[stv s v', .int .i64 (applyE orcB s t).2.1, .bool false]) ∧ OwnL w.heap.size W' v' s.lk ∧ Below w.heap.size w W' := by
  rw [apply_eq hs t] at h
  obtain ⟨v', h1, h2, h3⟩ := h
  rw [(apply_no hA).1, hA] at h1
  rw [(apply_no hA).1] at h2
  exact ⟨v', h1, h2, h3⟩
theorem appl_rev {s : Es} (hs : OkE s) {t : Tr} {w W' : World} {e : Ending} (hA : (applyE orcB s t).2.2 = true) (hE : (applyE orcB s t).2.1 ≠ 0) (h : ApplyR (applyP s t) w e W') : ∃ v', e = .returned (.tuple #[stv (paidE s t) v', .int .i64 (applyE orcB s t).2.1, .bool true]) ∧ OwnL w.heap.size W' v' (paidE s t).lk ∧ Below w.heap.size w W' := by
  rw [apply_eq hs t] at h
  have k : (applyE orcB s t).1 = paidE s t := (apply_yes hA).2.elim (fun x => x.2) (fun x => absurd x.1 hE)
  obtain ⟨v', h1, h2, h3⟩ := h
  rw [k, hA] at h1
  rw [k] at h2
  exact ⟨v', h1, h2, h3⟩
theorem appl_yes {s : Es} (hs : OkE s) {t : Tr} {w W' : World} {e : Ending} (hA : (applyE orcB s t).2.2 = true) (hE : (applyE orcB s t).2.1 = 0) (h : ApplyR (applyP s t) w e W') : ∃ v', e = .returned (.tuple #[stv (doneE orcB (paidE s t) t).1 v', .int .i64 0, .bool true]) ∧ OwnL w.heap.size W' v' (doneE orcB (paidE s t) t).1.lk ∧ Below w.heap.size w W' := by
  rw [apply_eq hs t] at h
  have k : (applyE orcB s t).1 = (doneE orcB (paidE s t) t).1 := (apply_yes hA).2.elim (fun x => absurd hE x.1) (fun x => x.2.2)
  obtain ⟨v', h1, h2, h3⟩ := h
  rw [k, hA, hE] at h1
  rw [k] at h2
  exact ⟨v', h1, h2, h3⟩
theorem appl3 {s : Es} (hs : OkE s) (t : Tr) : (∃ E : Int, E ≠ 0 ∧ AppE s s t E false) ∨ (takenE s t ∧ ∃ E : Int, E ≠ 0 ∧ AppE s (paidE s t) t E true) ∨ (takenE s t ∧ ∃ D : Es, D.no = (paidE s t).no ∧ AppE s D t 0 true) := by
  cases hA : (applyE orcB s t).2.2 with
  | false => exact .inl ⟨_, (apply_no hA).2, fun w e W' h => appl_no hs hA h⟩
  | true =>
    by_cases hE : (applyE orcB s t).2.1 = 0
    · exact .inr (.inr ⟨(apply_yes hA).1, _, done_no _ _ _, fun w e W' h => appl_yes hs hA hE h⟩)
    · exact .inr (.inl ⟨(apply_yes hA).1, _, hE, fun w e W' h => appl_rev hs hA hE h⟩)
theorem paid_no (s : Es) (t : Tr) : (paidE s t).no t.fr.toNat - s.no t.fr.toNat = 1 := by
  show (if t.fr.toNat = t.fr.toNat then s.no t.fr.toNat + 1 else s.no t.fr.toNat) - s.no t.fr.toNat = 1
  rw [if_pos rfl]
  omega
theorem paid_up {s : Es} {t : Tr} : { s with pu := updB s.pu (2 * t.fr.toNat) (s.pu (2 * t.fr.toNat) - 1), bu := s.bu + 1, no := updNo s.no t.fr.toNat (s.no t.fr.toNat + 1) } = paidE s t := by
  unfold paidE
  have : updNo s.no t.fr.toNat (s.no t.fr.toNat + 1) = fun i => if i = t.fr.toNat then s.no i + 1 else s.no i := by
    funext i
    unfold updNo
    by_cases e : i = t.fr.toNat
    · rw [if_pos e, if_pos e, e]
    · rw [if_neg e, if_neg e]
  rw [this]
set_option maxRecDepth 100000 in
set_option maxHeartbeats 4000000 in
theorem escrowReverts_any (s : Es) (v : Value) (hp : OkK s.pu) (hva : OkK s.va) (hhe : s.he 0 < M4 ∧ s.he 1 < M4) (hbu : s.bu < M4) (t : Tr) (ht : OkT t) (w : World) {lo hi : Nat} (hl : RSl lkc lo hi w v s.lk) (hhi : hi ≤ w.heap.size) (hr : (s.lk.length + 1) * 40 ≤ 140737488355328) :
    Calls Tryz.prog 5 #[stv s v, txv t] w fun e W' => e = .returned (.bool true) ∧ Below w.heap.size w W' := by
  have hmx : Tryz.prog.follows .mixedOrders = true := by kernel_rfl
  have hv := hl.one
  have HL := Lib.hid hl
  have hs : OkE (sideE s) := side_ok hp hva hhe hbu
  have m1 : (1 : Nat) < M4 := by decide
  clear hl hp hva hhe hbu
  have hM := Mem.start w
  go_enter Tryz.func5, Tryz.ntmps5
  go_upto_region 0 with fail
  refine wp_region_fromM (fun W => Mem w none [] W) hM ?_
  clear hM
  rintro Y1 hM
  refine rF (some 2) (pt Y1.heap.size 0) (Y1.alloc (.cells (stc s v).toArray 34)) ?_
  replace hM := hM.alloc 34 (stc s v)
  generalize World.alloc _ _ = Y2 at *
  generalize hNe : Y1.heap.size = P at *
  clear hNe
  refine rF (some 3) (pt Y2.heap.size 0) (Y2.alloc (.cells (txc t).toArray 50)) ?_
  replace hM := hM.alloc 50 (txc t)
  generalize World.alloc _ _ = Y3 at *
  generalize hNe : Y2.heap.size = X at *
  clear hNe
  refine tF 3 [.val 2 (some 4) (.bool false)] trivial ?_
  refine dF ?_
  try simp only [puts, Tk.put, Act.put, List.setIfInBounds_toArray, List.set_cons_zero, List.set_cons_succ]
  go_upto_region 1 with fail
  refine wp_region_fromM (fun W => Mem w none [(X, 50, txc t), (P, 34, stc s v)] W) hM ?_
  clear hM
  rintro Y4 hM
  refine cF (some 13) 8 #[] ((alive12_any _).mono ?_)
  rintro e W1 ⟨rfl, hb⟩
  replace hM := hM.below hb
  clear hb
  refine tF 2 [.val 1 (some 14) (.bool false)] trivial ?_
  refine dF ?_
  try simp only [puts, Tk.put, Act.put, List.setIfInBounds_toArray, List.set_cons_zero, List.set_cons_succ]
  go_upto_region 3 with fail
  refine wp_region_fromM (fun W => Mem w none [(X, 50, txc t), (P, 34, stc s v)] W) hM ?_
  clear hM
  rintro Y5 hM
  refine tF 1 [.load 0 (some 15) 34 (pt P 0) (stv (s) (v))] ⟨ld_st (hM.at 1 rfl), trivial⟩ ?_
  refine cF (some 16) 18 #[stv (s) (v)] ((side_any s v hv _).mono ?_)
  rintro e W1 ⟨rfl, hb⟩
  replace hM := hM.below hb
  clear hb
  refine sF 34 (pt P 0) (stv (sideE s) v) (sto_st (hM.at 1 rfl) (stc_len _ _) (sideE s) hv) ?_
  replace hM := hM.set 1 (cs' := stc (sideE s) v) rfl rfl
  generalize World.setRow _ _ _ = Y6 at *
  refine dF ?_
  try simp only [puts, Tk.put, Act.put, List.setIfInBounds_toArray, List.set_cons_zero, List.set_cons_succ]
  rcases appl3 hs t with ⟨E, hE, hc⟩ | ⟨htk, E, hE, hc⟩ | ⟨htk, D, hD, hc⟩
  · have HE0 := Lib.hid hE
    have HCL := Lib.hid hc
    clear hE hc
    go_upto_region 4 with fail
    refine wp_region_fromM (fun W => Mem w none [(X, 50, txc t), (P, 34, stc (sideE s) v)] W) hM ?_
    clear hM
    rintro Y7 hM
    refine tF 2 [.load 0 (some 18) 34 (pt P 0) (stv ((sideE s)) (v)), .load 1 (some 19) 50 (pt X 0) (txv t)] ⟨ld_st (hM.at 1 rfl), ld_tx (hM.at 0 rfl), trivial⟩ ?_
    refine cF (some 20) 12 #[stv ((sideE s)) (v), txv t] ((((esc_apply_any (sideE s) v hs t ht _ (show RSl lkc lo hi _ v (sideE s).lk from HL.out.below hM.b hhi) (Nat.le_trans hhi hM.size) (show ((sideE s).lk.length + 1) * 40 ≤ 140737488355328 from hr)).mono fun _ _ h => HCL.out _ _ _ h)).mono ?_)
    rintro e W1 ⟨v1, rfl, hO, hb⟩
    have hk1 := fun k hk => hO.lt k hk
    replace hO := hO.low hM.size
    replace hM := hM.below hb
    clear hb
    replace hO := hO.alloc (.cells (stc zS nilV).toArray 34)
    refine tF 7 [.val 3 (some 17) (.tuple #[stv (sideE s) v1, .int .i64 E, .bool false]), .val 4 (some 21) (stv (sideE s) v1), .val 5 (some 22) (.int .i64 E), .val 6 (some 23) (.bool false)] trivial ?_
    refine rF (some 5) (pt W1.heap.size 0) (W1.alloc (.cells (stc zS nilV).toArray 34)) ?_
    replace hM := hM.alloc 34 (stc zS nilV)
    generalize World.alloc _ _ = Y8 at *
    generalize hNe : W1.heap.size = N at *
    clear hNe
    have hO1 := OwnL.row hO (B := N) (fun k hk => by have := hk1 k hk; omega) (stc (sideE s) v1).toArray
    refine sF (w' := Y8.setRow N (stc (sideE s) v1).toArray) 34 (pt N 0) (stv (sideE s) v1) (sto_st (hM.at 0 rfl) (stc_len _ _) (sideE s) (OwnL.one hO).1) ?_
    replace hM := hM.set 0 (cs' := stc (sideE s) v1) rfl rfl
    generalize World.setRow _ _ _ = Y9 at *
    replace hO := hO1
    clear hO1
    refine tF 11 [.val 9 (some 6) (.int .i64 E), .val 10 (some 7) (.bool false)] trivial ?_
    refine dF ?_
    try simp only [puts, Tk.put, Act.put, List.setIfInBounds_toArray, List.set_cons_zero, List.set_cons_succ]
    go_upto_region 5 with fail
    refine wp_region_fromM (fun W => Mem w none [(N, 34, stc (sideE s) v1), (X, 50, txc t), (P, 34, stc (sideE s) v)] W ∧ OwnL w.heap.size W v1 (sideE s).lk) ⟨hM, hO⟩ ?_
    clear hM hO
    rintro Y10 ⟨hM, hO⟩
    refine tF 2 [.val 0 (some 24) (.bool false), .val 1 (some 25) (.bool true)] trivial ?_
    refine dF ?_
    try simp only [puts, Tk.put, Act.put, List.setIfInBounds_toArray, List.set_cons_zero, List.set_cons_succ]
    go_upto_region 6 with fail
    refine wp_region_M (fun W => Mem w none [(N, 34, stc (sideE s) v1), (X, 50, txc t), (P, 34, stc (sideE s) v)] W) (fun W => Mem w none [(N, 34, stc (sideE s) v1), (X, 50, txc t), (P, 34, stc (sideE s) v)] W ∧ OwnL w.heap.size W v1 (sideE s).lk) hmx ⟨hM.drew, hO.drew⟩ ?_
    clear hM hO
    rintro Y11 ⟨hM, hO⟩
    have hS := hM.sub (.cons_cons _ (.cons_cons _ (.cons_cons _ .slnil)))
    refine tD 5 [.val 0 (some 26) (.int .i64 E), .alt 1 (some 27) (.bool (E != 0)) (.bool true), .val 2 (some 28) (.bool true), .load 3 (some 29) 34 (pt N 0) (stv ((sideE s)) (v1)), .load 5 (some 31) 34 (pt P 0) (stv ((sideE s)) (v))] ⟨congrArg Value.bool (bne_iff_ne.2 HE0.out), fun W h => ld_st (h.at 0 rfl), fun W h => ld_st (h.at 2 rfl), trivial⟩ hS ?_
    have hO1 := OwnL.rsl hO
    refine oD 4 4 (cD (some 30) 10 #[stv ((sideE s)) (v1)] ((plain12_any (sideE s) v1 _ hO1 (Nat.le_refl _) (show ((sideE s).lk.length + 1) * 40 ≤ 140737488355328 from hr)).mono ?_))
    rintro e W4 ⟨u1, rfl, hUu1, hb⟩
    refine And.intro (hS.below hb) ?_
    replace hS := hS.below hb
    replace hM := hM.below hb
    clear hO1 hO
    clear hb
    refine oD 6 3 (cD (some 32) 10 #[stv ((sideE s)) (v)] ((plain12_any (sideE s) v _ (show RSl lkc lo hi _ v (sideE s).lk from HL.out.below hM.b hhi) (Nat.le_trans hhi hM.size) (show ((sideE s).lk.length + 1) * 40 ≤ 140737488355328 from hr)).mono ?_))
    rintro e W6 ⟨u2, rfl, hUu2, hb⟩
    refine And.intro (hS.below hb) ?_
    replace hS := hS.below hb
    replace hM := hM.below hb
    replace hUu1 := OwnM.below hUu1 hb
    clear hb
    refine oD 7 2 (cD (some 33) 14 #[stv (sideE s) u1, stv (sideE s) u2] ((same12_any (sideE s) u1 u2 _ (OwnM.rsl hUu1) (Nat.le_refl _) (OwnM.rsl hUu2) (Nat.le_refl _)).mono ?_))
    rintro e W7 ⟨rfl, hb⟩
    refine And.intro (hS.below hb) ?_
    replace hS := hS.below hb
    replace hM := hM.below hb
    clear hb
    refine tD 0 [.val 8 (some 34) (.bool true), .val 9 (some 4) (.bool true)] trivial hS ?_
    refine dD ?_
    try simp only [puts, Tk.put, Act.put, List.setIfInBounds_toArray, List.set_cons_zero, List.set_cons_succ]
    clear hS
    go_wp2_with fail
    go_ret
    exact ⟨rfl, hM.b⟩
  · have HE0 := Lib.hid hE
    have HCL := Lib.hid hc
    clear hE hc
    have ht1 := htk
    obtain ⟨h9, h8, h7, h6⟩ := ht1
    obtain ⟨_, hfr, hnn, _⟩ := errT_all h9
    have HT := Lib.hid htk
    have H8 := Lib.hid h8
    have H7 := Lib.hid h7
    have H6 := Lib.hid h6
    clear htk h9 h8 h7 h6
    go_upto_region 4 with fail
    refine wp_region_fromM (fun W => Mem w none [(X, 50, txc t), (P, 34, stc (sideE s) v)] W) hM ?_
    clear hM
    rintro Y12 hM
    refine tF 2 [.load 0 (some 18) 34 (pt P 0) (stv ((sideE s)) (v)), .load 1 (some 19) 50 (pt X 0) (txv t)] ⟨ld_st (hM.at 1 rfl), ld_tx (hM.at 0 rfl), trivial⟩ ?_
    refine cF (some 20) 12 #[stv ((sideE s)) (v), txv t] ((((esc_apply_any (sideE s) v hs t ht _ (show RSl lkc lo hi _ v (sideE s).lk from HL.out.below hM.b hhi) (Nat.le_trans hhi hM.size) (show ((sideE s).lk.length + 1) * 40 ≤ 140737488355328 from hr)).mono fun _ _ h => HCL.out _ _ _ h)).mono ?_)
    rintro e W1 ⟨v1, rfl, hO, hb⟩
    have hk1 := fun k hk => hO.lt k hk
    replace hO := hO.low hM.size
    replace hM := hM.below hb
    clear hb
    replace hO := hO.alloc (.cells (stc zS nilV).toArray 34)
    refine tF 7 [.val 3 (some 17) (.tuple #[stv (paidE (sideE s) t) v1, .int .i64 E, .bool true]), .val 4 (some 21) (stv (paidE (sideE s) t) v1), .val 5 (some 22) (.int .i64 E), .val 6 (some 23) (.bool true)] trivial ?_
    refine rF (some 5) (pt W1.heap.size 0) (W1.alloc (.cells (stc zS nilV).toArray 34)) ?_
    replace hM := hM.alloc 34 (stc zS nilV)
    generalize World.alloc _ _ = Y13 at *
    generalize hNe : W1.heap.size = N at *
    clear hNe
    have hO1 := OwnL.row hO (B := N) (fun k hk => by have := hk1 k hk; omega) (stc (paidE (sideE s) t) v1).toArray
    refine sF (w' := Y13.setRow N (stc (paidE (sideE s) t) v1).toArray) 34 (pt N 0) (stv (paidE (sideE s) t) v1) (sto_st (hM.at 0 rfl) (stc_len _ _) (paidE (sideE s) t) (OwnL.one hO).1) ?_
    replace hM := hM.set 0 (cs' := stc (paidE (sideE s) t) v1) rfl rfl
    generalize World.setRow _ _ _ = Y14 at *
    replace hO := hO1
    clear hO1
    refine tF 11 [.val 9 (some 6) (.int .i64 E), .val 10 (some 7) (.bool true)] trivial ?_
    refine dF ?_
    try simp only [puts, Tk.put, Act.put, List.setIfInBounds_toArray, List.set_cons_zero, List.set_cons_succ]
    go_upto_region 5 with fail
    refine wp_region_fromM (fun W => Mem w none [(N, 34, stc (paidE (sideE s) t) v1), (X, 50, txc t), (P, 34, stc (sideE s) v)] W ∧ OwnL w.heap.size W v1 (paidE (sideE s) t).lk) ⟨hM, hO⟩ ?_
    clear hM hO
    rintro Y15 ⟨hM, hO⟩
    refine tF 2 [.val 0 (some 24) (.bool true), .val 1 (some 25) (.bool false)] trivial ?_
    refine dF ?_
    try simp only [puts, Tk.put, Act.put, List.setIfInBounds_toArray, List.set_cons_zero, List.set_cons_succ]
    go_upto_region 7 with fail
    refine wp_region_fromM (fun W => Mem w none [(N, 34, stc (paidE (sideE s) t) v1), (X, 50, txc t), (P, 34, stc (sideE s) v)] W ∧ OwnL w.heap.size W v1 (paidE (sideE s) t).lk) ⟨hM, hO⟩ ?_
    clear hM hO
    rintro Y16 ⟨hM, hO⟩
    refine tF 2 [.val 0 (some 35) (.int .i64 E), .alt 1 (some 36) (.bool (E == 0)) (.bool false)] ⟨congrArg Value.bool (beq_eq_false_iff_ne.2 HE0.out), trivial⟩ ?_
    refine dF ?_
    try simp only [puts, Tk.put, Act.put, List.setIfInBounds_toArray, List.set_cons_zero, List.set_cons_succ]
    go_upto_region 9 with fail
    refine wp_region_fromM (fun W => Mem w none [(N, 34, stc (paidE (sideE s) t) v1), (X, 50, txc t), (P, 34, stc (sideE s) v)] W ∧ OwnL w.heap.size W v1 (paidE (sideE s) t).lk) ⟨hM, hO⟩ ?_
    clear hM hO
    rintro Y17 ⟨hM, hO⟩
    refine tF 1 [.load 0 (some 49) 34 (pt P 0) (stv ((sideE s)) (v))] ⟨ld_st (hM.at 2 rfl), trivial⟩ ?_
    refine cF (some 50) 10 #[stv ((sideE s)) (v)] ((plain12_any (sideE s) v _ (show RSl lkc lo hi _ v (sideE s).lk from HL.out.below hM.b hhi) (Nat.le_trans hhi hM.size) (show ((sideE s).lk.length + 1) * 40 ≤ 140737488355328 from hr)).mono ?_)
    rintro e W1 ⟨u1, rfl, hU, hb⟩
    have hk2 := fun k hk => World.ownsRow.lt hU k hk
    replace hO := hO.below hb
    have hk3 := fun k hk => hO.lt k hk
    replace hU := OwnM.low hU hM.size
    replace hM := hM.below hb
    clear hb
    replace hU := hU.alloc (.cells (stc zS nilV).toArray 39)
    replace hO := hO.alloc (.cells (stc zS nilV).toArray 39)
    refine rF (some 8) (pt W1.heap.size 0) (W1.alloc (.cells (stc zS nilV).toArray 39)) ?_
    replace hM := hM.alloc 39 (stc zS nilV)
    generalize World.alloc _ _ = Y18 at *
    generalize hNe : W1.heap.size = G at *
    clear hNe
    have HK2 := Lib.hid hk2
    have HK3 := Lib.hid hk3
    clear hk2 hk3
    have hO1 := OwnL.row hO (B := G) (fun k hk => by have := HK3.out k hk; omega) (stc (sideE s) u1).toArray
    have hU1 := OwnM.row hU (B := G) (fun k hk => by have := HK2.out k hk; omega) (stc (sideE s) u1).toArray
    refine sF (w' := Y18.setRow G (stc (sideE s) u1).toArray) 39 (pt G 0) (stv (sideE s) u1) (rsto_st (hM.at 0 rfl) (stc_len _ _) (sideE s) (OwnM.one hU).1) ?_
    replace hM := hM.set 0 (cs' := stc (sideE s) u1) rfl rfl
    generalize World.setRow _ _ _ = Y19 at *
    replace hO := hO1
    replace hU := hU1
    clear hO1 hU1
    refine dF ?_
    try simp only [puts, Tk.put, Act.put, List.setIfInBounds_toArray, List.set_cons_zero, List.set_cons_succ]
    go_upto_region 10 with fail
    refine wp_region_fromM (fun W => Mem w none [(G, 39, stc (sideE s) u1), (N, 34, stc (paidE (sideE s) t) v1), (X, 50, txc t), (P, 34, stc (sideE s) v)] W ∧ OwnL w.heap.size W v1 (paidE (sideE s) t).lk ∧ OwnM w.heap.size W u1 (sideE s).lk) ⟨hM, hO, hU⟩ ?_
    clear hM hO hU
    rintro Y20 ⟨hM, hO, hU⟩
    refine tF 7 [.val 0 (some 52) (pt X 0), .load 1 (some 53) 3 (pt X 0) (.int .i64 t.fr), .alt 2 (some 54) (.int .i64 (IntKind.i64.wrap (2 * t.fr))) (.int .i64 ((2 * t.fr.toNat : Nat) : Int)), .val 3 (some 55) (pt G 2), .idx 4 (some 56) 36 (pt G 2) (.int .i64 ((2 * t.fr.toNat : Nat) : Int)) (pt G (2 + (2 * t.fr.toNat) * 4)), .load 5 (some 57) 27 (pt G (2 + (2 * t.fr.toNat) * 4)) (wn ((sideE s).pu (2 * t.fr.toNat))), .val 6 (some 58) (wn 1)] ⟨ld_int (hM.at 2 rfl) 0 rfl, congrArg (Value.int .i64) ((IntWalk.i64_in _ (by omega)).trans (show 2 * t.fr = ((2 * t.fr.toNat : Nat) : Int) by omega)), ridx_16 (by omega), ld_puS (s := (sideE s)) (hM.at 0 rfl) (j := 2 * t.fr.toNat) (by omega) (by omega), trivial⟩ ?_
    refine cF (some 59) 19 #[wn ((sideE s).pu (2 * t.fr.toNat)), wn 1] ((refSubN_any (hs.p (2 * t.fr.toNat) (by omega)) m1 _).mono ?_)
    rintro e W1 ⟨rfl, hb⟩
    replace hO := OwnL.below hO hb
    replace hU := OwnM.below hU hb
    replace hM := hM.below hb
    clear hb
    refine tF 11 [.val 8 (some 51) (.tuple #[wn ((sideE s).pu (2 * t.fr.toNat) - 1), .bool (lessB ((sideE s).pu (2 * t.fr.toNat)) 1)]), .val 9 (some 60) (wn ((sideE s).pu (2 * t.fr.toNat) - 1)), .val 10 (some 61) (.bool (lessB ((sideE s).pu (2 * t.fr.toNat)) 1))] trivial ?_
    replace hU := hU.alloc (.cells (ws (nw 0)).toArray 27)
    replace hO := hO.alloc (.cells (ws (nw 0)).toArray 27)
    have hltK := (hM.at 0 rfl).lt
    refine rF (some 9) (pt W1.heap.size 0) (W1.alloc (.cells (ws (nw 0)).toArray 27)) ?_
    replace hM := hM.alloc 27 (ws (nw 0))
    generalize World.alloc _ _ = Y21 at *
    generalize hNe : W1.heap.size = K at *
    clear hNe
    have hO1 := OwnL.row hO (B := K) (fun k hk => by have := HK3.out k hk; omega) (ws (nw ((sideE s).pu (2 * t.fr.toNat) - 1))).toArray
    have hU1 := OwnM.row hU (B := K) (fun k hk => by have := HK2.out k hk; omega) (ws (nw ((sideE s).pu (2 * t.fr.toNat) - 1))).toArray
    refine sF (w' := Y21.setRow K (ws (nw ((sideE s).pu (2 * t.fr.toNat) - 1))).toArray) 27 (pt K 0) (wn ((sideE s).pu (2 * t.fr.toNat) - 1)) (sto_wn (hM.at 0 rfl) _) ?_
    replace hM := hM.set 0 (cs' := ws (nw ((sideE s).pu (2 * t.fr.toNat) - 1))) rfl rfl
    generalize World.setRow _ _ _ = Y22 at *
    replace hO := hO1
    replace hU := hU1
    clear hO1 hU1
    refine tF 14 [.val 13 (some 10) (.bool (lessB ((sideE s).pu (2 * t.fr.toNat)) 1))] trivial ?_
    refine dF ?_
    try simp only [puts, Tk.put, Act.put, List.setIfInBounds_toArray, List.set_cons_zero, List.set_cons_succ]
    go_upto_region 11 with fail
    refine wp_region_fromM (fun W => Mem w none [(K, 27, ws (nw ((sideE s).pu (2 * t.fr.toNat) - 1))), (G, 39, stc (sideE s) u1), (N, 34, stc (paidE (sideE s) t) v1), (X, 50, txc t), (P, 34, stc (sideE s) v)] W ∧ OwnL w.heap.size W v1 (paidE (sideE s) t).lk ∧ OwnM w.heap.size W u1 (sideE s).lk) ⟨hM, hO, hU⟩ ?_
    clear hM hO hU
    rintro Y23 ⟨hM, hO, hU⟩
    refine tF 3 [.val 0 (some 63) (pt G 146), .load 1 (some 64) 27 (pt G 146) (wn (sideE s).bu), .val 2 (some 65) (wn 1)] ⟨rld_bu (s := (sideE s)) (hM.at 1 rfl), trivial⟩ ?_
    refine cF (some 66) 17 #[wn (sideE s).bu, wn 1] ((refAddN_any hs.b m1 _).mono ?_)
    rintro e W1 ⟨rfl, hb⟩
    replace hO := OwnL.below hO hb
    replace hU := OwnM.below hU hb
    replace hM := hM.below hb
    clear hb
    refine tF 7 [.val 4 (some 62) (.tuple #[wn (addN (sideE s).bu 1), .bool (fitB (sideE s).bu 1)]), .val 5 (some 67) (wn (addN (sideE s).bu 1)), .val 6 (some 68) (.bool (fitB (sideE s).bu 1))] trivial ?_
    replace hU := hU.alloc (.cells (ws (nw 0)).toArray 27)
    replace hO := hO.alloc (.cells (ws (nw 0)).toArray 27)
    have hltJ := (hM.at 1 rfl).lt
    refine rF (some 11) (pt W1.heap.size 0) (W1.alloc (.cells (ws (nw 0)).toArray 27)) ?_
    replace hM := hM.alloc 27 (ws (nw 0))
    generalize World.alloc _ _ = Y24 at *
    generalize hNe : W1.heap.size = J at *
    clear hNe
    have hO1 := OwnL.row hO (B := J) (fun k hk => by have := HK3.out k hk; omega) (ws (nw (addN (sideE s).bu 1))).toArray
    have hU1 := OwnM.row hU (B := J) (fun k hk => by have := HK2.out k hk; omega) (ws (nw (addN (sideE s).bu 1))).toArray
    refine sF (w' := Y24.setRow J (ws (nw (addN (sideE s).bu 1))).toArray) 27 (pt J 0) (wn (addN (sideE s).bu 1)) (sto_wn (hM.at 0 rfl) _) ?_
    replace hM := hM.set 0 (cs' := ws (nw (addN (sideE s).bu 1))) rfl rfl
    generalize World.setRow _ _ _ = Y25 at *
    replace hO := hO1
    replace hU := hU1
    clear hO1 hU1
    refine tF 10 [.val 9 (some 12) (.bool (fitB (sideE s).bu 1))] trivial ?_
    refine dF ?_
    try simp only [puts, Tk.put, Act.put, List.setIfInBounds_toArray, List.set_cons_zero, List.set_cons_succ]
    rw [show addN (sideE s).bu 1 = (sideE s).bu + 1 from if_pos H6.out] at hM
    go_upto_region 12 with fail
    refine wp_region_M (fun W => Mem w none [(J, 27, ws (nw ((sideE s).bu + 1))), (K, 27, ws (nw ((sideE s).pu (2 * t.fr.toNat) - 1))), (N, 34, stc (paidE (sideE s) t) v1), (X, 50, txc t), (P, 34, stc (sideE s) v)] W) (fun W => Mem w none [(J, 27, ws (nw ((sideE s).bu + 1))), (K, 27, ws (nw ((sideE s).pu (2 * t.fr.toNat) - 1))), (G, 39, stc (sideE s) u1), (N, 34, stc (paidE (sideE s) t) v1), (X, 50, txc t), (P, 34, stc (sideE s) v)] W ∧ OwnL w.heap.size W v1 (paidE (sideE s) t).lk ∧ OwnM w.heap.size W u1 (sideE s).lk) hmx ⟨hM.drew, hO.drew, hU.drew⟩ ?_
    clear hM hO hU
    rintro Y26 ⟨hM, hO, hU⟩
    have hS := hM.sub (.cons_cons _ (.cons_cons _ (.cons _ (.cons_cons _ (.cons_cons _ (.cons_cons _ .slnil))))))
    refine tD 3 [.val 0 (some 69) (pt X 0), .load 1 (some 70) 3 (pt X 0) (.int .i64 t.fr), .alt 2 (some 71) (.int .i64 (IntKind.i64.wrap (2 * t.fr))) (.int .i64 ((2 * t.fr.toNat : Nat) : Int)), .load 3 (some 72) 27 (pt K 0) (wn ((sideE s).pu (2 * t.fr.toNat) - 1)), .load 4 (some 73) 27 (pt J 0) (wn ((sideE s).bu + 1)), .val 5 (some 74) (pt G 2), .idx 6 (some 75) 36 (pt G 2) (.int .i64 ((2 * t.fr.toNat : Nat) : Int)) (pt G (2 + (2 * t.fr.toNat) * 4))] ⟨fun W h => ld_int (h.at 3 rfl) 0 rfl, congrArg (Value.int .i64) ((IntWalk.i64_in _ (by omega)).trans (show 2 * t.fr = ((2 * t.fr.toNat : Nat) : Int) by omega)), fun W h => load_wn (h.at 1 rfl), fun W h => load_wn (h.at 0 rfl), fun W h => ridx_16 (by omega), trivial⟩ hS ?_
    have hO1 := OwnL.row hO (B := G) (fun k hk => by have := HK3.out k hk; omega) (stc ({ (sideE s) with pu := updB (sideE s).pu (2 * t.fr.toNat) ((sideE s).pu (2 * t.fr.toNat) - 1) }) u1).toArray
    have hU1 := OwnM.row hU (B := G) (fun k hk => by have := HK2.out k hk; omega) (stc ({ (sideE s) with pu := updB (sideE s).pu (2 * t.fr.toNat) ((sideE s).pu (2 * t.fr.toNat) - 1) }) u1).toArray
    have hM1 := hM.set 2 (cs' := stc ({ (sideE s) with pu := updB (sideE s).pu (2 * t.fr.toNat) ((sideE s).pu (2 * t.fr.toNat) - 1) }) u1) rfl rfl
    refine oD 7 2 (sD (w' := Y26.setRow G (stc ({ (sideE s) with pu := updB (sideE s).pu (2 * t.fr.toNat) ((sideE s).pu (2 * t.fr.toNat) - 1) }) u1).toArray) 27 (pt G (2 + (2 * t.fr.toNat) * 4)) (wn ((sideE s).pu (2 * t.fr.toNat) - 1)) (sto_puS (s := (sideE s)) (hM.at 2 rfl) (j := 2 * t.fr.toNat) (by omega) (by omega) _) (hM1.sub (.cons_cons _ (.cons_cons _ (.cons _ (.cons_cons _ (.cons_cons _ (.cons_cons _ .slnil))))))) ?_)
    replace hS := hM1.sub (.cons_cons _ (.cons_cons _ (.cons _ (.cons_cons _ (.cons_cons _ (.cons_cons _ .slnil))))))
    replace hM := hM1
    clear hM1
    generalize World.setRow _ _ _ = Y27 at *
    replace hO := hO1
    replace hU := hU1
    clear hO1 hU1
    refine tD 1 [.val 8 (some 76) (pt G 146)] trivial hS ?_
    have hO1 := OwnL.row hO (B := G) (fun k hk => by have := HK3.out k hk; omega) (stc ({ (sideE s) with pu := updB (sideE s).pu (2 * t.fr.toNat) ((sideE s).pu (2 * t.fr.toNat) - 1), bu := (sideE s).bu + 1 }) u1).toArray
    have hU1 := OwnM.row hU (B := G) (fun k hk => by have := HK2.out k hk; omega) (stc ({ (sideE s) with pu := updB (sideE s).pu (2 * t.fr.toNat) ((sideE s).pu (2 * t.fr.toNat) - 1), bu := (sideE s).bu + 1 }) u1).toArray
    have hM1 := hM.set 2 (cs' := stc ({ (sideE s) with pu := updB (sideE s).pu (2 * t.fr.toNat) ((sideE s).pu (2 * t.fr.toNat) - 1), bu := (sideE s).bu + 1 }) u1) rfl rfl
    refine oD 9 0 (sD (w' := Y27.setRow G (stc ({ (sideE s) with pu := updB (sideE s).pu (2 * t.fr.toNat) ((sideE s).pu (2 * t.fr.toNat) - 1), bu := (sideE s).bu + 1 }) u1).toArray) 27 (pt G 146) (wn ((sideE s).bu + 1)) (sto_bu (s := { (sideE s) with pu := updB (sideE s).pu (2 * t.fr.toNat) ((sideE s).pu (2 * t.fr.toNat) - 1) }) (hM.at 2 rfl) ((sideE s).bu + 1)) (hM1.sub (.cons_cons _ (.cons_cons _ (.cons _ (.cons_cons _ (.cons_cons _ (.cons_cons _ .slnil))))))) ?_)
    replace hS := hM1.sub (.cons_cons _ (.cons_cons _ (.cons _ (.cons_cons _ (.cons_cons _ (.cons_cons _ .slnil))))))
    replace hM := hM1
    clear hM1
    generalize World.setRow _ _ _ = Y28 at *
    replace hO := hO1
    replace hU := hU1
    clear hO1 hU1
    refine dD ?_
    try simp only [puts, Tk.put, Act.put, List.setIfInBounds_toArray, List.set_cons_zero, List.set_cons_succ]
    clear hS
    go_upto_region 13 with fail
    refine wp_region_fromM (fun W => Mem w none [(J, 27, ws (nw ((sideE s).bu + 1))), (K, 27, ws (nw ((sideE s).pu (2 * t.fr.toNat) - 1))), (G, 39, stc ({ (sideE s) with pu := updB (sideE s).pu (2 * t.fr.toNat) ((sideE s).pu (2 * t.fr.toNat) - 1), bu := (sideE s).bu + 1 }) u1), (N, 34, stc (paidE (sideE s) t) v1), (X, 50, txc t), (P, 34, stc (sideE s) v)] W ∧ OwnL w.heap.size W v1 (paidE (sideE s) t).lk ∧ OwnM w.heap.size W u1 (sideE s).lk) ⟨hM, hO, hU⟩ ?_
    clear hM hO hU
    rintro Y29 ⟨hM, hO, hU⟩
    refine tF 8 [.val 0 (some 77) (pt X 0), .load 1 (some 78) 3 (pt X 0) (.int .i64 t.fr), .val 2 (some 79) (pt G 130), .idx 3 (some 80) 31 (pt G 130) (.int .i64 t.fr) (pt G (130 + t.fr.toNat)), .load 4 (some 81) 3 (pt G (130 + t.fr.toNat)) (.int .i64 ((sideE s).no (t.fr.toNat))), .alt 5 (some 82) (.int .i64 (IntKind.i64.wrap ((sideE s).no t.fr.toNat + 1))) (.int .i64 ((sideE s).no t.fr.toNat + 1)), .val 6 (some 83) (pt G 130), .idx 7 (some 84) 31 (pt G 130) (.int .i64 t.fr) (pt G (130 + t.fr.toNat))] ⟨ld_int (hM.at 4 rfl) 0 rfl, idx_noI hfr, ld_no (s := { (sideE s) with pu := updB (sideE s).pu (2 * t.fr.toNat) ((sideE s).pu (2 * t.fr.toNat) - 1), bu := (sideE s).bu + 1 }) (hM.at 2 rfl) (by omega), congrArg (Value.int .i64) (IntWalk.i64_in _ (by have := hnn; have := H8.out; omega)), idx_noI hfr, trivial⟩ ?_
    have hO1 := OwnL.row hO (B := G) (fun k hk => by have := HK3.out k hk; omega) (stc ({ (sideE s) with pu := updB (sideE s).pu (2 * t.fr.toNat) ((sideE s).pu (2 * t.fr.toNat) - 1), bu := (sideE s).bu + 1, no := updNo (sideE s).no t.fr.toNat ((sideE s).no t.fr.toNat + 1) }) u1).toArray
    have hU1 := OwnM.row hU (B := G) (fun k hk => by have := HK2.out k hk; omega) (stc ({ (sideE s) with pu := updB (sideE s).pu (2 * t.fr.toNat) ((sideE s).pu (2 * t.fr.toNat) - 1), bu := (sideE s).bu + 1, no := updNo (sideE s).no t.fr.toNat ((sideE s).no t.fr.toNat + 1) }) u1).toArray
    refine sF (w' := Y29.setRow G (stc ({ (sideE s) with pu := updB (sideE s).pu (2 * t.fr.toNat) ((sideE s).pu (2 * t.fr.toNat) - 1), bu := (sideE s).bu + 1, no := updNo (sideE s).no t.fr.toNat ((sideE s).no t.fr.toNat + 1) }) u1).toArray) 3 (pt G (130 + t.fr.toNat)) (.int .i64 ((sideE s).no t.fr.toNat + 1)) (sto_no (s := { (sideE s) with pu := updB (sideE s).pu (2 * t.fr.toNat) ((sideE s).pu (2 * t.fr.toNat) - 1), bu := (sideE s).bu + 1 }) (hM.at 2 rfl) (show t.fr.toNat < 8 by omega) _) ?_
    replace hM := hM.set 2 (cs' := stc ({ (sideE s) with pu := updB (sideE s).pu (2 * t.fr.toNat) ((sideE s).pu (2 * t.fr.toNat) - 1), bu := (sideE s).bu + 1, no := updNo (sideE s).no t.fr.toNat ((sideE s).no t.fr.toNat + 1) }) u1) rfl rfl
    generalize World.setRow _ _ _ = Y30 at *
    replace hO := hO1
    replace hU := hU1
    clear hO1 hU1
    refine dF ?_
    try simp only [puts, Tk.put, Act.put, List.setIfInBounds_toArray, List.set_cons_zero, List.set_cons_succ]
    rw [paid_up] at hM
    replace hU : OwnM w.heap.size _ u1 (paidE (sideE s) t).lk := hU
    go_upto_region 14 with fail
    refine wp_region_M (fun W => Mem w none [(J, 27, ws (nw ((sideE s).bu + 1))), (K, 27, ws (nw ((sideE s).pu (2 * t.fr.toNat) - 1))), (G, 39, stc (paidE (sideE s) t) u1), (N, 34, stc (paidE (sideE s) t) v1), (X, 50, txc t), (P, 34, stc (sideE s) v)] W) (fun W => Mem w none [(J, 27, ws (nw ((sideE s).bu + 1))), (K, 27, ws (nw ((sideE s).pu (2 * t.fr.toNat) - 1))), (G, 39, stc (paidE (sideE s) t) u1), (N, 34, stc (paidE (sideE s) t) v1), (X, 50, txc t), (P, 34, stc (sideE s) v)] W ∧ OwnL w.heap.size W v1 (paidE (sideE s) t).lk ∧ OwnM w.heap.size W u1 (paidE (sideE s) t).lk) hmx ⟨hM.drew, hO.drew, hU.drew⟩ ?_
    clear hM hO hU
    rintro Y31 ⟨hM, hO, hU⟩
    have hS := hM.sub (.cons_cons _ (.cons_cons _ (.cons_cons _ (.cons_cons _ (.cons_cons _ (.cons_cons _ .slnil))))))
    refine tD 4 [.alt 0 (some 85) (.bool (lessB ((sideE s).pu (2 * t.fr.toNat)) 1)) (.bool true), .val 1 (some 86) (.bool true), .alt 2 (some 87) (.bool (fitB (sideE s).bu 1)) (.bool true), .val 3 (some 88) (.bool true), .val 4 (some 89) (.bool true), .load 5 (some 90) 34 (pt N 0) (stv ((paidE (sideE s) t)) (v1)), .load 7 (some 92) 39 (pt G 0) (stv ((paidE (sideE s) t)) (u1))] ⟨congrArg Value.bool (decide_eq_true H7.out), congrArg Value.bool (decide_eq_true H6.out), fun W h => ld_st (h.at 3 rfl), fun W h => rld_st (s := (paidE (sideE s) t)) (h.at 2 rfl), trivial⟩ hS ?_
    have hO1 := OwnL.rsl hO
    refine oD 6 3 (cD (some 91) 10 #[stv ((paidE (sideE s) t)) (v1)] ((plain12_any (paidE (sideE s) t) v1 _ hO1 (Nat.le_refl _) (show ((paidE (sideE s) t).lk.length + 1) * 40 ≤ 140737488355328 from hr)).mono ?_))
    rintro e W6 ⟨u2, rfl, hUu2, hb⟩
    refine And.intro (hS.below hb) ?_
    replace hS := hS.below hb
    replace hM := hM.below hb
    replace hU := OwnM.below hU hb
    clear hO1 hO
    clear hb
    refine oD 8 2 (cD (some 93) 14 #[stv (paidE (sideE s) t) u2, stv ((paidE (sideE s) t)) (u1)] ((same12_any (paidE (sideE s) t) u2 u1 _ (OwnM.rsl hUu2) (Nat.le_refl _) (OwnM.rsl hU) (Nat.le_refl _)).mono ?_))
    rintro e W8 ⟨rfl, hb⟩
    refine And.intro (hS.below hb) ?_
    replace hS := hS.below hb
    replace hM := hM.below hb
    clear hb
    refine tD 0 [.val 9 (some 94) (.bool true), .val 10 (some 4) (.bool true)] trivial hS ?_
    refine dD ?_
    try simp only [puts, Tk.put, Act.put, List.setIfInBounds_toArray, List.set_cons_zero, List.set_cons_succ]
    clear hS
    go_wp2_with fail
    go_ret
    exact ⟨rfl, hM.b⟩
  · have HD0 := Lib.hid hD
    have HCL := Lib.hid hc
    clear hD hc
    have ht1 := htk
    obtain ⟨h9, h8, h7, h6⟩ := ht1
    obtain ⟨_, hfr, hnn, _⟩ := errT_all h9
    have HT := Lib.hid htk
    have H8 := Lib.hid h8
    have H7 := Lib.hid h7
    have H6 := Lib.hid h6
    clear htk h9 h8 h7 h6
    go_upto_region 4 with fail
    refine wp_region_fromM (fun W => Mem w none [(X, 50, txc t), (P, 34, stc (sideE s) v)] W) hM ?_
    clear hM
    rintro Y32 hM
    refine tF 2 [.load 0 (some 18) 34 (pt P 0) (stv ((sideE s)) (v)), .load 1 (some 19) 50 (pt X 0) (txv t)] ⟨ld_st (hM.at 1 rfl), ld_tx (hM.at 0 rfl), trivial⟩ ?_
    refine cF (some 20) 12 #[stv ((sideE s)) (v), txv t] ((((esc_apply_any (sideE s) v hs t ht _ (show RSl lkc lo hi _ v (sideE s).lk from HL.out.below hM.b hhi) (Nat.le_trans hhi hM.size) (show ((sideE s).lk.length + 1) * 40 ≤ 140737488355328 from hr)).mono fun _ _ h => HCL.out _ _ _ h)).mono ?_)
    rintro e W1 ⟨v1, rfl, hO, hb⟩
    have hk1 := fun k hk => hO.lt k hk
    replace hO := hO.low hM.size
    replace hM := hM.below hb
    clear hb
    replace hO := hO.alloc (.cells (stc zS nilV).toArray 34)
    refine tF 7 [.val 3 (some 17) (.tuple #[stv D v1, .int .i64 0, .bool true]), .val 4 (some 21) (stv D v1), .val 5 (some 22) (.int .i64 0), .val 6 (some 23) (.bool true)] trivial ?_
    refine rF (some 5) (pt W1.heap.size 0) (W1.alloc (.cells (stc zS nilV).toArray 34)) ?_
    replace hM := hM.alloc 34 (stc zS nilV)
    generalize World.alloc _ _ = Y33 at *
    generalize hNe : W1.heap.size = N at *
    clear hNe
    have hO1 := OwnL.row hO (B := N) (fun k hk => by have := hk1 k hk; omega) (stc D v1).toArray
    refine sF (w' := Y33.setRow N (stc D v1).toArray) 34 (pt N 0) (stv D v1) (sto_st (hM.at 0 rfl) (stc_len _ _) D (OwnL.one hO).1) ?_
    replace hM := hM.set 0 (cs' := stc D v1) rfl rfl
    generalize World.setRow _ _ _ = Y34 at *
    replace hO := hO1
    clear hO1
    refine tF 11 [.val 9 (some 6) (.int .i64 0), .val 10 (some 7) (.bool true)] trivial ?_
    refine dF ?_
    try simp only [puts, Tk.put, Act.put, List.setIfInBounds_toArray, List.set_cons_zero, List.set_cons_succ]
    go_upto_region 5 with fail
    refine wp_region_fromM (fun W => Mem w none [(N, 34, stc D v1), (X, 50, txc t), (P, 34, stc (sideE s) v)] W ∧ OwnL w.heap.size W v1 D.lk) ⟨hM, hO⟩ ?_
    clear hM hO
    rintro Y35 ⟨hM, hO⟩
    refine tF 2 [.val 0 (some 24) (.bool true), .val 1 (some 25) (.bool false)] trivial ?_
    refine dF ?_
    try simp only [puts, Tk.put, Act.put, List.setIfInBounds_toArray, List.set_cons_zero, List.set_cons_succ]
    go_upto_region 7 with fail
    refine wp_region_fromM (fun W => Mem w none [(N, 34, stc D v1), (X, 50, txc t), (P, 34, stc (sideE s) v)] W ∧ OwnL w.heap.size W v1 D.lk) ⟨hM, hO⟩ ?_
    clear hM hO
    rintro Y36 ⟨hM, hO⟩
    refine tF 2 [.val 0 (some 35) (.int .i64 0), .val 1 (some 36) (.bool true)] trivial ?_
    refine dF ?_
    try simp only [puts, Tk.put, Act.put, List.setIfInBounds_toArray, List.set_cons_zero, List.set_cons_succ]
    go_upto_region 8 with fail
    refine wp_region_M (fun W => Mem w none [(N, 34, stc D v1), (X, 50, txc t), (P, 34, stc (sideE s) v)] W) (fun W => Mem w none [(N, 34, stc D v1), (X, 50, txc t), (P, 34, stc (sideE s) v)] W ∧ OwnL w.heap.size W v1 D.lk) hmx ⟨hM.drew, hO.drew⟩ ?_
    clear hM hO
    rintro Y37 ⟨hM, hO⟩
    have hS := hM.sub (.cons_cons _ (.cons_cons _ (.cons_cons _ .slnil)))
    refine tD 0 [.val 0 (some 37) (pt X 0), .load 1 (some 38) 3 (pt X 0) (.int .i64 t.fr), .val 2 (some 39) (pt N 130), .idx 3 (some 40) 31 (pt N 130) (.int .i64 t.fr) (pt N (130 + t.fr.toNat)), .load 4 (some 41) 3 (pt N (130 + t.fr.toNat)) (.int .i64 (D.no (t.fr.toNat))), .val 5 (some 42) (pt X 0), .load 6 (some 43) 3 (pt X 0) (.int .i64 t.fr), .val 7 (some 44) (pt P 130), .idx 8 (some 45) 31 (pt P 130) (.int .i64 t.fr) (pt P (130 + t.fr.toNat)), .load 9 (some 46) 3 (pt P (130 + t.fr.toNat)) (.int .i64 ((sideE s).no (t.fr.toNat))), .alt 10 (some 47) (.int .i64 (IntKind.i64.wrap (D.no t.fr.toNat - (sideE s).no t.fr.toNat))) (.int .i64 1), .val 11 (some 48) (.bool true), .val 12 (some 4) (.bool true)] ⟨fun W h => ld_int (h.at 1 rfl) 0 rfl, fun W h => idx_noI hfr, fun W h => ld_no (s := D) (h.at 0 rfl) (by omega), fun W h => ld_int (h.at 1 rfl) 0 rfl, fun W h => idx_noI hfr, fun W h => ld_no (s := (sideE s)) (h.at 2 rfl) (by omega), congrArg (Value.int .i64) (by rw [HD0.out, paid_no]; rfl), trivial⟩ hS ?_
    refine dD ?_
    try simp only [puts, Tk.put, Act.put, List.setIfInBounds_toArray, List.set_cons_zero, List.set_cons_succ]
    clear hS
    go_wp2_with fail
    go_ret
    exact ⟨rfl, hM.b⟩
end Go.Proofs.YthhmdgmmeedhdaaGreat
namespace Go.Proofs.YthhmdgmmeedhdaaGreat
open Go.ChangeShapes Go.WideShapes Go.ChangeAt Go.RowKit Go.Deep
open Go.ChangeMaps (open_string)
set_option maxRecDepth 100000 in
theorem escrowReverts_lifted (os : Os) (started : os.Started) (H : Type) (enc : TypeId × Value → H) :
    ReturnsInHanded {} Tryz.checked os 5 .any (Rows.escrowRevertsSpec.pre6 enc Tryz.prog Tryz.f5 Rows.escrowRevertsRow.domain false) (Rows.escrowRevertsSpec.post enc Tryz.prog Tryz.f5 false true false false) := by
  refine returnsInHanded_of_change_sized (C := Tryz.checked) Tryz.own started (by kernel_rfl) Tryz.func5
    (ChangeSpec.witness6 (enc := enc) (C := Tryz.checked) false ⟨#[], #[.agg #[.int .i64 0, .int .i64 0, .int .u64 0, .int .u64 0, .int .u64 0, .int .u64 0, .int .u64 0, .int .u64 0, .int .u64 0, .int .u64 0, .int .u64 0, .int .u64 0, .int .u64 0, .int .u64 0, .int .u64 0, .int .u64 0, .int .u64 0, .int .u64 0, .int .u64 0, .int .u64 0, .int .u64 0, .int .u64 0, .int .u64 0, .int .u64 0, .int .u64 0, .int .u64 0, .int .u64 0, .int .u64 0, .int .u64 0, .int .u64 0, .int .u64 0, .int .u64 0, .int .u64 0, .int .u64 0, .int .u64 0, .int .u64 0, .int .u64 0, .int .u64 0, .int .u64 0, .int .u64 0, .int .u64 0, .int .u64 0, .int .u64 0, .int .u64 0, .int .u64 0, .int .u64 0, .int .u64 0, .int .u64 0, .int .u64 0, .int .u64 0, .int .u64 0, .int .u64 0, .int .u64 0, .int .u64 0, .int .u64 0, .int .u64 0, .int .u64 0, .int .u64 0, .int .u64 0, .int .u64 0, .int .u64 0, .int .u64 0, .int .u64 0, .int .u64 0, .int .u64 0, .int .u64 0, .int .u64 0, .int .u64 0, .int .u64 0, .int .u64 0, .int .u64 0, .int .u64 0, .int .u64 0, .int .u64 0, .int .u64 0, .int .u64 0, .int .u64 0, .int .u64 0, .int .u64 0, .int .u64 0, .int .u64 0, .int .u64 0, .int .u64 0, .int .u64 0, .int .u64 0, .int .u64 0, .int .u64 0, .int .u64 0, .int .u64 0, .int .u64 0, .int .u64 0, .int .u64 0, .int .u64 0, .int .u64 0, .int .u64 0, .int .u64 0, .int .u64 0, .int .u64 0, .int .u64 0, .int .u64 0, .int .u64 0, .int .u64 0, .int .u64 0, .int .u64 0, .int .u64 0, .int .u64 0, .int .u64 0, .int .u64 0, .int .u64 0, .int .u64 0, .int .u64 0, .int .u64 0, .int .u64 0, .int .u64 0, .int .u64 0, .int .u64 0, .int .u64 0, .int .u64 0, .int .u64 0, .int .u64 0, .int .u64 0, .int .u64 0, .int .u64 0, .int .u64 0, .int .u64 0, .int .u64 0, .int .u64 0, .int .u64 0, .int .u64 0, .int .u64 0, .int .i64 0, .int .i64 0, .int .i64 0, .int .i64 0, .int .i64 0, .int .i64 0, .int .i64 0, .int .i64 0, .int .u64 0, .int .u64 0, .int .u64 0, .int .u64 0, .int .u64 0, .int .u64 0, .int .u64 0, .int .u64 0, .int .u64 0, .int .u64 0, .int .u64 0, .int .u64 0, .slice none 0 0], .agg #[.int .i64 0, .int .i64 0, .int .i64 0, .int .i64 0, .int .u64 0, .int .u64 0, .int .u64 0, .int .u64 0, .int .i64 0, .string ⟨#[]⟩, .int .i64 0, .int .i64 0, .int .i64 0, .int .i64 0, .string ⟨#[]⟩, .int .u64 0, .int .u64 0, .int .u64 0, .int .u64 0, .int .i64 0, .int .u64 0, .int .u64 0, .int .u64 0, .int .u64 0, .string ⟨#[]⟩]], []⟩ 8 (by kernel_rfl) (by kernel_rfl) (by kernel_rfl) (by kernel_rfl)) ?_
  intro W base args ds gs before hval0 hW hcnd hsz0 _
  have hval : ∀ (j : Nat) t v, Tryz.f5.params[j]? = some t → args[j]? = some v → Value.okWide Tryz.prog W .any base t v := hval0
  have hW' := hW
  obtain ⟨p, q, hA0, hV, rfl, hfz, hnd⟩ := hW
  have hA : DataW.TrodAll enc Tryz.prog W 0 (fun _ => true) true Tryz.f5.params.toList args.toList ds p := hA0
  have hsz : (DataW.weightsEach Tryz.prog (Tryz.f5.params.toList ++ Rows.escrowRevertsSpec.plain.varTypes Tryz.prog) (ds ++ gs)).all (· ≤ reachBytes) = true := hsz0
  rw [Tryz.params5] at hA hval hsz
  obtain ⟨v0, v1, d0, d1, p0, p1, rfl, rfl, rfl, h0, h1⟩ := trodAll_two hA
  obtain ⟨rfl, rfl⟩ := trodVars_none hV
  have k0 := h0
  have k1 := h1
  have lt0 : ∀ x ∈ p0, x.block < W.heap.size := by obtain ⟨m, hm⟩ := k0; exact DataW.trod_lt m _ _ _ hm
  have lt1 : ∀ x ∈ p1, x.block < W.heap.size := by obtain ⟨m, hm⟩ := k1; exact DataW.trod_lt m _ _ _ hm
  obtain ⟨s0, lv0, rfl, hp0, hva0, hhe0, hbu0, hsl0, hln0⟩ := open_state (hval 0 34 v0 rfl rfl) h0 (fun n hn => sized_in hsz (j := 0) (t := 34) rfl rfl n hn)
  obtain ⟨i1, rfl, hx1⟩ := open_tx (hval 1 50 v1 rfl rfl) h1
  clear hA0 hval0
  refine (escrowReverts_any s0 lv0 hp0 hva0 hhe0 hbu0 i1 hx1 W hsl0 (Nat.le_refl _) (by omega)).mono fun e W' ⟨he, bel⟩ => ?_
  subst he
  exact ⟨_, rfl, _, _, _, [], _, [], hW', trodAll_mk1 (shut_bool Tryz.underlying4 _), (trodAll_mk2 (Below.trod Tryz.laidOut (by kernel_rfl) (of_decide_eq_true (by kernel_rfl)) k0 bel lt0) (Below.trod Tryz.laidOut (by kernel_rfl) (of_decide_eq_true (by kernel_rfl)) k1 bel lt1)), rfl, bel.frame _, fun h => by cases h⟩
theorem escrowReverts_over : Rows.escrowRevertsRow.holds Tryz.pinned (OpenSpec.ofChange Rows.escrowRevertsSpec) :=
  OpenClaim.holds_of_wide 5 Tryz.f5 rfl rfl rfl rfl rfl rfl rfl ⟨rfl, rfl, rfl, rfl, rfl⟩ rfl rfl rfl rfl rfl (by kernel_rfl) Tryz.func5 (by kernel_rfl)
    (of_decide_eq_true (by kernel_rfl)) (by unfold Func.isWrapper; first | (rw [if_pos (by decide +kernel)]; kernel_rfl) | (rw [if_neg (by decide +kernel)]; exact ⟨rfl, rfl⟩))
    (fun os started H enc _ => escrowReverts_lifted os started H enc)
theorem escrowReverts_proved : Rows.EscrowRevertsSaid := escrowReverts_over
end Go.Proofs.YthhmdgmmeedhdaaGreat
