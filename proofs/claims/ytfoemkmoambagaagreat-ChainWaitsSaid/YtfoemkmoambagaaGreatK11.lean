/-
  escrow: a transaction is applied; The program's order of things and the page's come to the same; The page: what is held; a lock's place; is an act signed?; a lock that is open; a lock that is ended; The law: an error's number; a state whose side is one of both; '==' of two arrays is that of their elements, one by one; '==' of books; '!=' and '==' of arrays and of structs, as a region in order meet
-/
import Derived.Deep.RegionHeld3
import Derived.Outline
import Derived.Deep.Cut
import Derived.Deep.CutBlock
import Derived.Deep.DeepCutAuto
import Derived.LoopTactic
import Derived.Laws.StructEq
import Derived.Deep.WholeRow
import Derived.Maps.AppendAt
import Derived.OwnWalk
import Derived.Test.YtfoemkmoambagaaGreatK10
namespace Go.Proofs.YtfoemkmoambagaaGreat
open Go.RowKit Go.Shelf
theorem AttR.ok {s : Es} {p : Es × Int} {w W' : World} {e : Ending} (h : AttR s p w e W') (hp : p.2 = 0) : ∃ v', e = .returned (.tuple #[stv p.1 v', .int .i64 0]) ∧ OwnL w.heap.size W' v' p.1.lk ∧ Below w.heap.size w W' := by
  obtain ⟨v', h1, h2, h3⟩ := h
  rw [if_pos hp, hp] at h1
  rw [if_pos hp] at h2
  exact ⟨v', h1, h2, h3⟩
theorem AttR.no {s : Es} {p : Es × Int} {w W' : World} {e : Ending} (h : AttR s p w e W') (hp : p.2 ≠ 0) : ∃ v', e = .returned (.tuple #[stv s v', .int .i64 p.2]) ∧ OwnL w.heap.size W' v' s.lk ∧ Below w.heap.size w W' := by
  obtain ⟨v', h1, h2, h3⟩ := h
  rw [if_neg hp] at h1 h2
  exact ⟨v', h1, h2, h3⟩
theorem chg_ok {s : Es} {t : Tr} (hs : OkE s) (h : (chgE s t).2 = 0) : errT t = 0 ∧ OkE (chgE s t).1 ∧ (chgE s t).1.lk = s.lk := by
  unfold chgE at h ⊢
  by_cases e1 : errT t ≠ 0
  · rw [if_pos e1] at h; exact absurd h e1
  · rw [if_neg e1] at h ⊢
    by_cases e2 : t.no ≠ s.no t.fr.toNat
    · rw [if_pos e2] at h; exact absurd h (show ¬ (20 : Int) = 0 by decide)
    · rw [if_neg e2] at h ⊢
      by_cases e3 : (takeB s.pu t.fr 0 1).2 ≠ 0
      · rw [if_pos e3] at h; exact absurd h (show ¬ (21 : Int) = 0 by decide)
      · rw [if_neg e3] at h ⊢
        by_cases e4 : ¬ s.bu + 1 < M4
        · rw [if_pos e4] at h; exact absurd h (show ¬ (21 : Int) = 0 by decide)
        · rw [if_neg e4]
          exact ⟨Decidable.not_not.1 e1, ⟨hs.t0, hs.t1, hs.d, okK_take hs.p _ _ _, hs.v, hs.h, Decidable.not_not.1 e4⟩, rfl⟩
theorem apply1_any (s : Es) (v : Value) (hs : OkE s) (t : Tr) {B b0 X : Nat} (w : World) (hBb : B < b0) (hb0 : b0 ≤ w.heap.size) (hB : Blk w B 35 (stc s v)) (ho : OwnL b0 w v s.lk) (hX : Blk w X 44 (txc t)) :
    Calls Tryz.prog 37 #[.pointer (some ⟨B, 0, none⟩), .pointer (some ⟨X, 0, none⟩)] w (EndL w B b0 (chgE s t)) := by
  go_enter Tryz.func37, Tryz.ntmps37
  go_upto_region 0 with fail
  refine wp_region_from ?_
  refine tF 2 [.val 0 (some 3) (pt B 0), .load 1 (some 4) 44 (pt X 0) (txv t)] ⟨ld_tx hX, trivial⟩ ?_
  refine cF (some 5) 38 #[pt B 0, txv t] ((charge_any s v hs t w hB).mono ?_)
  rintro e W1 h
  have fin : EndL w B b0 (chgE s t) e W1 := by
    by_cases h0 : (chgE s t).2 = 0
    · exact EndL.of (grownBy_refl w _) hb0 hBb (by rw [(chg_ok hs h0).2.2]; exact ho) h rfl
    · exact EndL.fail (grownBy_refl w _) hb0 h h0 rfl
  rcases h.two with ⟨h0, rfl, _, _⟩ | ⟨h0, rfl, _⟩
  case inr => exact And.intro rfl fin
  clear h h0
  refine dF ?_
  try simp only [puts, Tk.put, Act.put, List.setIfInBounds_toArray, List.set_cons_zero, List.set_cons_succ]
  go_wp2_with fail
  go_end0
  exact fin
theorem apply2_any (s : Es) (v : Value) (hs : OkE s) (t : Tr) (ht : OkT t) (he : errT t = 0) {B b0 X : Nat} (w : World) (hBb : B < b0) (hb0 : b0 ≤ w.heap.size) (hB : Blk w B 35 (stc s v)) (ho : OwnL b0 w v s.lk) (hr : (s.lk.length + 1) * 40 ≤ 140737488355328) (hX : Blk w X 44 (txc t)) :
    Calls Tryz.prog 39 #[.pointer (some ⟨B, 0, none⟩), .pointer (some ⟨X, 0, none⟩)] w (EndL w B b0 (doP s t)) := by
  go_enter Tryz.func39, Tryz.ntmps39
  go_upto_region 0 with fail
  refine wp_region_from ?_
  refine tF 2 [.val 0 (some 3) (pt B 0), .load 1 (some 4) 44 (pt X 0) (txv t)] ⟨ld_tx hX, trivial⟩ ?_
  refine cF (some 5) 40 #[pt B 0, txv t] ((do_any s v hs t ht he w hBb hb0 hB ho hr).mono ?_)
  rintro e W1 h
  have fin := h
  rcases h.two with ⟨h0, rfl, _, _⟩ | ⟨h0, rfl, _⟩
  case inr => exact And.intro rfl fin
  clear h h0
  refine dF ?_
  try simp only [puts, Tk.put, Act.put, List.setIfInBounds_toArray, List.set_cons_zero, List.set_cons_succ]
  go_wp2_with fail
  go_end0
  exact fin
def applyP (s : Es) (t : Tr) : Es × Int × Bool :=
  if (chgE s t).2 ≠ 0 then (s, (chgE s t).2, false) else if (doP (chgE s t).1 t).2 ≠ 0 then ((chgE s t).1, (doP (chgE s t).1 t).2, true) else ((doP (chgE s t).1 t).1, 0, true)
def ApplyR (p : Es × Int × Bool) (w : World) (e : Ending) (W' : World) : Prop := ∃ v', e = .returned (.tuple #[stv p.1 v', .int .i64 p.2.1, .bool p.2.2]) ∧ OwnL w.heap.size W' v' p.1.lk ∧ Below w.heap.size w W'
theorem res_app {fn : Func} {p q r : Tmp} (h : fn.results = #[.cell p 35, .tmp q, .tmp r]) (tmps : Array Value) {w : World} {g : Nat} {T : TypeId} {s : Es} {v a b : Value} (hp : tmps.getD p undef = .pointer (some ⟨g, 0, none⟩)) (hq : tmps.getD q undef = a) (hr : tmps.getD r undef = b) (hg : Blk w g T (stc s v)) :
    (results fn tmps).run Tryz.prog w = .ok (.tuple #[stv s v, a, b]) w := by
  have hp' : tmps[p]?.getD undef = .pointer (some ⟨g, 0, none⟩) := by simpa using hp
  have hq' : tmps[q]?.getD undef = a := by simpa using hq
  have hr' : tmps[r]?.getD undef = b := by simpa using hr
  simp [results, h, hp', hq', hr', asAddr, run_loadVar_row w g T 35 (stc s v).toArray (0, 0) _ hg Tryz.underlying35 rfl (by rw [List.size_toArray, stc_len]; exact info_st)]
theorem OwnL.row {b B : Nat} {W : World} {v : Value} {l : List Lk} (h : OwnL b W v l) (hne : ∀ k, v.ownBlock = some k → k ≠ B) (cs : Array Value) : OwnL b (W.setRow B cs) v l := by
  refine h.kept (grownBy_row W B cs) ?_
  cases hv : v.ownBlock with
  | none => exact .inl rfl
  | some k => exact .inr fun e => hne k hv (Option.some.inj e)
set_option maxRecDepth 100000 in
set_option maxHeartbeats 4000000 in
theorem esc_apply_any (s : Es) (v : Value) (hs : OkE s) (t : Tr) (ht : OkT t) (w : World) {lo hi : Nat} (hl : RSl lkc lo hi w v s.lk) (hhi : hi ≤ w.heap.size) (hr : (s.lk.length + 1) * 40 ≤ 140737488355328) :
    Calls Tryz.prog 13 #[stv s v, txv t] w (ApplyR (applyP s t) w) := by
  have HL := Lib.hid hl
  clear hl
  have hM := Mem.start w
  go_enter Tryz.func13, Tryz.ntmps13
  go_upto_region 0 with fail
  refine wp_region_fromM (fun W => Mem w none [] W) hM ?_
  clear hM
  rintro Y1 hM
  refine rF (some 2) (pt Y1.heap.size 0) (Y1.alloc (.cells (stc s v).toArray 35)) ?_
  replace hM := hM.alloc 35 (stc s v)
  generalize World.alloc _ _ = Y2 at *
  generalize hNe : Y1.heap.size = P at *
  clear hNe
  refine rF (some 3) (pt Y2.heap.size 0) (Y2.alloc (.cells (txc t).toArray 44)) ?_
  replace hM := hM.alloc 44 (txc t)
  generalize World.alloc _ _ = Y3 at *
  generalize hNe : Y2.heap.size = X at *
  clear hNe
  refine rF (some 4) (pt Y3.heap.size 0) (Y3.alloc (.cells (stc zS nilV).toArray 35)) ?_
  replace hM := hM.alloc 35 (stc zS nilV)
  generalize World.alloc _ _ = Y4 at *
  generalize hNe : Y3.heap.size = R at *
  clear hNe
  refine tF 5 [.val 3 (some 5) (.int .i64 0), .val 4 (some 6) (.bool false)] trivial ?_
  refine dF ?_
  try simp only [puts, Tk.put, Act.put, List.setIfInBounds_toArray, List.set_cons_zero, List.set_cons_succ]
  by_cases hc : (chgE s t).2 = 0
  case neg =>
    have HC := Lib.hid hc
    clear hc
    go_upto_region 1 with fail
    refine wp_region_fromM (fun W => Mem w none [(R, 35, stc zS nilV), (X, 44, txc t), (P, 35, stc s v)] W) hM ?_
    clear hM
    rintro Y5 hM
    refine tF 2 [.load 0 (some 11) 35 (pt P 0) (stv (s) (v)), .val 1 (some 12) (.func (.func 37) #[] #[.pointer (some ⟨X, 0, none⟩)])] ⟨ld_st (hM.at 2 rfl), trivial⟩ ?_
    refine cF (some 13) 36 #[stv (s) (v), .func (.func 37) #[] #[.pointer (some ⟨X, 0, none⟩)]] ((((attempt1_any (.pointer (some ⟨X, 0, none⟩)) s v (chgE s t) Y5 ((HL.out.below hM.b hhi).wide (Nat.le_trans hhi hM.size)) (by omega) (fun W v1 B b0 hW hB1 hBb hb0 hB ho => apply1_any s v1 hs t W hBb hb0 hB ho ((hM.at 1 rfl).below hW (hM.at 1 rfl).lt))).mono fun _ _ h => h.no HC.out)).mono ?_)
    rintro e W1 ⟨v1, rfl, hO, hb⟩
    have hRY := (hM.at 0 rfl).lt
    have hk1 := fun k hk => hO.lt k hk
    replace hO := hO.low hM.size
    replace hM := hM.below hb
    clear hb
    replace hO := hO.alloc (.cells (stc zS nilV).toArray 35)
    refine tF 6 [.val 3 (some 10) (.tuple #[stv (s) v1, .int .i64 (chgE s t).2]), .val 4 (some 14) (stv (s) v1), .val 5 (some 15) (.int .i64 (chgE s t).2)] trivial ?_
    refine rF (some 7) (pt W1.heap.size 0) (W1.alloc (.cells (stc zS nilV).toArray 35)) ?_
    replace hM := hM.alloc 35 (stc zS nilV)
    generalize World.alloc _ _ = Y6 at *
    generalize hNe : W1.heap.size = N at *
    clear hNe
    have hO1 := OwnL.row hO (B := N) (fun k hk => by have := hk1 k hk; omega) (stc (s) v1).toArray
    refine sF (w' := Y6.setRow N (stc (s) v1).toArray) 35 (pt N 0) (stv (s) v1) (sto_st (hM.at 0 rfl) (stc_len _ _) (s) (OwnL.one hO).1) ?_
    replace hM := hM.set 0 (cs' := stc (s) v1) rfl rfl
    generalize World.setRow _ _ _ = Y7 at *
    replace hO := hO1
    clear hO1
    refine tF 9 [.val 8 (some 8) (.int .i64 (chgE s t).2)] trivial ?_
    refine dF ?_
    try simp only [puts, Tk.put, Act.put, List.setIfInBounds_toArray, List.set_cons_zero, List.set_cons_succ]
    go_upto_region 2 with fail
    refine wp_region_fromM (fun W => Mem w none [(N, 35, stc (s) v1), (R, 35, stc zS nilV), (X, 44, txc t), (P, 35, stc s v)] W ∧ OwnL w.heap.size W v1 (s).lk) ⟨hM, hO⟩ ?_
    clear hM hO
    rintro Y8 ⟨hM, hO⟩
    refine tF 2 [.val 0 (some 16) (.int .i64 (chgE s t).2), .alt 1 (some 17) (.bool ((chgE s t).2 != 0)) (.bool true)] ⟨congrArg Value.bool (bne_iff_ne.2 HC.out), trivial⟩ ?_
    refine dF ?_
    try simp only [puts, Tk.put, Act.put, List.setIfInBounds_toArray, List.set_cons_zero, List.set_cons_succ]
    go_upto_region 3 with fail
    refine wp_region_fromM (fun W => Mem w none [(N, 35, stc (s) v1), (R, 35, stc zS nilV), (X, 44, txc t), (P, 35, stc s v)] W ∧ OwnL w.heap.size W v1 (s).lk) ⟨hM, hO⟩ ?_
    clear hM hO
    rintro Y9 ⟨hM, hO⟩
    refine tF 2 [.load 0 (some 18) 35 (pt N 0) (stv (s) (v1)), .val 1 (some 19) (.int .i64 (chgE s t).2)] ⟨ld_st (hM.at 0 rfl), trivial⟩ ?_
    have hO1 := OwnL.row hO (B := R) (fun k hk => by have := hk1 k hk; omega) (stc s v1).toArray
    refine sF (w' := Y9.setRow R (stc s v1).toArray) 35 (pt R 0) (stv (s) (v1)) (sto_st (hM.at 1 rfl) (stc_len _ _) s (OwnL.one hO).1) ?_
    replace hM := hM.set 1 (cs' := stc s v1) rfl rfl
    generalize World.setRow _ _ _ = Y10 at *
    refine tF 5 [.val 3 (some 5) (.int .i64 (chgE s t).2), .val 4 (some 6) (.bool false)] trivial ?_
    refine dF ?_
    try simp only [puts, Tk.put, Act.put, List.setIfInBounds_toArray, List.set_cons_zero, List.set_cons_succ]
    have hO2 := hO1
    clear hk1
    go_wp2_with fail
    exact bodyPost_ret (v := .tuple #[stv s v1, .int .i64 (chgE s t).2, .bool false]) (res_app rfl _ rfl rfl rfl (hM.at 1 rfl)) rfl ⟨v1, by unfold applyP; rw [if_pos HC.out], by unfold applyP; rw [if_pos HC.out]; exact hO2, hM.b⟩
  have HC := Lib.hid hc
  clear hc
  go_upto_region 1 with fail
  refine wp_region_fromM (fun W => Mem w none [(R, 35, stc zS nilV), (X, 44, txc t), (P, 35, stc s v)] W) hM ?_
  clear hM
  rintro Y11 hM
  refine tF 2 [.load 0 (some 11) 35 (pt P 0) (stv (s) (v)), .val 1 (some 12) (.func (.func 37) #[] #[.pointer (some ⟨X, 0, none⟩)])] ⟨ld_st (hM.at 2 rfl), trivial⟩ ?_
  refine cF (some 13) 36 #[stv (s) (v), .func (.func 37) #[] #[.pointer (some ⟨X, 0, none⟩)]] ((((attempt1_any (.pointer (some ⟨X, 0, none⟩)) s v (chgE s t) Y11 ((HL.out.below hM.b hhi).wide (Nat.le_trans hhi hM.size)) (by omega) (fun W v1 B b0 hW hB1 hBb hb0 hB ho => apply1_any s v1 hs t W hBb hb0 hB ho ((hM.at 1 rfl).below hW (hM.at 1 rfl).lt))).mono fun _ _ h => h.ok HC.out)).mono ?_)
  rintro e W1 ⟨v1, rfl, hO, hb⟩
  have hRY := (hM.at 0 rfl).lt
  have hk1 := fun k hk => hO.lt k hk
  replace hO := hO.low hM.size
  replace hM := hM.below hb
  clear hb
  replace hO := hO.alloc (.cells (stc zS nilV).toArray 35)
  refine tF 6 [.val 3 (some 10) (.tuple #[stv ((chgE s t).1) v1, .int .i64 0]), .val 4 (some 14) (stv ((chgE s t).1) v1), .val 5 (some 15) (.int .i64 0)] trivial ?_
  refine rF (some 7) (pt W1.heap.size 0) (W1.alloc (.cells (stc zS nilV).toArray 35)) ?_
  replace hM := hM.alloc 35 (stc zS nilV)
  generalize World.alloc _ _ = Y12 at *
  generalize hNe : W1.heap.size = N at *
  clear hNe
  have hO1 := OwnL.row hO (B := N) (fun k hk => by have := hk1 k hk; omega) (stc ((chgE s t).1) v1).toArray
  refine sF (w' := Y12.setRow N (stc ((chgE s t).1) v1).toArray) 35 (pt N 0) (stv ((chgE s t).1) v1) (sto_st (hM.at 0 rfl) (stc_len _ _) ((chgE s t).1) (OwnL.one hO).1) ?_
  replace hM := hM.set 0 (cs' := stc ((chgE s t).1) v1) rfl rfl
  generalize World.setRow _ _ _ = Y13 at *
  replace hO := hO1
  clear hO1
  refine tF 9 [.val 8 (some 8) (.int .i64 0)] trivial ?_
  refine dF ?_
  try simp only [puts, Tk.put, Act.put, List.setIfInBounds_toArray, List.set_cons_zero, List.set_cons_succ]
  go_upto_region 2 with fail
  refine wp_region_fromM (fun W => Mem w none [(N, 35, stc ((chgE s t).1) v1), (R, 35, stc zS nilV), (X, 44, txc t), (P, 35, stc s v)] W ∧ OwnL w.heap.size W v1 ((chgE s t).1).lk) ⟨hM, hO⟩ ?_
  clear hM hO
  rintro Y14 ⟨hM, hO⟩
  refine tF 2 [.val 0 (some 16) (.int .i64 0), .val 1 (some 17) (.bool false)] trivial ?_
  refine dF ?_
  try simp only [puts, Tk.put, Act.put, List.setIfInBounds_toArray, List.set_cons_zero, List.set_cons_succ]
  obtain ⟨he, hs1, hlk⟩ := chg_ok hs HC.out
  by_cases hd : (doP (chgE s t).1 t).2 = 0
  case pos =>
    have HD := Lib.hid hd
    clear hd
    go_upto_region 4 with fail
    refine wp_region_fromM (fun W => Mem w none [(N, 35, stc ((chgE s t).1) v1), (R, 35, stc zS nilV), (X, 44, txc t), (P, 35, stc s v)] W ∧ OwnL w.heap.size W v1 ((chgE s t).1).lk) ⟨hM, hO⟩ ?_
    clear hM hO
    rintro Y15 ⟨hM, hO⟩
    refine tF 2 [.load 0 (some 21) 35 (pt N 0) (stv ((chgE s t).1) (v1)), .val 1 (some 22) (.func (.func 39) #[] #[.pointer (some ⟨X, 0, none⟩)])] ⟨ld_st (hM.at 0 rfl), trivial⟩ ?_
    refine cF (some 23) 36 #[stv ((chgE s t).1) (v1), .func (.func 39) #[] #[.pointer (some ⟨X, 0, none⟩)]] ((((attempt2_any (.pointer (some ⟨X, 0, none⟩)) (chgE s t).1 v1 (doP (chgE s t).1 t) Y15 (OwnL.rsl hO) (by rw [hlk]; omega) (fun W v2 B b0 hW hB1 hBb hb0 hB ho => apply2_any (chgE s t).1 v2 hs1 t ht he W hBb hb0 hB ho (by rw [hlk]; exact hr) ((hM.at 2 rfl).below hW (hM.at 2 rfl).lt))).mono fun _ _ h => h.ok HD.out)).mono ?_)
    rintro e W1 ⟨v2, rfl, hO, hb⟩
    have hRY2 := (hM.at 1 rfl).lt
    have hk2 := fun k hk => hO.lt k hk
    replace hO := hO.low hM.size
    replace hM := hM.below hb
    clear hb
    replace hO := hO.alloc (.cells (stc zS nilV).toArray 35)
    refine tF 6 [.val 3 (some 20) (.tuple #[stv ((doP (chgE s t).1 t).1) v2, .int .i64 0]), .val 4 (some 24) (stv ((doP (chgE s t).1 t).1) v2), .val 5 (some 25) (.int .i64 0)] trivial ?_
    refine rF (some 9) (pt W1.heap.size 0) (W1.alloc (.cells (stc zS nilV).toArray 35)) ?_
    replace hM := hM.alloc 35 (stc zS nilV)
    generalize World.alloc _ _ = Y16 at *
    generalize hNe : W1.heap.size = N2 at *
    clear hNe
    have hO1 := OwnL.row hO (B := N2) (fun k hk => by have := hk2 k hk; omega) (stc ((doP (chgE s t).1 t).1) v2).toArray
    refine sF (w' := Y16.setRow N2 (stc ((doP (chgE s t).1 t).1) v2).toArray) 35 (pt N2 0) (stv ((doP (chgE s t).1 t).1) v2) (sto_st (hM.at 0 rfl) (stc_len _ _) ((doP (chgE s t).1 t).1) (OwnL.one hO).1) ?_
    replace hM := hM.set 0 (cs' := stc ((doP (chgE s t).1 t).1) v2) rfl rfl
    generalize World.setRow _ _ _ = Y17 at *
    replace hO := hO1
    clear hO1
    refine tF 9 [.val 8 (some 8) (.int .i64 0)] trivial ?_
    refine dF ?_
    try simp only [puts, Tk.put, Act.put, List.setIfInBounds_toArray, List.set_cons_zero, List.set_cons_succ]
    go_upto_region 5 with fail
    refine wp_region_fromM (fun W => Mem w none [(N2, 35, stc ((doP (chgE s t).1 t).1) v2), (N, 35, stc ((chgE s t).1) v1), (R, 35, stc zS nilV), (X, 44, txc t), (P, 35, stc s v)] W ∧ OwnL w.heap.size W v2 ((doP (chgE s t).1 t).1).lk) ⟨hM, hO⟩ ?_
    clear hM hO
    rintro Y18 ⟨hM, hO⟩
    refine tF 2 [.load 0 (some 26) 35 (pt N2 0) (stv ((doP (chgE s t).1 t).1) (v2)), .val 1 (some 27) (.int .i64 0)] ⟨ld_st (hM.at 0 rfl), trivial⟩ ?_
    have hO1 := OwnL.row hO (B := R) (fun k hk => by have := hk2 k hk; omega) (stc ((doP (chgE s t).1 t).1) v2).toArray
    refine sF (w' := Y18.setRow R (stc ((doP (chgE s t).1 t).1) v2).toArray) 35 (pt R 0) (stv ((doP (chgE s t).1 t).1) (v2)) (sto_st (hM.at 2 rfl) (stc_len _ _) ((doP (chgE s t).1 t).1) (OwnL.one hO).1) ?_
    replace hM := hM.set 2 (cs' := stc ((doP (chgE s t).1 t).1) v2) rfl rfl
    generalize World.setRow _ _ _ = Y19 at *
    refine tF 5 [.val 3 (some 5) (.int .i64 0), .val 4 (some 6) (.bool true)] trivial ?_
    refine dF ?_
    try simp only [puts, Tk.put, Act.put, List.setIfInBounds_toArray, List.set_cons_zero, List.set_cons_succ]
    have hO2 := hO1
    clear hk1 hk2
    go_wp2_with fail
    exact bodyPost_ret (v := .tuple #[stv ((doP (chgE s t).1 t).1) v2, .int .i64 0, .bool true]) (res_app rfl _ rfl rfl rfl (hM.at 2 rfl)) rfl ⟨v2, by unfold applyP; rw [if_neg (not_not_intro HC.out), if_neg (not_not_intro HD.out)], by unfold applyP; rw [if_neg (not_not_intro HC.out), if_neg (not_not_intro HD.out)]; exact hO2, hM.b⟩
  have HD := Lib.hid hd
  clear hd
  go_upto_region 4 with fail
  refine wp_region_fromM (fun W => Mem w none [(N, 35, stc ((chgE s t).1) v1), (R, 35, stc zS nilV), (X, 44, txc t), (P, 35, stc s v)] W ∧ OwnL w.heap.size W v1 ((chgE s t).1).lk) ⟨hM, hO⟩ ?_
  clear hM hO
  rintro Y20 ⟨hM, hO⟩
  refine tF 2 [.load 0 (some 21) 35 (pt N 0) (stv ((chgE s t).1) (v1)), .val 1 (some 22) (.func (.func 39) #[] #[.pointer (some ⟨X, 0, none⟩)])] ⟨ld_st (hM.at 0 rfl), trivial⟩ ?_
  refine cF (some 23) 36 #[stv ((chgE s t).1) (v1), .func (.func 39) #[] #[.pointer (some ⟨X, 0, none⟩)]] ((((attempt2_any (.pointer (some ⟨X, 0, none⟩)) (chgE s t).1 v1 (doP (chgE s t).1 t) Y20 (OwnL.rsl hO) (by rw [hlk]; omega) (fun W v2 B b0 hW hB1 hBb hb0 hB ho => apply2_any (chgE s t).1 v2 hs1 t ht he W hBb hb0 hB ho (by rw [hlk]; exact hr) ((hM.at 2 rfl).below hW (hM.at 2 rfl).lt))).mono fun _ _ h => h.no HD.out)).mono ?_)
  rintro e W1 ⟨v2, rfl, hO, hb⟩
  have hRY2 := (hM.at 1 rfl).lt
  have hk2 := fun k hk => hO.lt k hk
  replace hO := hO.low hM.size
  replace hM := hM.below hb
  clear hb
  replace hO := hO.alloc (.cells (stc zS nilV).toArray 35)
  refine tF 6 [.val 3 (some 20) (.tuple #[stv ((chgE s t).1) v2, .int .i64 (doP (chgE s t).1 t).2]), .val 4 (some 24) (stv ((chgE s t).1) v2), .val 5 (some 25) (.int .i64 (doP (chgE s t).1 t).2)] trivial ?_
  refine rF (some 9) (pt W1.heap.size 0) (W1.alloc (.cells (stc zS nilV).toArray 35)) ?_
  replace hM := hM.alloc 35 (stc zS nilV)
  generalize World.alloc _ _ = Y21 at *
  generalize hNe : W1.heap.size = N2 at *
  clear hNe
  have hO1 := OwnL.row hO (B := N2) (fun k hk => by have := hk2 k hk; omega) (stc ((chgE s t).1) v2).toArray
  refine sF (w' := Y21.setRow N2 (stc ((chgE s t).1) v2).toArray) 35 (pt N2 0) (stv ((chgE s t).1) v2) (sto_st (hM.at 0 rfl) (stc_len _ _) ((chgE s t).1) (OwnL.one hO).1) ?_
  replace hM := hM.set 0 (cs' := stc ((chgE s t).1) v2) rfl rfl
  generalize World.setRow _ _ _ = Y22 at *
  replace hO := hO1
  clear hO1
  refine tF 9 [.val 8 (some 8) (.int .i64 (doP (chgE s t).1 t).2)] trivial ?_
  refine dF ?_
  try simp only [puts, Tk.put, Act.put, List.setIfInBounds_toArray, List.set_cons_zero, List.set_cons_succ]
  go_upto_region 5 with fail
  refine wp_region_fromM (fun W => Mem w none [(N2, 35, stc ((chgE s t).1) v2), (N, 35, stc ((chgE s t).1) v1), (R, 35, stc zS nilV), (X, 44, txc t), (P, 35, stc s v)] W ∧ OwnL w.heap.size W v2 ((chgE s t).1).lk) ⟨hM, hO⟩ ?_
  clear hM hO
  rintro Y23 ⟨hM, hO⟩
  refine tF 2 [.load 0 (some 26) 35 (pt N2 0) (stv ((chgE s t).1) (v2)), .val 1 (some 27) (.int .i64 (doP (chgE s t).1 t).2)] ⟨ld_st (hM.at 0 rfl), trivial⟩ ?_
  have hO1 := OwnL.row hO (B := R) (fun k hk => by have := hk2 k hk; omega) (stc ((chgE s t).1) v2).toArray
  refine sF (w' := Y23.setRow R (stc ((chgE s t).1) v2).toArray) 35 (pt R 0) (stv ((chgE s t).1) (v2)) (sto_st (hM.at 2 rfl) (stc_len _ _) ((chgE s t).1) (OwnL.one hO).1) ?_
  replace hM := hM.set 2 (cs' := stc ((chgE s t).1) v2) rfl rfl
  generalize World.setRow _ _ _ = Y24 at *
  refine tF 5 [.val 3 (some 5) (.int .i64 (doP (chgE s t).1 t).2), .val 4 (some 6) (.bool true)] trivial ?_
  refine dF ?_
  try simp only [puts, Tk.put, Act.put, List.setIfInBounds_toArray, List.set_cons_zero, List.set_cons_succ]
  have hO2 := hO1
  clear hk1 hk2
  go_wp2_with fail
  exact bodyPost_ret (v := .tuple #[stv ((chgE s t).1) v2, .int .i64 (doP (chgE s t).1 t).2, .bool true]) (res_app rfl _ rfl rfl rfl (hM.at 2 rfl)) rfl ⟨v2, by unfold applyP; rw [if_neg (not_not_intro HC.out), if_pos HD.out], by unfold applyP; rw [if_neg (not_not_intro HC.out), if_pos HD.out]; exact hO2, hM.b⟩
end Go.Proofs.YtfoemkmoambagaaGreat
namespace Go.Proofs.YtfoemkmoambagaaGreat
open Go.RowKit Go.Shelf
theorem take_or {b : Bk} {a s : Int} {n : Nat} (h : atS a s) : (takeB b a s n).2 = 0 ∨ (takeB b a s n).2 = 30 := by
  by_cases k : n ≤ b (slotS a s)
  · exact .inl (by rw [takeB_yes h k])
  · exact .inr (by rw [takeB_low h k])
theorem give_or {b : Bk} {a s : Int} {n : Nat} (h : atS a s) : (giveB b a s n).2 = 0 ∨ (giveB b a s n).2 = 38 := by
  by_cases k : b (slotS a s) + n < M4
  · exact .inl (by rw [giveB_yes h k])
  · exact .inr (by rw [giveB_over h k])
theorem n30 : (30 : Int) ≠ 0 := by decide
theorem n38 : (38 : Int) ≠ 0 := by decide
theorem n31 : (31 : Int) ≠ 0 := by decide
theorem grow_yes {s : Es} {a n : Nat} (h : s.he a + n < M4) : growE s a n = ({ s with he := updB s.he a (s.he a + n) }, 0) := if_pos h
theorem grow_no {s : Es} {a n : Nat} (h : ¬ s.he a + n < M4) : growE s a n = (s, 38) := if_neg h
theorem shrink_yes {s : Es} {a n : Nat} (h : n ≤ s.he a) : shrinkE s a n = ({ s with he := updB s.he a (s.he a - n) }, 0) := if_pos h
theorem shrink_no {s : Es} {a n : Nat} (h : ¬ n ≤ s.he a) : shrinkE s a n = (s, 38) := if_neg h
theorem unv_yes {s : Es} {r a : Int} {n : Nat} (h : (takeB s.va r a n).2 = 0) : unvE s r a n = ({ s with va := (takeB s.va r a n).1 }, 0) := if_neg (not_not_intro h)
theorem unv_no {s : Es} {r a : Int} {n : Nat} (h : (takeB s.va r a n).2 ≠ 0) : unvE s r a n = (s, 31) := if_pos h
def Eq0 (p q : Es × Int) : Prop := p.2 = q.2 ∧ (q.2 = 0 → p.1 = q.1)
theorem Eq0.of {p q : Es × Int} (h : p = q) : Eq0 p q := by subst h; exact ⟨rfl, fun _ => rfl⟩
theorem Eq0.bad {p q : Es × Int} {c : Int} (hc : c ≠ 0) (hp : p.2 = c) (hq : q.2 = c) : Eq0 p q := ⟨by rw [hp, hq], fun h => absurd (hq.symm.trans h) hc⟩
theorem pay_eq {s : Es} {t : Tr} (h : errT t = 0) (k : t.kd = 1) : Eq0 (payP s t) (plainE s t) := by
  obtain ⟨_, fr, _, az, hm, _⟩ := errT_all h
  have tt := errM_to (hm (by omega)) k
  have a1 : atS t.fr t.az := ⟨by omega, by omega⟩
  have a2 : atS t.iv.to t.az := ⟨by omega, by omega⟩
  unfold plainE
  rw [if_pos k]
  unfold payP
  rcases take_or (b := s.pu) (n := amT t) a1 with h1 | h1
  · rcases give_or (b := (takeB s.pu t.fr t.az (amT t)).1) (n := amT t) a2 with h2 | h2
    · rw [moveB_yes h1 h2, if_neg (by simp), if_neg (not_not_intro h1), if_neg (not_not_intro h2)]
      exact Eq0.of rfl
    · rw [moveB_over h1 (by rw [h2]; exact n38), if_pos (by show (giveB _ _ _ _).2 ≠ 0; rw [h2]; exact n38), if_neg (not_not_intro h1), if_pos (by rw [h2]; exact n38)]
      exact Eq0.bad n38 h2 rfl
  · rw [moveB_low (by rw [h1]; exact n30), if_pos (by show (takeB _ _ _ _).2 ≠ 0; rw [h1]; exact n30), if_pos (by rw [h1]; exact n30)]
    exact Eq0.bad n30 h1 rfl
theorem dep_eq {s : Es} {t : Tr} (h : errT t = 0) (k : t.kd = 2) : Eq0 (depE s t) (plainE s t) := by
  obtain ⟨_, fr, _, az, hm, _⟩ := errT_all h
  have ro := errM_ro (hm (by omega)) k
  have a1 : atS t.fr t.az := ⟨by omega, by omega⟩
  have a2 : atS t.iv.ro t.az := ⟨by omega, by omega⟩
  unfold plainE
  rw [if_neg (show ¬ t.kd = 1 by omega), if_pos k]
  unfold depE
  rcases take_or (b := s.pu) (n := amT t) a1 with h1 | h1
  · rw [if_neg (not_not_intro h1), if_neg (not_not_intro h1)]
    rcases give_or (b := s.va) (n := amT t) a2 with h2 | h2
    · rw [if_neg (not_not_intro h2)]
      by_cases h3 : s.he t.az.toNat + amT t < M4
      · rw [grow_yes (s := { s with pu := (takeB s.pu t.fr t.az (amT t)).1, va := (giveB s.va t.iv.ro t.az (amT t)).1 }) h3, if_neg (fun e => e.elim (fun e => e h2) (fun e => e h3))]
        exact Eq0.of rfl
      · rw [grow_no (s := { s with pu := (takeB s.pu t.fr t.az (amT t)).1, va := (giveB s.va t.iv.ro t.az (amT t)).1 }) h3, if_pos (.inr h3)]
        exact Eq0.bad n38 rfl rfl
    · rw [if_pos (by rw [h2]; exact n38), if_pos (.inl (by rw [h2]; exact n38))]
      exact Eq0.bad n38 h2 rfl
  · rw [if_pos (by rw [h1]; exact n30), if_pos (by rw [h1]; exact n30)]
    exact Eq0.bad n30 h1 rfl
theorem wdr_eq {s : Es} {t : Tr} (h : errT t = 0) (k1 : t.kd ≠ 1) (k2 : t.kd ≠ 2) : Eq0 (wdrE s t) (plainE s t) := by
  obtain ⟨_, fr, _, az, _, _⟩ := errT_all h
  have a1 : atS t.fr t.az := ⟨by omega, by omega⟩
  unfold plainE
  rw [if_neg k1, if_neg k2]
  unfold wdrE
  by_cases h0 : 2 ≤ t.fr ∧ t.fr ≤ 3
  · rw [if_neg (not_not_intro h0), if_neg (not_not_intro h0)]
    rcases take_or (b := s.va) (n := amT t) a1 with h1 | h1
    · rw [unv_yes h1, if_neg (by simp), if_neg (not_not_intro h1)]
      rcases give_or (b := s.pu) (n := amT t) a1 with h2 | h2
      · rw [if_neg (not_not_intro h2)]
        by_cases h3 : amT t ≤ s.he t.az.toNat
        · rw [shrink_yes (s := { s with va := (takeB s.va t.fr t.az (amT t)).1, pu := (giveB s.pu t.fr t.az (amT t)).1 }) h3, if_neg (fun e => e.elim (fun e => e h2) (fun e => e h3))]
          exact Eq0.of rfl
        · rw [shrink_no (s := { s with va := (takeB s.va t.fr t.az (amT t)).1, pu := (giveB s.pu t.fr t.az (amT t)).1 }) h3, if_pos (.inr h3)]
          exact Eq0.bad n38 rfl rfl
      · rw [if_pos (by rw [h2]; exact n38), if_pos (.inl (by rw [h2]; exact n38))]
        exact Eq0.bad n38 h2 rfl
    · have h1' : (takeB s.va t.fr t.az (amT t)).2 ≠ 0 := by rw [h1]; exact n30
      rw [unv_no h1', if_pos (show (31 : Int) ≠ 0 by decide), if_pos h1']
      exact Eq0.bad n31 rfl rfl
  · rw [if_pos h0, if_pos h0]
    exact Eq0.of rfl
theorem prep_eq {s : Es} {t : Tr} (hs : OkE s) (h : errF t = 0) : Eq0 (prepP s t) (prepE orcB s t) := by
  obtain ⟨⟨us, _, ro, se, re, _⟩, _, _⟩ := errF_all h
  unfold prepP prepE
  by_cases h0 : (placeE s.lk (keyB t.iv)).isSome
  · rw [if_pos h0, if_pos (show (placeE s.lk (orcB.ke t.iv)).isSome = true from h0)]
    exact Eq0.of rfl
  · rw [if_neg h0, if_neg (show ¬ (placeE s.lk (orcB.ke t.iv)).isSome = true from h0)]
    by_cases h1 : t.vr.x > s.tm ∧ t.vr.x ≤ s.tm + 1024
    · rw [if_neg (not_not_intro h1), if_neg (show ¬ (t.vr.x ≤ s.tm ∨ s.tm + 1024 < t.vr.x) by omega)]
      by_cases h2 : s.sd = 1
      · rw [if_pos (show s.sd > 0 by omega), if_pos h2]
        by_cases h3 : t.fr = t.iv.ro
        · rw [if_neg (not_not_intro h3), if_neg (not_not_intro h3), h3]
          have a1 : atS t.iv.ro t.iv.re := ⟨by omega, by omega⟩
          rcases take_or (b := s.va) (n := amV t) a1 with h4 | h4
          · rw [unv_yes h4, if_neg (by simp), if_neg (not_not_intro h4)]
            exact Eq0.of rfl
          · have h4' : (takeB s.va t.iv.ro t.iv.re (amV t)).2 ≠ 0 := by rw [h4]; exact n30
            rw [unv_no h4', if_pos (show (31 : Int) ≠ 0 by decide), if_pos h4']
            exact Eq0.bad n31 rfl rfl
        · rw [if_pos h3, if_pos h3]
          exact Eq0.of rfl
      · rw [if_neg (show ¬ s.sd > 0 by rcases hs.d with d | d <;> omega), if_neg h2]
        by_cases h3 : t.fr = t.iv.us
        · rw [if_neg (not_not_intro h3), if_neg (not_not_intro h3), h3]
          have a1 : atS t.iv.us t.iv.se := ⟨by omega, by omega⟩
          rcases take_or (b := s.pu) (n := amV t) a1 with h4 | h4
          · rw [if_neg (not_not_intro h4), if_neg (not_not_intro h4)]
            by_cases h5 : s.he t.iv.se.toNat + amV t < M4
            · rw [grow_yes (s := { s with pu := (takeB s.pu t.iv.us t.iv.se (amV t)).1 }) h5, if_neg (by simp), if_neg (not_not_intro h5)]
              exact Eq0.of rfl
            · rw [grow_no (s := { s with pu := (takeB s.pu t.iv.us t.iv.se (amV t)).1 }) h5, if_pos (show (38 : Int) ≠ 0 by decide), if_pos h5]
              exact Eq0.bad n38 rfl rfl
          · rw [if_pos (by rw [h4]; exact n30), if_pos (by rw [h4]; exact n30)]
            exact Eq0.bad n30 h4 rfl
        · rw [if_pos h3, if_pos h3]
          exact Eq0.of rfl
    · rw [if_pos h1, if_pos (show t.vr.x ≤ s.tm ∨ s.tm + 1024 < t.vr.x by omega)]
      exact Eq0.of rfl
theorem ful_eq {s : Es} {t : Tr} (hs : OkE s) (h : errF t = 0) (hfr : 0 ≤ t.fr ∧ t.fr ≤ 7) : Eq0 (fulP s t) (fulE orcB s t) := by
  obtain ⟨⟨us, _, ro, se, re, tt, _⟩, _, _⟩ := errF_all h
  unfold fulP fulE
  by_cases h0 : (openE orcB s t).2 ≠ 0
  · rw [if_pos h0, if_pos h0]
    exact Eq0.of rfl
  · rw [if_neg h0, if_neg h0]
    by_cases h1 : s.tm < t.vr.x
    · rw [if_neg (not_not_intro h1), if_neg (show ¬ t.vr.x ≤ s.tm by omega)]
      by_cases h2 : feT t ≤ amV t
      · rw [if_neg (not_not_intro h2), if_neg (not_not_intro h2)]
        by_cases h3 : signB t 1 = true
        · rw [if_neg (not_not_intro h3), if_neg (show ¬ orcB.sg t 1 = false by rw [show orcB.sg t 1 = signB t 1 from rfl, h3]; decide)]
          by_cases h4 : s.sd = 1
          · rw [if_pos (show s.sd > 0 by omega), if_pos h4]
            have a1 : atS t.iv.to t.iv.re := ⟨by omega, by omega⟩
            have a2 : atS t.fr t.iv.re := ⟨by omega, by omega⟩
            rcases give_or (b := s.pu) (n := amV t - feT t) a1 with h5 | h5
            · rw [if_neg (not_not_intro h5)]
              rcases give_or (b := (giveB s.pu t.iv.to t.iv.re (amV t - feT t)).1) (n := feT t) a2 with h6 | h6
              · rw [if_neg (not_not_intro h6)]
                by_cases h7 : amV t ≤ s.he t.iv.re.toNat
                · rw [shrink_yes (s := { s with pu := (giveB (giveB s.pu t.iv.to t.iv.re (amV t - feT t)).1 t.fr t.iv.re (feT t)).1 }) h7, if_neg (by simp), if_neg (fun e => e.elim (fun e => e h5) fun e => e.elim (fun e => e h6) fun e => e h7)]
                  exact Eq0.of rfl
                · rw [shrink_no (s := { s with pu := (giveB (giveB s.pu t.iv.to t.iv.re (amV t - feT t)).1 t.fr t.iv.re (feT t)).1 }) h7, if_pos (show (38 : Int) ≠ 0 by decide), if_pos (.inr (.inr h7))]
                  exact Eq0.bad n38 rfl rfl
              · rw [if_pos (by rw [h6]; exact n38), if_pos (.inr (.inl (by rw [h6]; exact n38)))]
                exact Eq0.bad n38 h6 rfl
            · rw [if_pos (by rw [h5]; exact n38), if_pos (.inl (by rw [h5]; exact n38))]
              exact Eq0.bad n38 h5 rfl
          · rw [if_neg (show ¬ s.sd > 0 by rcases hs.d with d | d <;> omega), if_neg h4]
            have a1 : atS t.iv.ro t.iv.se := ⟨by omega, by omega⟩
            rcases give_or (b := s.va) (n := amV t) a1 with h5 | h5
            · rw [if_neg (not_not_intro h5), if_neg (not_not_intro h5)]
              exact Eq0.of rfl
            · rw [if_pos (by rw [h5]; exact n38), if_pos (by rw [h5]; exact n38)]
              exact Eq0.bad n38 h5 rfl
        · rw [if_pos h3, if_pos (show orcB.sg t 1 = false from Bool.eq_false_iff.2 h3)]
          exact Eq0.of rfl
      · rw [if_pos h2, if_pos h2]
        exact Eq0.of rfl
    · rw [if_pos h1, if_pos (show t.vr.x ≤ s.tm by omega)]
      exact Eq0.of rfl
theorem can_eq {s : Es} {t : Tr} (hs : OkE s) (h : errF t = 0) : Eq0 (canP s t) (canE orcB s t) := by
  obtain ⟨⟨us, _, ro, se, re, tt, _⟩, _, _⟩ := errF_all h
  unfold canP canE
  by_cases h0 : (openE orcB s t).2 ≠ 0
  · rw [if_pos h0, if_pos h0]
    exact Eq0.of rfl
  · rw [if_neg h0, if_neg h0]
    by_cases h4 : s.sd = 1
    · rw [if_pos (show s.sd > 0 by omega)]
      by_cases h1 : s.tm < t.vr.x ∧ ¬ signB t 2 = true
      · rw [if_pos h1, if_pos (show s.tm < t.vr.x ∧ s.sd = 1 ∧ orcB.sg t 2 = false from ⟨h1.1, h4, Bool.eq_false_iff.2 h1.2⟩)]
        exact Eq0.of rfl
      · rw [if_neg h1, if_neg (fun e : s.tm < t.vr.x ∧ s.sd = 1 ∧ orcB.sg t 2 = false => h1 ⟨e.1, by rw [show signB t 2 = false from e.2.2]; decide⟩), if_neg (show ¬ (s.tm < t.vr.x ∧ s.sd ≠ 1 ∧ t.fr ≠ t.iv.ro) from fun e => e.2.1 h4), if_pos h4]
        have a1 : atS t.iv.ro t.iv.re := ⟨by omega, by omega⟩
        rcases give_or (b := s.va) (n := amV t) a1 with h5 | h5
        · rw [if_neg (not_not_intro h5), if_neg (not_not_intro h5)]
          exact Eq0.of rfl
        · rw [if_pos (by rw [h5]; exact n38), if_pos (by rw [h5]; exact n38)]
          exact Eq0.bad n38 h5 rfl
    · rw [if_neg (show ¬ s.sd > 0 by rcases hs.d with d | d <;> omega), if_neg (show ¬ (s.tm < t.vr.x ∧ s.sd = 1 ∧ orcB.sg t 2 = false) from fun e => h4 e.2.1)]
      by_cases h1 : s.tm < t.vr.x ∧ ¬ t.fr = t.iv.ro
      · rw [if_pos h1, if_pos (show s.tm < t.vr.x ∧ s.sd ≠ 1 ∧ t.fr ≠ t.iv.ro from ⟨h1.1, h4, h1.2⟩)]
        exact Eq0.of rfl
      · rw [if_neg h1, if_neg (show ¬ (s.tm < t.vr.x ∧ s.sd ≠ 1 ∧ t.fr ≠ t.iv.ro) from fun e => h1 ⟨e.1, e.2.2⟩), if_neg h4]
        have a1 : atS t.iv.us t.iv.se := ⟨by omega, by omega⟩
        rcases give_or (b := s.pu) (n := amV t) a1 with h5 | h5
        · rw [if_neg (not_not_intro h5)]
          by_cases h7 : amV t ≤ s.he t.iv.se.toNat
          · rw [shrink_yes (s := { s with pu := (giveB s.pu t.iv.us t.iv.se (amV t)).1 }) h7, if_neg (by simp), if_neg (fun e => e.elim (fun e => e h5) fun e => e h7)]
            exact Eq0.of rfl
          · rw [shrink_no (s := { s with pu := (giveB s.pu t.iv.us t.iv.se (amV t)).1 }) h7, if_pos (show (38 : Int) ≠ 0 by decide), if_pos (.inr h7)]
            exact Eq0.bad n38 rfl rfl
        · rw [if_pos (by rw [h5]; exact n38), if_pos (.inl (by rw [h5]; exact n38))]
          exact Eq0.bad n38 h5 rfl
theorem do_eq {s : Es} {t : Tr} (hs : OkE s) (h : errT t = 0) : Eq0 (doP s t) (doneE orcB s t) := by
  obtain ⟨hk, fr, _, _, _, hf⟩ := errT_all h
  unfold doP doneE
  by_cases k1 : t.kd = 1
  · rw [if_pos k1, if_neg (show ¬ t.kd = 4 by omega), if_neg (show ¬ t.kd = 5 by omega), if_neg (show ¬ t.kd = 6 by omega)]; exact pay_eq h k1
  · rw [if_neg k1]
    by_cases k2 : t.kd = 2
    · rw [if_pos k2, if_neg (show ¬ t.kd = 4 by omega), if_neg (show ¬ t.kd = 5 by omega), if_neg (show ¬ t.kd = 6 by omega)]; exact dep_eq h k2
    · rw [if_neg k2]
      by_cases k3 : t.kd = 3
      · rw [if_pos k3, if_neg (show ¬ t.kd = 4 by omega), if_neg (show ¬ t.kd = 5 by omega), if_neg (show ¬ t.kd = 6 by omega)]; exact wdr_eq h k1 k2
      · rw [if_neg k3]
        by_cases k4 : t.kd = 4
        · rw [if_pos k4, if_pos k4]; exact prep_eq hs (hf (by omega))
        · rw [if_neg k4, if_neg k4]
          by_cases k5 : t.kd = 5
          · rw [if_pos k5, if_pos k5]; exact ful_eq hs (hf (by omega)) fr
          · rw [if_neg k5, if_neg k5, if_pos (show t.kd = 6 by omega)]; exact can_eq hs (hf (by omega))
theorem paid_eq {s : Es} {t : Tr} (h : errT t = 0) (h2 : t.no = s.no t.fr.toNat) (h3 : 1 ≤ s.pu (2 * t.fr.toNat)) (h4 : s.bu + 1 < M4) : chgE s t = (paidE s t, 0) := by
  obtain ⟨_, fr, _, _, _, _⟩ := errT_all h
  have a1 : atS t.fr 0 := ⟨by omega, by omega⟩
  have hsl : slotS t.fr 0 = 2 * t.fr.toNat := rfl
  unfold chgE
  rw [if_neg (not_not_intro h), if_neg (not_not_intro h2), takeB_yes a1 (by rw [hsl]; exact h3), if_neg (by simp), if_neg (not_not_intro h4)]
  unfold paidE
  rw [hsl]
  have : updNo s.no t.fr.toNat (s.no t.fr.toNat + 1) = fun i => if i = t.fr.toNat then s.no i + 1 else s.no i := by
    funext i
    unfold updNo
    by_cases e : i = t.fr.toNat
    · rw [if_pos e, if_pos e, e]
    · rw [if_neg e, if_neg e]
  rw [this]
theorem apply_eq {s : Es} (hs : OkE s) (t : Tr) : applyP s t = applyE orcB s t := by
  unfold applyP applyE
  by_cases h : errT t ≠ 0
  · have e : chgE s t = (s, errT t) := by unfold chgE; rw [if_pos h]
    rw [e, if_pos h, if_pos h]
  · rw [if_neg h]
    have h1 := Decidable.not_not.1 h
    obtain ⟨_, fr, _, _, _, _⟩ := errT_all h1
    have a1 : atS t.fr 0 := ⟨by omega, by omega⟩
    have hsl : slotS t.fr 0 = 2 * t.fr.toNat := rfl
    by_cases h2 : t.no ≠ s.no t.fr.toNat
    · have e : chgE s t = (s, 20) := by unfold chgE; rw [if_neg h, if_pos h2]
      rw [e, if_pos (show (20 : Int) ≠ 0 by decide), if_pos h2]
    · rw [if_neg h2]
      by_cases h3 : 1 ≤ s.pu (2 * t.fr.toNat)
      · by_cases h4 : s.bu + 1 < M4
        · have e := paid_eq h1 (Decidable.not_not.1 h2) h3 h4
          rw [e, if_neg (by simp), if_neg (show ¬ (¬ 1 ≤ s.pu (2 * t.fr.toNat) ∨ ¬ s.bu + 1 < M4) from fun x => x.elim (fun x => x h3) fun x => x h4)]
          have hp : OkE (paidE s t) := by
            have := (chg_ok hs (by rw [e])).2.1
            rwa [e] at this
          obtain ⟨d1, d2⟩ := do_eq hp h1
          dsimp only
          rw [d1]
          by_cases h5 : (doneE orcB (paidE s t) t).2 ≠ 0
          · rw [if_pos h5, if_pos h5]
          · rw [if_neg h5, if_neg h5, d2 (Decidable.not_not.1 h5)]
        · have e : chgE s t = (s, 21) := by
            unfold chgE
            rw [if_neg h, if_neg h2, takeB_yes a1 (by rw [hsl]; exact h3), if_neg (by simp), if_pos h4]
          rw [e, if_pos (show (21 : Int) ≠ 0 by decide), if_pos (.inr h4)]
      · have e : chgE s t = (s, 21) := by
          unfold chgE
          rw [if_neg h, if_neg h2, takeB_low a1 (by rw [hsl]; exact h3), if_pos (show (30 : Int) ≠ 0 by decide)]
        rw [e, if_pos (show (21 : Int) ≠ 0 by decide), if_pos (.inl h3)]
end Go.Proofs.YtfoemkmoambagaaGreat
namespace Go.Proofs.YtfoemkmoambagaaGreat
open Go.RowKit Go.Shelf
theorem RSl.one {α : Type} {f : α → List Value} {lo hi : Nat} {W : World} {v : Value} {l : List α} (h : RSl f lo hi W v l) : v.oneCell' = true := by obtain ⟨a, c, rfl⟩ := h.slice; rfl
theorem RSl.all {α : Type} {f : α → List Value} {lo hi : Nat} {w W : World} {v : Value} {l : List α} (h : RSl f lo hi w v l) (hhi : hi ≤ w.heap.size) (hb : Below w.heap.size w W) : RSl f 0 W.heap.size W v l := (h.below hb hhi).mono (Nat.zero_le _) (Nat.le_trans hhi hb.size)
theorem Mem.own {w W W' : World} {l : List MB} {row : Option Nat} (h : Mem w none l W) (hg : W.grownBy W' row) (hr : ∀ k, row = some k → w.heap.size ≤ k ∧ ∀ x ∈ l, x.1 ≠ k) : Mem w none l W' :=
  ⟨fun x hx => ⟨(h.1 x hx).1.kept hg (fun e => (hr _ e.symm).2 x hx rfl), (h.1 x hx).2⟩, h.2.1, ⟨hg.os.trans h.2.2.os, hg.tape.trans h.2.2.tape, hg.output.trans h.2.2.output, Nat.le_trans h.2.2.size hg.size, fun k hk _ => (hg.block k (Nat.lt_of_lt_of_le hk h.2.2.size) (fun e => by have := (hr k e.symm).1; omega)).trans (h.2.2.block k hk (by simp))⟩⟩
end Go.Proofs.YtfoemkmoambagaaGreat
namespace Go.Proofs.YtfoemkmoambagaaGreat
open Go.RowKit Go.Shelf
attribute [local irreducible] wpFrom
def sideE (s : Es) : Es := { s with sd := if s.sd = 1 then 1 else 0, tm := if s.tm < 0 ∨ 1099511627776 < s.tm then 0 else s.tm }
def SideR (s : Es) (v : Value) (w : World) (e : Ending) (W' : World) : Prop := e = .returned (stv (sideE s) v) ∧ Below w.heap.size w W'
theorem SideR.of {s s' : Es} {v : Value} {w W' : World} (h : sideE s = s') (hb : Below w.heap.size w W') : SideR s v w (.returned (stv s' v)) W' := by
  subst h
  exact ⟨rfl, hb⟩
end Go.Proofs.YtfoemkmoambagaaGreat
namespace Go.Proofs.YtfoemkmoambagaaGreat
open Go.RowKit Go.Shelf
theorem run_equalIn_arr {P : Program} (w : World) (d : Nat) (t elem : TypeId) (len n : Nat) (xs ys : Array Value) (f : Nat → Bool) (ht : P.underlying t = some (.array len elem)) (hs : (sizeOf elem).run P w = .ok n w)
    (h : ∀ i, i < len → ∃ a b, (part elem xs (i * n)).run P w = .ok a w ∧ (part elem ys (i * n)).run P w = .ok b w ∧ (Op.equalIn d elem a b).run P w = .ok (f i) w) :
    (Op.equalIn (d + 1) t (.agg xs) (.agg ys)).run P w = .ok ((List.range len).all f) w := by
  simp only [Op.equalIn, Sem.run_bind, run_underlying ht, Result.andThen_ok, hs, Std.Legacy.Range.forIn_eq_forIn_range', Std.Legacy.Range.size, Nat.sub_zero, Nat.add_sub_cancel, Nat.div_one]
  rw [List.range_eq_range']
  have hL : ∀ i ∈ List.range' 0 len 1, i < len := fun i hi => by simpa using (List.mem_range'_1.1 hi).2
  generalize List.range' 0 len 1 = is at *
  clear ht
  induction is with
  | nil => simp
  | cons i is ih =>
    obtain ⟨a, b, h1, h2, h3⟩ := h i (hL i (List.mem_cons_self ..))
    simp only [List.forIn_cons, Sem.run_bind, h1, h2, h3, Result.andThen_ok, List.all_cons]
    cases hf : f i
    · simp
    · simpa using ih (fun j hj => hL j (List.mem_cons_of_mem _ hj))
end Go.Proofs.YtfoemkmoambagaaGreat
namespace Go.Proofs.YtfoemkmoambagaaGreat
open Go.RowKit Go.Shelf
theorem part_row (ty : TypeId) (d : TypeDesc) (hu : Tryz.prog.underlying ty = some d) (hd : (match d with | .struct _ | .array _ _ => true | _ => false) = true) (n : Nat) (hi : (Tryz.prog.info? ty).map (·.size) = some n) (cs ns : List Value) (o : Nat) (h : (cs.drop o).take n = ns) (w : World) :
    (part ty cs.toArray o).run Tryz.prog w = .ok (.agg ns.toArray) w := by
  cases hq : Tryz.prog.info? ty with
  | none => simp [hq] at hi
  | some i =>
    have hs : i.size = n := by simpa [hq] using hi
    have hagg : (isAgg ty).run Tryz.prog w = .ok true w := by
      unfold isAgg
      rw [Sem.run_bind, run_underlying hu w]
      cases d <;> simp_all
    simp [part, Sem.run_bind, hagg, sizeOf, typeInfo, hq, hs]
    exact h
def eqK (b c : Bk) : Bool := (List.range 8).all fun i => (List.range 2).all fun j => wEq (nw (b (2 * i + j)) 0 : Nat) (nw (b (2 * i + j)) 1 : Nat) (nw (b (2 * i + j)) 2 : Nat) (nw (b (2 * i + j)) 3 : Nat) (nw (c (2 * i + j)) 0 : Nat) (nw (c (2 * i + j)) 1 : Nat) (nw (c (2 * i + j)) 2 : Nat) (nw (c (2 * i + j)) 3 : Nat)
theorem eqK_refl (b : Bk) : eqK b b = true := by unfold eqK; simp [wEq_refl]
theorem run_eqK (d : Nat) (b c : Bk) (w : World) : (Op.equalIn (d + 4) 31 (bkv b) (bkv c)).run Tryz.prog w = .ok (eqK b c) w := by
  refine run_equalIn_arr (P := Tryz.prog) w (d + 3) 31 29 8 8 _ _ (fun i => (List.range 2).all fun j => wEq (nw (b (2 * i + j)) 0 : Nat) (nw (b (2 * i + j)) 1 : Nat) (nw (b (2 * i + j)) 2 : Nat) (nw (b (2 * i + j)) 3 : Nat) (nw (c (2 * i + j)) 0 : Nat) (nw (c (2 * i + j)) 1 : Nat) (nw (c (2 * i + j)) 2 : Nat) (nw (c (2 * i + j)) 3 : Nat)) Tryz.underlying31 (by kernel_rfl) (fun i hi => ?_)
  have hp : ∀ x : Bk, (part 29 (bkc x).toArray (i * 8)).run Tryz.prog w = .ok (.agg (rowB x (2 * i) 2).toArray) w := fun x =>
    part_row _ _ Tryz.underlying29 rfl 8 (by kernel_rfl) _ _ _ (by rw [show i * 8 = 8 * i by omega, bkc_row x hi, rowB, rowB, rowB, List.append_nil]) w
  refine ⟨_, _, hp b, hp c, ?_⟩
  refine run_equalIn_arr (P := Tryz.prog) w (d + 2) 29 28 2 4 _ _ (fun j => wEq (nw (b (2 * i + j)) 0 : Nat) (nw (b (2 * i + j)) 1 : Nat) (nw (b (2 * i + j)) 2 : Nat) (nw (b (2 * i + j)) 3 : Nat) (nw (c (2 * i + j)) 0 : Nat) (nw (c (2 * i + j)) 1 : Nat) (nw (c (2 * i + j)) 2 : Nat) (nw (c (2 * i + j)) 3 : Nat)) Tryz.underlying29 (by kernel_rfl) (fun j hj => ?_)
  have hq : ∀ x : Bk, (part 28 (rowB x (2 * i) 2).toArray (j * 4)).run Tryz.prog w = .ok (wn (x (2 * i + j))) w := fun x =>
    part_row _ _ Tryz.underlying28 rfl 4 (by kernel_rfl) _ (ws (nw (x (2 * i + j)))) _ (by rw [show j * 4 = 4 * j by omega, rowB_drop x (2 * i) 2 (by omega), show 4 = 4 * 1 from rfl, rowB_take x (2 * i + j) (2 - j) (by omega), rowB, rowB, List.append_nil]) w
  exact ⟨_, _, hq b, hq c, run_equalIn_wide' d _ _ _ _ _ _ _ _ w⟩
end Go.Proofs.YtfoemkmoambagaaGreat
namespace Go.Proofs.YtfoemkmoambagaaGreat
open Go.RowKit Go.Shelf
attribute [local irreducible] wpFrom
section
variable {ops : Array Oper} {Q : Exit → Act → World → Prop}
theorem op_at {P : Program} {k : Nat} {a : Act} {b : Bool} {d : Option Tmp} {op : Op} (h : (ops[k]?).map (fun o => (Region.wanted o (yielded ops a.tmps), o.dst, o.op)) = some (b, d, op)) : ∃ o, ops[k]? = some o ∧ Region.wanted o (yielded ops a.tmps) = b ∧ o.dst = d ∧ o.op = op ∧ ∀ w, runAt P ops k a w = some (b, d, (execOp a.eval o).run P w) := by
  cases ho : ops[k]? with
  | none => rw [ho] at h; cases h
  | some o =>
    rw [ho, Option.map_some, Option.some.injEq, Prod.mk.injEq, Prod.mk.injEq] at h
    obtain ⟨h1, h2, h3⟩ := h
    exact ⟨o, rfl, h1, h2, h3, fun w => by unfold runAt; rw [ho, Option.map_some, h1, h2]⟩
theorem neA {T : TypeId} (x y : Operand) (z : TypeId) (d : Option Tmp) (xs ys : Array Value) (b : Bool) {k : Nat} {a : Act} {w : World} (he : (Op.equalIn 10000 T (.agg xs) (.agg ys)).run Tryz.prog w = .ok b w) (h : wpFrom Tryz.prog ops Q (k + 1) (a.put d (.bool (!b))) w)
    (hm : Tryz.prog.eqGuardType Tryz.prog.depth T = false := by kernel_rfl) (hk : (ops[k]?).map (fun o => (Region.wanted o (yielded ops a.tmps), o.dst, o.op)) = some (true, d, .binOp .neq T x y z) := by kernel_rfl) (hx : a.eval x = .agg xs := by kernel_rfl) (hy : a.eval y = .agg ys := by kernel_rfl) : wpFrom Tryz.prog ops Q k a w := by
  obtain ⟨o, _, _, _, hop, hr⟩ := op_at (P := Tryz.prog) hk
  refine wpFrom_run ((hr w).trans ?_) h
  unfold execOp
  simp only [hop, hx, hy, Sem.run_bind, run_eqGuard_agg w .neq T x y _ _ hm, run_neq_struct, he, Result.andThen_ok]
  rfl
end
theorem eq_row {T : TypeId} {n : Nat} (hu : Tryz.prog.underlying T = some (.array n 28)) (d : Nat) (b : Bk) (w : World) : (Op.equalIn (d + 3) T (.agg (rowB b 0 n).toArray) (.agg (rowB b 0 n).toArray)).run Tryz.prog w = .ok true w := by
  have e := run_equalIn_arr (P := Tryz.prog) w (d + 2) T 28 n 4 (rowB b 0 n).toArray (rowB b 0 n).toArray (fun i => wEq (nw (b i) 0 : Nat) (nw (b i) 1 : Nat) (nw (b i) 2 : Nat) (nw (b i) 3 : Nat) (nw (b i) 0 : Nat) (nw (b i) 1 : Nat) (nw (b i) 2 : Nat) (nw (b i) 3 : Nat)) hu (by kernel_rfl) (fun i hi => by
    have hp : (part 28 (rowB b 0 n).toArray (i * 4)).run Tryz.prog w = .ok (wn (b i)) w :=
      part_row _ _ Tryz.underlying28 rfl 4 (by kernel_rfl) _ (ws (nw (b i))) _ (by rw [show i * 4 = 4 * i by omega, rowB_drop b 0 n (by omega), Nat.zero_add, show 4 = 4 * 1 from rfl, rowB_take b i (n - i) (by omega), rowB, rowB, List.append_nil]) w
    exact ⟨_, _, hp, hp, run_equalIn_wide' d _ _ _ _ _ _ _ _ w⟩)
  rw [show (List.range n).all (fun i => wEq (nw (b i) 0 : Nat) (nw (b i) 1 : Nat) (nw (b i) 2 : Nat) (nw (b i) 3 : Nat) (nw (b i) 0 : Nat) (nw (b i) 1 : Nat) (nw (b i) 2 : Nat) (nw (b i) 3 : Nat)) = true by simp [wEq_refl]] at e
  exact e
theorem eq_no {T : TypeId} (hu : Tryz.prog.underlying T = some (.array 8 3)) (d : Nat) (f : Nat → Int) (w : World) : (Op.equalIn (d + 2) T (.agg (noc f).toArray) (.agg (noc f).toArray)).run Tryz.prog w = .ok true w := by
  have e := run_equalIn_arr (P := Tryz.prog) w (d + 1) T 3 8 1 (noc f).toArray (noc f).toArray (fun i => f i == f i) hu (by kernel_rfl) (fun i hi => by
    have hp : (part 3 (noc f).toArray (i * 1)).run Tryz.prog w = .ok (.int .i64 (f i)) w := by
      have h1 : ((noc f).toArray)[i * 1]? = some (.int .i64 (f i)) := by rw [Nat.mul_one, List.getElem?_toArray]; exact noc_at f hi
      simp [part, isAgg, run_underlying Tryz.underlying3, go_sem] at h1 ⊢
      simp [h1]
    exact ⟨_, _, hp, hp, run_equalIn_int w d 3 .i64 .i64 _ _ Tryz.underlying3⟩)
  rw [show (List.range 8).all (fun i => f i == f i) = true by simp] at e
  exact e
theorem eq_wn (d n : Nat) (w : World) : (Op.equalIn (d + 2) 28 (wn n) (wn n)).run Tryz.prog w = .ok true w := by
  rw [show wn n = .agg (ws (nw n)).toArray from rfl]
  exact (run_equalIn_wide' d _ _ _ _ _ _ _ _ w).trans (by rw [wEq_refl])
end Go.Proofs.YtfoemkmoambagaaGreat
namespace Go.Proofs.YtfoemkmoambagaaGreat
open Go.RowKit Go.Shelf
attribute [local irreducible] wpFrom
theorem neD {ops : Array Oper} {Q : Exit → Act → World → Prop} {md : Region.Mode} {S : World → Prop} {T : TypeId} (x y : Operand) (z : TypeId) (d : Option Tmp) (xs : Array Value) {m i : Nat} {listed : Array Bool} {a : Act} {w : World} (he : (Op.equalIn 10000 T (.agg xs) (.agg xs)).run Tryz.prog w = .ok true w) (hS : S w) (h : wpAnyH Tryz.prog md ops Q S m (listed.setIfInBounds i true) (a.put d (.bool false)) w)
    (hm : Tryz.prog.eqGuardType Tryz.prog.depth T = false := by kernel_rfl) (hk : (ops[i]?).map (fun o => (Region.wanted o (yielded ops a.tmps), o.dst, o.op)) = some (true, d, .binOp .neq T x y z) := by kernel_rfl) (hx : a.eval x = .agg xs := by kernel_rfl) (hy : a.eval y = .agg xs := by kernel_rfl) : StepH Tryz.prog md ops Q S m listed a w i := by
  obtain ⟨o, _, _, _, hop, hr⟩ := op_at (P := Tryz.prog) hk
  refine stepH_run ((hr w).trans ?_) hS h
  unfold execOp
  simp only [hop, hx, hy, Sem.run_bind, run_eqGuard_agg w .neq T x y _ _ hm, run_neq_struct, he, Result.andThen_ok]
  rfl
section
variable {W : World} {B : Nat} {T : TypeId} {s : Es} {v : Value}
theorem ld_noA (h : Blk W B T (stc s v)) : (Instr.loadAt 32 (.pointer (some ⟨B, 130, none⟩))).run Tryz.prog W = .ok (.agg (noc s.no).toArray) W :=
  load_part h 130 (noc s.no) (by rw [noc_len]; exact st_no s v) _ _ Tryz.underlying32 rfl (by rw [noc_len]; kernel_rfl)
theorem ld_heA (h : Blk W B T (stc s v)) : (Instr.loadAt 29 (.pointer (some ⟨B, 138, none⟩))).run Tryz.prog W = .ok (.agg (rowB s.he 0 2).toArray) W :=
  load_part h 138 (hec s.he) (by rw [hec_len]; exact st_he s v) _ _ Tryz.underlying29 rfl (by rw [hec_len]; kernel_rfl)
end
end Go.Proofs.YtfoemkmoambagaaGreat
namespace Go.Proofs.YtfoemkmoambagaaGreat
open Go.RowKit Go.Shelf
attribute [local irreducible] wpFrom
section
variable {W : World} {B : Nat} {T : TypeId} {s : Es} {v : Value}
end
def SzGe (n : Nat) (W : World) : Prop := n ≤ W.heap.size
theorem SzGe.drew {n : Nat} {W : World} (h : SzGe n W) : SzGe n W.drew := h
theorem SzGe.alloc {n : Nat} {W : World} (h : SzGe n W) (c : Obj) : SzGe n (W.alloc c) := Nat.le_trans h (chainA (Below.refl _ W) c).size
theorem SzGe.grown {n : Nat} {W W' : World} {r : Option Nat} (h : SzGe n W) (hg : W.grownBy W' r) : SzGe n W' := Nat.le_trans h hg.size
end Go.Proofs.YtfoemkmoambagaaGreat
namespace Go.Proofs.YtfoemkmoambagaaGreat
open Go.RowKit Go.Shelf
attribute [local irreducible] wpFrom
theorem genP_eq (a b : Int) : genP a b = genE a b := by
  unfold genP genE
  have h1 : nearI a 1 = if a ≤ 0 then 0 else 1 := by unfold nearI; split <;> omega
  have h2 : nearI b 1099511627776 = if b < 0 then 0 else if 1099511627776 < b then 1099511627776 else b := by unfold nearI; split <;> (try split) <;> omega
  rw [h1, h2]
end Go.Proofs.YtfoemkmoambagaaGreat
namespace Go.Proofs.YtfoemkmoambagaaGreat
open Go.RowKit Go.Shelf
def AppE (s s' : Es) (t : Tr) (c : Int) (b : Bool) : Prop := ∀ (w : World) (e : Ending) (W' : World), ApplyR (applyP s t) w e W' → ∃ v', e = .returned (.tuple #[stv s' v', .int .i64 c, .bool b]) ∧ OwnL w.heap.size W' v' s'.lk ∧ Below w.heap.size w W'
theorem app_any {s : Es} (hs : OkE s) (t : Tr) : ∃ (S : Es) (E : Int) (B : Bool), applyE orcB s t = (S, E, B) ∧ AppE s S t E B ∧ OkE S ∧ (∀ r, r < 2 → sumE S r = sumE s r) ∧ LkE s.lk S.lk :=
  ⟨_, _, _, rfl, fun w e W' h => by rw [apply_eq hs t] at h; exact h, (apply_ok hs).1, (apply_ok hs).2.1, (apply_ok hs).2.2.2.2⟩
def RLk (lo hi : Nat) (W : World) (v : Value) (l : List Lk) : Prop := RSl lkc lo hi W v l ∧ hi ≤ W.heap.size
section
variable {lo hi : Nat} {W W' : World} {v : Value} {l : List Lk}
theorem RLk.drew (h : RLk lo hi W v l) : RLk lo hi W.drew v l := h
theorem RLk.below (h : RLk lo hi W v l) (hb : Below W.heap.size W W') : RLk lo hi W' v l := ⟨h.1.below hb h.2, Nat.le_trans h.2 hb.size⟩
theorem RLk.alloc (h : RLk lo hi W v l) (c : Obj) : RLk lo hi (W.alloc c) v l := h.below ((Below.refl _ W).alloc (Nat.le_refl _) _)
theorem RLk.row (h : RLk lo hi W v l) {B : Nat} (hB : B < lo ∨ hi ≤ B) (cs : Array Value) : RLk lo hi (W.setRow B cs) v l :=
  ⟨h.1.kept h.2 (grownBy_row W B cs) (fun r hr => by obtain rfl := Option.some.inj hr; exact hB), Nat.le_trans h.2 (grownBy_row W B cs).size⟩
theorem RLk.one (h : RLk lo hi W v l) : v.oneCell' = true := h.1.one
end
theorem ld_lkS {W : World} {b o : Nat} {x : Lk} (hc : ∀ j u, (lkc x)[j]? = some u → W.cell? ⟨b, o + j, none⟩ = some u) : (Instr.loadAt 91 (.pointer (some ⟨b, o, none⟩))).run Tryz.prog W = .ok (.agg (lkc x).toArray) W := by
  have h := load_elem (f := lkc) (l := [x]) (k := 0) (x := x) (W := W) (b := b) (off := o) (show Row W b o (flatR lkc [x]) by rw [flat_one]; exact hc) lkc_len rfl 91 _ Tryz.underlying91 rfl (by kernel_rfl)
  rw [Nat.zero_mul, Nat.add_zero] at h
  exact h
theorem txc_25 (t : Tr) : (txc t).length = 25 := rfl
theorem ld_txS {W : World} {b o : Nat} {x : Tr} (hc : ∀ j u, (txc x)[j]? = some u → W.cell? ⟨b, o + j, none⟩ = some u) : (Instr.loadAt 44 (.pointer (some ⟨b, o, none⟩))).run Tryz.prog W = .ok (txv x) W := by
  have h := load_elem (f := fun t => txc t) (l := [x]) (k := 0) (x := x) (W := W) (b := b) (off := o) (show Row W b o (flatR (fun t => txc t) [x]) by rw [flat_one]; exact hc) txc_25 rfl 44 _ Tryz.underlying44 rfl (by kernel_rfl)
  rw [Nat.zero_mul, Nat.add_zero] at h
  exact h
end Go.Proofs.YtfoemkmoambagaaGreat
namespace Go.Proofs.YtfoemkmoambagaaGreat
open Go.RowKit Go.Shelf
def hasN (l : List Tr) (a n : Int) : Bool := l.any fun t => decide (t.fr = a) && decide (t.no = n)
theorem hasN_iff {l : List Tr} {a n : Int} : hasN l a n = true ↔ ∃ t ∈ l, t.fr = a ∧ t.no = n := by
  unfold hasN
  rw [List.any_eq_true]
  constructor
  · rintro ⟨t, h, e⟩
    rw [Bool.and_eq_true, decide_eq_true_eq, decide_eq_true_eq] at e
    exact ⟨t, h, e⟩
  · rintro ⟨t, h, e⟩
    exact ⟨t, h, by rw [Bool.and_eq_true, decide_eq_true_eq, decide_eq_true_eq]; exact e⟩
def NextN (l : List Tr) (a n0 n : Int) : Prop := n0 ≤ n ∧ hasN l a n = false ∧ ∀ m, n0 ≤ m → m < n → hasN l a m = true
theorem nextN_one {l : List Tr} {a n0 x y : Int} (h1 : NextN l a n0 x) (h2 : NextN l a n0 y) : x = y := by
  rcases Int.lt_trichotomy x y with h | h | h
  · have := h2.2.2 x h1.1 h
    rw [h1.2.1] at this
    cases this
  · exact h
  · have := h1.2.2 y h2.1 h
    rw [h2.2.1] at this
    cases this
def passN (a : Int) : List Tr → Int → Int
  | [], n => n
  | t :: l, n => passN a l (if t.fr = a ∧ t.no = n then n + 1 else n)
theorem pass_ge (a : Int) : ∀ (l : List Tr) (n : Int), n ≤ passN a l n
  | [], _ => Int.le_refl _
  | t :: l, n => by
    have := pass_ge a l (if t.fr = a ∧ t.no = n then n + 1 else n)
    rw [passN]
    split at this <;> split <;> omega
theorem pass_snoc (a : Int) : ∀ (l : List Tr) (t : Tr) (n : Int), passN a (l ++ [t]) n = if t.fr = a ∧ t.no = passN a l n then passN a l n + 1 else passN a l n
  | [], _, _ => rfl
  | x :: l, t, n => by
    show passN a (l ++ [t]) _ = _
    rw [pass_snoc a l t]
    rfl
theorem pass_fix {a : Int} : ∀ {l : List Tr} {n : Int}, passN a l n = n → hasN l a n = false
  | [], _, _ => rfl
  | t :: l, n, h => by
    rw [passN] at h
    by_cases e : t.fr = a ∧ t.no = n
    · rw [if_pos e] at h
      have := pass_ge a l (n + 1)
      omega
    · rw [if_neg e] at h
      have ih := pass_fix h
      cases hb : hasN (t :: l) a n with
      | false => rfl
      | true =>
        obtain ⟨x, hx, k⟩ := hasN_iff.1 hb
        rcases List.mem_cons.1 hx with rfl | hx
        · exact absurd k e
        · rw [hasN_iff.2 ⟨x, hx, k⟩] at ih
          cases ih
theorem pass_had {a : Int} : ∀ {l : List Tr} {n m : Int}, n ≤ m → m < passN a l n → hasN l a m = true
  | [], n, m, h1, h2 => by
    have h2' : m < n := h2
    omega
  | t :: l, n, m, h1, h2 => by
    rw [passN] at h2
    have cons : hasN l a m = true → hasN (t :: l) a m = true := fun h => by
      obtain ⟨x, hx, k⟩ := hasN_iff.1 h
      exact hasN_iff.2 ⟨x, List.mem_cons_of_mem _ hx, k⟩
    by_cases e : t.fr = a ∧ t.no = n
    · rw [if_pos e] at h2
      by_cases k : m = n
      · exact hasN_iff.2 ⟨t, List.mem_cons_self .., e.1, e.2.trans k.symm⟩
      · exact cons (pass_had (by omega) h2)
    · rw [if_neg e] at h2
      exact cons (pass_had h1 h2)
def passesN (a : Int) (l : List Tr) : Nat → Int → Int
  | 0, n => n
  | k + 1, n => passN a l (passesN a l k n)
theorem passes_had {a : Int} {l : List Tr} {n : Int} : ∀ {k : Nat} {m : Int}, n ≤ m → m < passesN a l k n → hasN l a m = true
  | 0, m, h1, h2 => by
    have h2' : m < n := h2
    omega
  | k + 1, m, h1, h2 => by
    by_cases e : m < passesN a l k n
    · exact passes_had h1 e
    · exact pass_had (by omega) h2
theorem passes_ge {a : Int} {l : List Tr} {n : Int} : ∀ k : Nat, n ≤ passesN a l k n
  | 0 => Int.le_refl _
  | k + 1 => Int.le_trans (passes_ge k) (pass_ge a l _)
theorem many_le : ∀ (k : Nat) (n : Int) (L : List Int), (∀ m, n ≤ m → m < n + k → m ∈ L) → k ≤ L.length
  | 0, _, _, _ => Nat.zero_le _
  | k + 1, n, L, h => by
    have hk : n + k ∈ L := h _ (by omega) (by omega)
    have := many_le k n (L.erase (n + k)) (fun m h1 h2 => (List.mem_erase_of_ne (by omega)).2 (h m h1 (by omega)))
    rw [List.length_erase_of_mem hk] at this
    have hp : 0 < L.length := List.length_pos_of_mem hk
    omega
theorem passes_far {a : Int} {l : List Tr} {n : Int} : ∀ k : Nat, hasN l a (passesN a l k n) = false ∨ n + k ≤ passesN a l k n
  | 0 => .inr (by show n + (0 : Nat) ≤ n; omega)
  | k + 1 => by
    show hasN l a (passN a l (passesN a l k n)) = false ∨ n + (k + 1 : Nat) ≤ passN a l (passesN a l k n)
    by_cases e : passN a l (passesN a l k n) = passesN a l k n
    · exact .inl (by rw [e]; exact pass_fix e)
    · have := pass_ge a l (passesN a l k n)
      rcases passes_far (a := a) (l := l) (n := n) k with h | h
      · exfalso
        have hh := pass_had (Int.le_refl _) (show passesN a l k n < passN a l (passesN a l k n) by omega)
        rw [h] at hh
        cases hh
      · exact .inr (by omega)
theorem passes_next (l : List Tr) (a n : Int) : NextN l a n (passesN a l (l.length + 1) n) := by
  refine ⟨passes_ge _, ?_, fun m h1 h2 => passes_had h1 h2⟩
  rcases passes_far (a := a) (l := l) (n := n) (l.length + 1) with h | h
  · exact h
  · exfalso
    have := many_le (l.length + 1) n (l.map (·.no)) (fun m h1 h2 => by
      obtain ⟨t, ht, _, e⟩ := hasN_iff.1 (passes_had (a := a) (l := l) (n := n) (k := l.length + 1) h1 (by omega))
      exact List.mem_map.2 ⟨t, ht, e⟩)
    rw [List.length_map] at this
    omega
end Go.Proofs.YtfoemkmoambagaaGreat
namespace Go.Proofs.YtfoemkmoambagaaGreat
open Go.RowKit Go.Shelf
structure Ev where
  tm : Int
  cd : Int
  tx : Tr
def evc (x : Ev) : List Value := .int .i64 x.tm :: .int .i64 x.cd :: txc x.tx
theorem evc_len (x : Ev) : (evc x).length = 27 := rfl
theorem evc_one (x : Ev) : ∀ u ∈ evc x, u.oneCell' = true := by
  intro u hu
  unfold evc at hu
  simp only [List.mem_cons, List.not_mem_nil, or_false] at hu
  rcases hu with rfl | rfl | rfl | rfl | rfl | rfl | rfl | rfl | rfl | rfl | rfl | rfl | rfl | rfl | rfl | rfl | rfl | rfl | rfl | rfl | rfl | rfl | rfl | rfl | rfl | rfl | rfl <;> rfl
theorem txc_one (x : Tr) : ∀ u ∈ txc x, u.oneCell' = true := fun u hu => evc_one ⟨0, 0, x⟩ u (List.mem_cons_of_mem _ (List.mem_cons_of_mem _ hu))
structure Ch where
  st : Es
  po : List Tr
  ev : List Ev
def newC (a z : Int) : Ch := ⟨genP a z, [], []⟩
def submitB (c : Ch) (t : Tr) : Bool := decide (errT t = 0) && (decide (c.po.length < 128) && !(c.po.any fun x => eqT x t))
def submitC (c : Ch) (t : Tr) : Ch := if submitB c t = true then { c with po := c.po ++ [t] } else c
def atC (i : Int) (n : Nat) : Nat := (Int.tmod (Int.tmod i n + n) n).toNat
theorem atC_lt (i : Int) {n : Nat} (h : 0 < n) : atC i n < n := by
  unfold atC
  have h0 : (0 : Int) < n := by omega
  have h1 := Int.lt_tmod_of_pos i h0
  have h2 := Int.tmod_nonneg (a := Int.tmod i n + n) n (by omega)
  have h3 := Int.tmod_lt_of_pos (Int.tmod i n + n) h0
  omega
def tookC (c : Ch) (t : Tr) (k : Nat) : Ch := ⟨(applyP c.st t).1, c.po.eraseIdx k, c.ev ++ [⟨(applyP c.st t).1.tm, (applyP c.st t).2.1, t⟩]⟩
def inclC (c : Ch) (i : Int) : Ch × Bool := match c.po[atC i c.po.length]? with
  | none => (c, false)
  | some t => if (applyP c.st t).2.2 = true then (tookC c t (atC i c.po.length), true) else (c, false)
def riseC (c : Ch) (n : Int) : Ch := { c with st := riseP c.st n }
def waitsC (c : Ch) (a : Int) (k : ByteArray) (kd : Int) : Bool := !k.toList.isEmpty && c.po.any fun t => decide (t.fr = a) && (decide (t.kd = kd) && decide (keyB t.iv = k))
structure OkC (c : Ch) (n : Nat) : Prop where
  st : OkE c.st
  po : c.po.length ≤ 128
  tx : ∀ t ∈ c.po, OkT t ∧ errT t = 0
  ev : c.ev.length ≤ n
  lk : c.st.lk.length ≤ n
theorem submit_ok {c : Ch} {n : Nat} (h : OkC c n) {t : Tr} (ht : OkT t) : OkC (submitC c t) n := by
  unfold submitC
  by_cases e : submitB c t = true
  · rw [if_pos e]
    unfold submitB at e
    rw [Bool.and_eq_true, Bool.and_eq_true, decide_eq_true_eq, decide_eq_true_eq] at e
    exact ⟨h.st, by show (c.po ++ [t]).length ≤ 128; rw [List.length_append, List.length_singleton]; omega, fun x hx => by
      rcases List.mem_append.1 hx with hx | hx
      · exact h.tx x hx
      · obtain rfl := List.mem_singleton.1 hx
        exact ⟨ht, e.1⟩, h.ev, h.lk⟩
  · rw [if_neg e]
    exact h
theorem apply_okP {s : Es} (hs : OkE s) (t : Tr) : OkE (applyP s t).1 ∧ (applyP s t).1.tm = s.tm ∧ LkE s.lk (applyP s t).1.lk := by
  rw [apply_eq hs t]
  exact ⟨(apply_ok hs).1, (apply_ok hs).2.2.2.1, (apply_ok hs).2.2.2.2⟩
theorem incl_ok {c : Ch} {n : Nat} (h : OkC c n) (i : Int) : OkC (inclC c i).1 (n + 1) := by
  have up : OkC c (n + 1) := ⟨h.st, h.po, h.tx, Nat.le_succ_of_le h.ev, Nat.le_succ_of_le h.lk⟩
  unfold inclC
  cases hx : c.po[atC i c.po.length]? with
  | none => exact up
  | some t =>
    dsimp only
    by_cases e : (applyP c.st t).2.2 = true
    · rw [if_pos e]
      obtain ⟨h1, _, h3⟩ := apply_okP h.st t
      exact ⟨h1, Nat.le_trans (List.length_eraseIdx_le _ _) h.po, fun x hx => h.tx x (List.mem_of_mem_eraseIdx hx), by
        show (c.ev ++ [_]).length ≤ n + 1
        rw [List.length_append, List.length_singleton]
        exact Nat.succ_le_succ h.ev, Nat.le_trans (lk_stays h3).2.1 (Nat.succ_le_succ h.lk)⟩
    · rw [if_neg e]
      exact up
end Go.Proofs.YtfoemkmoambagaaGreat
namespace Go.Proofs.YtfoemkmoambagaaGreat
open Go.RowKit Go.Shelf
structure Out (F : List Nat) (w W : World) : Prop where
  os : W.os = w.os
  tape : W.tape = w.tape
  output : W.output = w.output
  size : w.heap.size ≤ W.heap.size
  block : ∀ k, k < w.heap.size → k ∉ F → W.heap[k]? = w.heap[k]?
theorem Out.refl (F : List Nat) (w : World) : Out F w w := ⟨rfl, rfl, rfl, Nat.le_refl _, fun _ _ _ => rfl⟩
theorem Out.of_below {F : List Nat} {w W : World} (h : Below w.heap.size w W) : Out F w W := ⟨h.os, h.tape, h.output, h.size, fun k hk _ => h.block k hk⟩
theorem Out.below {w W : World} (h : Out [] w W) : Below w.heap.size w W := ⟨h.os, h.tape, h.output, h.size, fun k hk => h.block k hk (by simp)⟩
theorem Out.of_grown {F : List Nat} {row : Option Nat} {w W : World} (h : w.grownBy W row) (hr : ∀ k, row = some k → k ∈ F) : Out F w W :=
  ⟨h.os, h.tape, h.output, h.size, fun k hk hF => h.block k hk (fun e => hF (hr k e.symm))⟩
theorem Out.trans {F G : List Nat} {w W W' : World} (h : Out F w W) (h' : Out G W W') (hG : ∀ k ∈ G, k ∈ F ∨ w.heap.size ≤ k) : Out F w W' :=
  ⟨h'.os.trans h.os, h'.tape.trans h.tape, h'.output.trans h.output, Nat.le_trans h.size h'.size, fun k hk hF =>
    (h'.block k (Nat.lt_of_lt_of_le hk h.size) (fun e => (hG k e).elim hF (fun e => absurd hk (Nat.not_lt.2 e)))).trans (h.block k hk hF)⟩
theorem Out.drew {F : List Nat} {w W : World} (h : Out F w W) : Out F w W.drew := ⟨h.os, h.tape, h.output, h.size, h.block⟩
structure Res where
  foot : List Nat
  holds : World → Prop
  stab : ∀ {W W' : World}, (∀ k ∈ foot, W'.heap[k]? = W.heap[k]?) → holds W → holds W'
def Res.blk (B : Nat) (T : TypeId) (cs : List Value) : Res where
  foot := [B]
  holds := fun W => Blk W B T cs
  stab := fun h hB => (h B (List.mem_singleton.2 rfl)).trans hB
def Res.own {α : Type} (f : α → List Value) (e : TypeId) (n : Nat) (v : Value) (l : List α) : Res where
  foot := v.ownBlock.toList
  holds := fun W => W.ownsRow 0 e n v l.length (flatR f l)
  stab := fun {W W'} h hr => by
    refine ⟨hr.1, hr.2.elim .inl fun ⟨g, cap, cur, hv, hg, hb, hx⟩ => .inr ⟨g, cap, cur, hv, hg, ?_, hx⟩⟩
    subst hv
    exact (h g (by simp [Value.ownBlock])).trans hb
structure ROk (r : Res) (W : World) : Prop where
  h : r.holds W
  lt : ∀ k ∈ r.foot, k < W.heap.size
structure RTurn (r r' : Res) (W W' : World) : Prop where
  ok : ROk r' W'
  out : Out r.foot W W'
  foot : ∀ k ∈ r'.foot, k ∈ r.foot ∨ W.heap.size ≤ k
abbrev Apart (r s : Res) : Prop := ∀ k ∈ r.foot, k ∉ s.foot
structure Sep (w : World) (F : List Nat) (l : List Res) (W : World) : Prop where
  ok : ∀ r ∈ l, ROk r W
  new : ∀ r ∈ l, ∀ k ∈ r.foot, k ∈ F ∨ w.heap.size ≤ k
  apart : l.Pairwise Apart
  out : Out F w W
section
variable {w W W' : World} {F : List Nat} {l : List Res} {r r' : Res}
theorem Sep.start (w : World) : Sep w [] [] w := ⟨fun _ h => (List.not_mem_nil h).elim, fun _ h => (List.not_mem_nil h).elim, List.Pairwise.nil, Out.refl _ _⟩
theorem Sep.b (h : Sep w [] l W) : Below w.heap.size w W := h.out.below
theorem Sep.size (h : Sep w F l W) : w.heap.size ≤ W.heap.size := h.out.size
theorem Sep.oka (h : Sep w F l W) (i : Nat) (hi : l[i]? = some r) : ROk r W := h.ok _ (List.mem_of_getElem? hi)
theorem Sep.at (h : Sep w F l W) (i : Nat) {B : Nat} {T : TypeId} {cs : List Value} (hi : l[i]? = some (.blk B T cs)) : Blk W B T cs := (h.oka i hi).h
theorem Sep.drew (h : Sep w F l W) : Sep w F l W.drew := ⟨fun r hr => ⟨r.stab (W := W) (W' := W.drew) (fun _ _ => rfl) (h.ok r hr).h, (h.ok r hr).lt⟩, h.new, h.apart, h.out.drew⟩
theorem Sep.sub (h : Sep w F l W) {l' : List Res} (hs : l'.Sublist l) : Sep w F l' W := ⟨fun r hr => h.ok r (hs.mem hr), fun r hr => h.new r (hs.mem hr), h.apart.sublist hs, h.out⟩
theorem ROk.stay (h : ROk r W) {G : List Nat} (ho : Out G W W') (hd : ∀ k ∈ G, k ∉ r.foot) : ROk r W' :=
  ⟨r.stab (fun k hk => ho.block k (h.lt k hk) (fun e => hd k e hk)) h.h, fun k hk => Nat.lt_of_lt_of_le (h.lt k hk) ho.size⟩
theorem Sep.below (h : Sep w F l W) (hb : Below W.heap.size W W') : Sep w F l W' :=
  ⟨fun r hr => (h.ok r hr).stay (G := []) (Out.of_below hb) (fun _ e => (List.not_mem_nil e).elim), h.new, h.apart, h.out.trans (Out.of_below (F := []) hb) (fun _ e => (List.not_mem_nil e).elim)⟩
theorem Sep.add (h : Sep w F l W) (hb : Below W.heap.size W W') (hr : ROk r W') (hf : ∀ k ∈ r.foot, W.heap.size ≤ k) : Sep w F (r :: l) W' := by
  have h' := h.below hb
  refine ⟨fun s hs => ?_, fun s hs k hk => ?_, List.pairwise_cons.2 ⟨fun s hs k hk e => ?_, h'.apart⟩, h'.out⟩
  · rcases List.mem_cons.1 hs with rfl | hs
    · exact hr
    · exact h'.ok s hs
  · rcases List.mem_cons.1 hs with rfl | hs
    · exact .inr (Nat.le_trans h.size (hf k hk))
    · exact h.new s hs k hk
  · exact absurd ((h.ok s hs).lt k e) (Nat.not_lt.2 (hf k hk))
theorem Sep.alloc (h : Sep w F l W) (T : TypeId) (cs : List Value) : Sep w F (.blk W.heap.size T cs :: l) (W.alloc (.cells cs.toArray T)) :=
  h.add ((Below.refl _ W).alloc (Nat.le_refl _) _) ⟨Blk.new W T cs, fun k hk => by obtain rfl := List.mem_singleton.1 hk; exact (Blk.new W T cs).lt⟩ (fun _ hk => by obtain rfl := List.mem_singleton.1 hk; exact Nat.le_refl _)
theorem Sep.other (h : Sep w F l W) (o : Obj) : Sep w F l (W.alloc o) := h.below ((Below.refl _ W).alloc (Nat.le_refl _) _)
theorem Sep.row {α : Type} {f : α → List Value} {e : TypeId} {n : Nat} {v : Value} {x : List α} (h : Sep w F l W) (hO : W'.ownsRow W.heap.size e n v x.length (flatR f x)) (hb : Below W.heap.size W W') : Sep w F (.own f e n v x :: l) W' := by
  have hl := World.ownsRow.lt hO
  have hm : ∀ k ∈ v.ownBlock.toList, v.ownBlock = some k := fun k hk => by simpa using hk
  refine h.add hb ⟨⟨hO.1, hO.2.elim .inl fun ⟨g, cap, cur, hv, _, hx⟩ => .inr ⟨g, cap, cur, hv, Nat.zero_le _, hx⟩⟩, fun k hk => (hl k (hm k hk)).2⟩ (fun k hk => (hl k (hm k hk)).1)
theorem Sep.nil {α : Type} (f : α → List Value) (e : TypeId) (n : Nat) (h : Sep w F l W) : Sep w F (.own f e n (.slice none 0 0) [] :: l) W :=
  h.add (Below.refl _ W) ⟨World.ownsRow_nil _ _ _ _, fun _ hk => (List.not_mem_nil hk).elim⟩ (fun _ hk => (List.not_mem_nil hk).elim)
theorem out_turn (h : Sep w F l W) (hi : r ∈ l) (ht : RTurn r r' W W') : Out F w W' := h.out.trans ht.out (h.new r hi)
theorem Sep.turn (h : Sep w F l W) (i : Nat) (hi : l[i]? = some r) (ht : RTurn r r' W W') {l' : List Res} (hl : l.set i r' = l') : Sep w F l' W' := by
  subst hl
  have hlt : i < l.length := (List.getElem?_eq_some_iff.1 hi).1
  have hmem := List.mem_of_getElem? hi
  have ap : ∀ j s, l[j]? = some s → j ≠ i → ∀ k ∈ r.foot, k ∉ s.foot := fun j s hs hji k hk hks => by
    obtain ⟨hj, hs'⟩ := List.getElem?_eq_some_iff.1 hs
    obtain ⟨_, hi'⟩ := List.getElem?_eq_some_iff.1 hi
    rcases Nat.lt_or_gt_of_ne hji with hl | hl
    · have := List.pairwise_iff_getElem.1 h.apart j i hj hlt hl
      rw [hs', hi'] at this
      exact this k hks hk
    · have := List.pairwise_iff_getElem.1 h.apart i j hlt hj hl
      rw [hs', hi'] at this
      exact this k hk hks
  have ok' : ∀ j s, l[j]? = some s → j ≠ i → ROk s W' := fun j s hs hji => (h.oka j hs).stay ht.out (ap j s hs hji)
  have far : ∀ j s, l[j]? = some s → j ≠ i → ∀ k ∈ r'.foot, k ∉ s.foot := fun j s hs hji k hk hks => by
    rcases ht.foot k hk with e | e
    · exact ap j s hs hji k e hks
    · exact absurd ((h.oka j hs).lt k hks) (Nat.not_lt.2 e)
  have get : ∀ j s, (l.set i r')[j]? = some s → (j = i ∧ s = r') ∨ (j ≠ i ∧ l[j]? = some s) := fun j s hs => by
    rw [List.getElem?_set] at hs
    by_cases e : i = j
    · subst e
      rw [if_pos rfl, if_pos hlt] at hs
      exact .inl ⟨rfl, (Option.some.inj hs).symm⟩
    · rw [if_neg e] at hs
      exact .inr ⟨fun x => e x.symm, hs⟩
  refine ⟨fun s hs => ?_, fun s hs k hk => ?_, List.pairwise_iff_getElem.2 fun a b ha hb hab k hk hkb => ?_, out_turn h hmem ht⟩
  · obtain ⟨j, hj⟩ := List.mem_iff_getElem?.1 hs
    rcases get j s hj with ⟨_, rfl⟩ | ⟨hne, hj⟩
    · exact ht.ok
    · exact ok' j s hj hne
  · obtain ⟨j, hj⟩ := List.mem_iff_getElem?.1 hs
    rcases get j s hj with ⟨_, rfl⟩ | ⟨hne, hj⟩
    · rcases ht.foot k hk with e | e
      · exact h.new r hmem k e
      · exact .inr (Nat.le_trans h.size e)
    · exact h.new s (List.mem_of_getElem? hj) k hk
  · have ea := get a _ (List.getElem?_eq_getElem ha)
    have eb := get b _ (List.getElem?_eq_getElem hb)
    rcases ea with ⟨ha1, ha2⟩ | ⟨ha1, ha2⟩ <;> rcases eb with ⟨hb1, hb2⟩ | ⟨hb1, hb2⟩
    · omega
    · rw [ha2] at hk
      exact far b _ hb2 hb1 k hk hkb
    · rw [hb2] at hkb
      exact far a _ ha2 ha1 k hkb hk
    · obtain ⟨hal, ha'⟩ := List.getElem?_eq_some_iff.1 ha2
      obtain ⟨hbl, hb'⟩ := List.getElem?_eq_some_iff.1 hb2
      have := List.pairwise_iff_getElem.1 h.apart a b hal hbl hab
      rw [ha', hb'] at this
      exact this k hk hkb
theorem turn_blk {B : Nat} {T : TypeId} {cs cs' : List Value} (h : W.grownBy W' (some B)) (hB : Blk W' B T cs') : RTurn (.blk B T cs) (.blk B T cs') W W' :=
  ⟨⟨hB, fun k hk => by obtain rfl := List.mem_singleton.1 hk; exact hB.lt⟩, Out.of_grown h (fun _ e => by obtain rfl := Option.some.inj e; exact List.mem_singleton.2 rfl), fun _ hk => .inl hk⟩
theorem Sep.set (h : Sep w F l W) (i : Nat) {B : Nat} {T : TypeId} {cs cs' : List Value} (hi : l[i]? = some (.blk B T cs)) {l' : List Res} (hl : l.set i (.blk B T cs') = l') : Sep w F l' (W.setRow B cs'.toArray) :=
  h.turn i hi (turn_blk (grownBy_row W B _) (Blk.row (show Blk W B T cs from (h.oka i hi).h) cs')) hl
theorem turn_own {α : Type} {f : α → List Value} {e : TypeId} {n : Nat} {v v' : Value} {x x' : List α} (hO : W'.ownsRow 0 e n v' x'.length (flatR f x')) (hg : W.grownBy W' v.ownBlock) (hv : ∀ k, v'.ownBlock = some k → v.ownBlock = some k ∨ W.heap.size ≤ k) : RTurn (.own f e n v x) (.own f e n v' x') W W' :=
  ⟨⟨hO, fun k hk => (World.ownsRow.lt hO k (by simpa [Res.own] using hk)).2⟩, Out.of_grown hg (fun k e => by show k ∈ v.ownBlock.toList; rw [e]; exact List.mem_singleton.2 rfl), fun k hk => (hv k (by simpa [Res.own] using hk)).imp (fun e => by show k ∈ v.ownBlock.toList; rw [e]; exact List.mem_singleton.2 rfl) id⟩
theorem ROk.rsl {α : Type} {f : α → List Value} {e : TypeId} {n : Nat} {v : Value} {x : List α} (h : ROk (.own f e n v x) W) (hn : ∀ y, (f y).length = n) : RSl f 0 W.heap.size W v x := RSl.of_own hn h.h
end
def Res.join (l : List Res) : Res where
  foot := l.flatMap (·.foot)
  holds := fun W => (∀ r ∈ l, r.holds W) ∧ l.Pairwise Apart
  stab := fun h hl => ⟨fun r hr => r.stab (fun k hk => h k (List.mem_flatMap.2 ⟨r, hr, hk⟩)) (hl.1 r hr), hl.2⟩
section
variable {w W W' : World} {F : List Nat} {l ps qs : List Res} {r r' : Res}
theorem join_mem {k : Nat} (h : r ∈ ps) (hk : k ∈ r.foot) : k ∈ (Res.join ps).foot := List.mem_flatMap.2 ⟨r, h, hk⟩
theorem Sep.begin (h : ROk (.join ps) w) : Sep w (Res.join ps).foot ps w :=
  ⟨fun r hr => ⟨h.h.1 r hr, fun k hk => h.lt k (join_mem hr hk)⟩, fun _ hr _ hk => .inl (join_mem hr hk), h.h.2, Out.refl _ _⟩
theorem Sep.fin (h : Sep w (Res.join ps).foot l W) (hs : qs.Sublist l) : RTurn (.join ps) (.join qs) w W :=
  ⟨⟨⟨fun r hr => (h.ok r (hs.mem hr)).h, h.apart.sublist hs⟩, fun k hk => by obtain ⟨r, hr, hk⟩ := List.mem_flatMap.1 hk; exact (h.ok r (hs.mem hr)).lt k hk⟩, h.out,
    fun k hk => by obtain ⟨r, hr, hk⟩ := List.mem_flatMap.1 hk; exact h.new r (hs.mem hr) k hk⟩
theorem Sep.close (h : Sep w F (ps ++ l) W) : Sep w F (.join ps :: l) W := by
  refine ⟨fun r hr => ?_, fun r hr k hk => ?_, List.pairwise_cons.2 ⟨fun s hs k hk e => ?_, (List.pairwise_append.1 h.apart).2.1⟩, h.out⟩
  · rcases List.mem_cons.1 hr with rfl | hr
    · exact ⟨⟨fun r hr => (h.ok r (List.mem_append_left _ hr)).h, (List.pairwise_append.1 h.apart).1⟩, fun k hk => by obtain ⟨r, hr, hk⟩ := List.mem_flatMap.1 hk; exact (h.ok r (List.mem_append_left _ hr)).lt k hk⟩
    · exact h.ok r (List.mem_append_right _ hr)
  · rcases List.mem_cons.1 hr with rfl | hr
    · obtain ⟨r, hr, hk⟩ := List.mem_flatMap.1 hk
      exact h.new r (List.mem_append_left _ hr) k hk
    · exact h.new r (List.mem_append_right _ hr) k hk
  · obtain ⟨r, hr, hk⟩ := List.mem_flatMap.1 hk
    exact (List.pairwise_append.1 h.apart).2.2 r hr s hs k hk e
theorem turn_below (h : ROk r W) (hb : Below W.heap.size W W') : RTurn r r W W' :=
  ⟨h.stay (G := []) (Out.of_below hb) (fun _ e => (List.not_mem_nil e).elim), Out.of_below hb, fun _ hk => .inl hk⟩
theorem RTurn.trans {r1 r2 r3 : Res} {W1 W2 W3 : World} (h : RTurn r1 r2 W1 W2) (h' : RTurn r2 r3 W2 W3) : RTurn r1 r3 W1 W3 :=
  ⟨h'.ok, h.out.trans h'.out h.foot, fun k hk => (h'.foot k hk).elim (h.foot k) (fun e => .inr (Nat.le_trans h.out.size e))⟩
end
end Go.Proofs.YtfoemkmoambagaaGreat
namespace Go.Proofs.YtfoemkmoambagaaGreat
open Go.RowKit Go.Shelf
section
variable {α : Type} {f : α → List Value} {e S : TypeId} {n bytes : Nat} {z : Value} {v : Value} {l : List α} {W : World}
theorem turn_refl {r : Res} (h : ROk r W) : RTurn r r W W := turn_below h (Below.refl _ W)
theorem own_apps (hi0 : (Tryz.prog.info? e).map (fun i => (i.zero, i.size, i.bytes)) = some (some z, n, bytes)) (hzs : z.cells.size = n) (h0 : 0 < n) (hu : Tryz.prog.underlying S = some (.slice e)) (hn : ∀ x, (f x).length = n) (h1 : ∀ x, ∀ u ∈ f x, u.oneCell' = true)
    (h : ROk (.own f e n v l) W) (ys : List α) (a : Addr) (c : Nat) (hnews : ∀ j u, (flatR f ys)[j]? = some u → W.cell? (a.add j) = some u) (hb0 : 0 < bytes) (hr : (l.length + ys.length) * bytes ≤ 140737488355328) (ty : TypeId) :
    ∃ v' W', (Builtin.append_ #[S, S] ty #[v, .slice (some a) ys.length c]).run Tryz.prog W = .ok v' W' ∧ RTurn (.own f e n v l) (.own f e n v' (l ++ ys)) W W' := by
  obtain ⟨i0, hi, hz0, hz1, hz2⟩ := info_parts hi0
  have hlen : l.length + ys.length ≤ 140737488355328 := Nat.le_trans (Nat.le_mul_of_pos_right _ hb0) hr
  obtain ⟨v', W', hrun, h2, h3, _, h4⟩ := run_append_own_at (P := Tryz.prog) W 0 S ty e i0 z n bytes hu hi hz0 hz1 hz2 hzs h0 v l.length (flatR f l) h.h a ys.length c (flatR f ys) (flat_len hn ys) hnews
    (fun u hu' => by obtain ⟨x, _, hx⟩ := List.mem_flatMap.1 hu'; exact h1 x u hx) (by unfold maxLen; omega) hr (Nat.zero_le _)
  refine ⟨v', W', hrun, turn_own (by rw [List.length_append, flat_app]; exact h2) h3 (fun k hk => ?_)⟩
  rcases h4 with h4 | h4
  · exact .inl (h4 ▸ hk)
  · rw [h4] at hk
    exact .inr (Nat.le_of_eq (Option.some.inj hk))
theorem own_app1 (hi0 : (Tryz.prog.info? e).map (fun i => (i.zero, i.size, i.bytes)) = some (some z, n, bytes)) (hzs : z.cells.size = n) (h0 : 0 < n) (hu : Tryz.prog.underlying S = some (.slice e)) (hn : ∀ x, (f x).length = n) (h1 : ∀ x, ∀ u ∈ f x, u.oneCell' = true)
    (h : ROk (.own f e n v l) W) (x : α) {N : Nat} {T : TypeId} (hN : Blk W N T (f x)) (hb0 : 0 < bytes) (hr : (l.length + 1) * bytes ≤ 140737488355328) (ty : TypeId) :
    ∃ v' W', (Builtin.append_ #[S, S] ty #[v, .slice (some ⟨N, 0, none⟩) 1 1]).run Tryz.prog W = .ok v' W' ∧ RTurn (.own f e n v l) (.own f e n v' (l ++ [x])) W W' :=
  own_apps hi0 hzs h0 hu hn h1 h [x] ⟨N, 0, none⟩ 1 (fun j u hj => by rw [flat_one] at hj; rw [addr_add, Nat.zero_add]; exact (hN.cell j).trans hj) hb0 hr ty
theorem own_appR (hi0 : (Tryz.prog.info? e).map (fun i => (i.zero, i.size, i.bytes)) = some (some z, n, bytes)) (hzs : z.cells.size = n) (h0 : 0 < n) (hu : Tryz.prog.underlying S = some (.slice e)) (hn : ∀ x, (f x).length = n) (h1 : ∀ x, ∀ u ∈ f x, u.oneCell' = true)
    (h : ROk (.own f e n v l) W) {x : Value} {ys : List α} {lo hi : Nat} (hx : RSl f lo hi W x ys) (hb0 : 0 < bytes) (hr : (l.length + ys.length) * bytes ≤ 140737488355328) (ty : TypeId) :
    ∃ v' W', (Builtin.append_ #[S, S] ty #[v, x]).run Tryz.prog W = .ok v' W' ∧ RTurn (.own f e n v l) (.own f e n v' (l ++ ys)) W W' := by
  obtain ⟨a, c, rfl⟩ := hx.slice
  cases a with
  | some a => exact own_apps hi0 hzs h0 hu hn h1 h ys a c hx.cells hb0 hr ty
  | none =>
    obtain ⟨a', c', e', _, _, h0' | ⟨b, off, ha, _⟩⟩ := hx
    · subst h0'
      obtain ⟨i0, hi, hz0, hz1, hz2⟩ := info_parts hi0
      refine ⟨v, W, ?_, by rw [List.append_nil]; exact turn_refl h⟩
      rcases h.h.2 with ⟨rfl, hl0⟩ | ⟨g, cap, cur, rfl, _, hg, hnc, hcm, hcs, _⟩
      · simp [Builtin.append_, run_underlying hu, sizeOf, typeInfo, hi, Builtin.lenOf, Builtin.firstCells]
      · simp [Builtin.append_, run_underlying hu, sizeOf, typeInfo, hi, Builtin.lenOf, Builtin.firstCells, loadCells, hnc, storeCells]
    · cases e'
      cases ha
end
end Go.Proofs.YtfoemkmoambagaaGreat
namespace Go.Proofs.YtfoemkmoambagaaGreat
open Go.RowKit Go.Shelf
theorem ROk.elem {α : Type} {f : α → List Value} {n : Nat} {W : World} {v : Value} {l : List α} {e : TypeId} (h : ROk (.own f e n v l) W) (hn : ∀ x, (f x).length = n) {k : Nat} {x : α} (hx : l[k]? = some x) {ty e' : TypeId} (hu : Tryz.prog.underlying ty = some (.slice e')) (hs : ∀ W, (sizeOf e').run Tryz.prog W = .ok n W) :
    ∃ b o, (∀ W', (Instr.indexAt ty v (.int .i64 (k : Int))).run Tryz.prog W' = .ok (.pointer (some ⟨b, o, none⟩)) W') ∧ ∀ W', ROk (.own f e n v l) W' → ∀ j u, (f x)[j]? = some u → W'.cell? ⟨b, o + j, none⟩ = some u := by
  obtain ⟨b, o, _, _, hi, _⟩ := RSl.elem (h.rsl hn) hn hx hu hs
  refine ⟨b, o, hi, fun W' h' => ?_⟩
  obtain ⟨b', o', _, _, hi', hc'⟩ := RSl.elem (h'.rsl hn) hn hx hu hs
  have hq := (hi' W).symm.trans (hi W)
  obtain ⟨rfl, rfl⟩ : b' = b ∧ o' = o := by simpa using hq
  exact hc' W' (h'.rsl hn)
theorem ROk.slice {α : Type} {f : α → List Value} {n : Nat} {W : World} {v : Value} {l : List α} {e : TypeId} (h : ROk (.own f e n v l) W) (hn : ∀ x, (f x).length = n) : ∃ a c, v = .slice a l.length c := (h.rsl hn).slice
theorem ROk.one {α : Type} {f : α → List Value} {n : Nat} {W : World} {v : Value} {l : List α} {e : TypeId} (h : ROk (.own f e n v l) W) (hn : ∀ x, (f x).length = n) : v.oneCell' = true := by
  obtain ⟨a, c, rfl⟩ := h.slice hn
  rfl
end Go.Proofs.YtfoemkmoambagaaGreat
