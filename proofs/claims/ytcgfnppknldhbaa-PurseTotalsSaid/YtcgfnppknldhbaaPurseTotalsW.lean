/-
  The walk of PurseTotals: all accounts' sum is one by one, or too much.
-/
import Derived.Test.YtcgfnppknldhbaaPurseAlive
import Derived.Outline
namespace Go.Proofs.Ytcgfnppknldhbaa
open Go.RowKit Go.Shelf

/-- The first k accounts' sum. -/
def pS (b : Bk) (s : Nat) : Nat → Nat
  | 0 => 0
  | k + 1 => pS b s k + b (2 * k + s)
theorem pS_all (b : Bk) (s : Nat) : pS b s 8 = sumB b s := by
  simp only [pS, sumB, Nat.zero_add, Nat.mul_zero, Nat.reduceMul]
theorem pS_mono (b : Bk) (s : Nat) {k m : Nat} (h : k ≤ m) : pS b s k ≤ pS b s m := by
  induction m with
  | zero => rw [Nat.le_zero.1 h]; exact Nat.le_refl _
  | succ m ih =>
    by_cases e : k = m + 1
    · rw [e]; exact Nat.le_refl _
    · exact Nat.le_trans (ih (by omega)) (Nat.le_add_right _ _)
/-- So far: a sum, or too much. -/
def accS (b : Bk) (s k v : Nat) (f : Bool) : Prop := (f = true ∧ v = pS b s k ∧ pS b s k < M4) ∨ (f = false ∧ v = 0 ∧ M4 ≤ pS b s k)
theorem acc_zero (b : Bk) (s : Nat) : accS b s 0 0 true := .inl ⟨rfl, rfl, by show 0 < M4; unfold M4 M; decide⟩
theorem acc_lt {b : Bk} {s k v : Nat} {f : Bool} (h : accS b s k v f) : v < M4 := by
  rcases h with ⟨_, e, h⟩ | ⟨_, e, _⟩
  · rw [e]; exact h
  · rw [e]; unfold M4 M; decide
theorem acc_next {b : Bk} {s k v : Nat} (h : accS b s k v true) : accS b s (k + 1) (addN v (b (2 * k + s))) (fitB v (b (2 * k + s))) := by
  rcases h with ⟨_, rfl, hl⟩ | ⟨h, _⟩
  · unfold accS addN fitB
    by_cases hx : pS b s k + b (2 * k + s) < M4
    · exact .inl ⟨decide_eq_true hx, if_pos hx, hx⟩
    · exact .inr ⟨decide_eq_false hx, if_neg hx, by show M4 ≤ pS b s k + b (2 * k + s); omega⟩
  · cases h
theorem acc_end {b : Bk} {s k v : Nat} {f : Bool} (hs : s < 2) (h : accS b s k v f) (hk : k ≤ 8) (he : f = false ∨ k = 8) : totB b (s : Int) = (v, f) := by
  have hm := pS_mono b s hk
  rw [pS_all] at hm
  unfold totB
  rw [show ((s : Int)).toNat = s from rfl]
  rcases h with ⟨rfl, rfl, hl⟩ | ⟨rfl, rfl, hg⟩
  · rcases he with h | rfl
    · cases h
    · rw [pS_all] at *
      rw [if_pos ⟨by omega, hl⟩]
  · rw [if_neg (fun k => by omega)]

set_option maxRecDepth 100000 in
set_option maxHeartbeats 4000000 in
theorem purseTotals_any (b : Bk) (hb : OkK b) (s : Int) (w : World) :
    Calls Try.prog 5 #[bkv b, .int .i64 s] w fun e W' => e = .returned (.bool true) ∧ Below w.heap.size w W' := by
  have hmx : Try.prog.follows .mixedOrders = true := by kernel_rfl
  have kB := Blk.new w 27 (bkc b)
  have hB := chain0 w (.cells (bkc b).toArray 27)
  have HA := Lib.hid purseAlive_any
  have HT := Lib.hid (fun W => bookTotal_any b hb s W)
  by_cases h : 0 ≤ s ∧ s < 2
  · obtain ⟨h3, h4⟩ := h
    obtain ⟨j, rfl⟩ : ∃ j : Nat, s = j := ⟨s.toNat, by omega⟩
    have hj : j < 2 := by omega
    have HE := Lib.hid (fun (k v : Nat) (f : Bool) (h : accS b j k v f) => acc_end hj h)
    generalize totB b (j : Int) = tt at *
    obtain ⟨tn, tb⟩ := tt
    dsimp only at *
    have h5 : ¬ (j : Int) < 0 := by omega
    have h6 : ¬ 1 < (j : Int) := by omega
    go_enter Try.func5, Try.ntmps5
    go_wp2_with (first
      | (go_at_call 6; refine (HA.out _).mono ?_; rintro e w0 ⟨rfl, hb0⟩; replace kB := kB.below hb0 kB.lt; replace hB := chain hB hb0; clear hb0)
      | ((with_reducible refine wpList_loadIf 27 (.tmp 2) ?_ (some 13) ?_ ?_ (bkv (b)) ?_ ?_); (· rfl); (· rfl); (· rfl); (· exact load_book kB))
      | (go_at_call 15; refine (HT.out _).mono ?_; rintro e w1 ⟨rfl, hb1⟩; replace kB := kB.below hb1 kB.lt; replace hB := chain hB hb1; clear hb1; have kN := Blk.new w1 24 (ws (nw tn))))
    have kW0 : Blk ((w1.alloc (.cells (ws (nw tn)).toArray 24)).alloc (.cells #[.int .u64 0, .int .u64 0, .int .u64 0, .int .u64 0] 24)) (w1.heap.size + 1) 24 (ws (nw 0)) := by rw [ws_no]; exact Blk.new' (by simp)
    have hg1 : w.heap.size < w1.heap.size := kB.lt
    replace kB := (kB.alloc (.cells (ws (nw tn)).toArray 24)).alloc (.cells #[.int .u64 0, .int .u64 0, .int .u64 0, .int .u64 0] 24)
    replace kN := kN.alloc (.cells #[.int .u64 0, .int .u64 0, .int .u64 0, .int .u64 0] 24)
    replace hB := chainA (chainA hB (.cells (ws (nw tn)).toArray 24)) (.cells #[.int .u64 0, .int .u64 0, .int .u64 0, .int .u64 0] 24)
    have HB4 := Lib.hid hb
    have hac := acc_zero b j
    clear hb HA HT
    go_loopw [8, 9] (fun fv i wr => ∃ (k v : Nat) (f : Bool), k ≤ 8 ∧ i = .int .i64 k ∧ fv = .bool f ∧ accS b j k v f ∧ Blk wr w.heap.size 27 (bkc b) ∧ Blk wr w1.heap.size 24 (ws (nw tn)) ∧ Blk wr (w1.heap.size + 1) 24 (ws (nw v)) ∧ Below w.heap.size w wr) (fun _ i _ => 8 - (intOf i).toNat)
    case atStart => exact ⟨0, 0, true, by omega, rfl, rfl, hac, kB, kN, kW0, hB⟩
    clear kB kN kW0 hB hac
    case round =>
      obtain ⟨k, v, f, hk, rfl, rfl, hac, kB, kN, kW, hB⟩ := hrel
      by_cases hlt : k < 8
      · have hlt' : (k : Int) < 8 := by omega
        cases f with
        | true =>
          have hv := acc_lt hac
          have hx := acc_next hac
          have hq : b (2 * k + j) < M4 := HB4.out _ (by omega)
          have HC := Lib.hid (refAddN_any hv hq)
          have HX := Lib.hid hx
          clear hx hac hv hq
          go_wp2_with fail
          refine wp_region_held_drew (S := fun W => Blk W w.heap.size 27 (bkc b)) hmx kB.drew ?_
          intro hS
          replace kN : Blk wr.drew _ _ _ := kN
          replace kW : Blk wr.drew _ _ _ := kW
          replace hB := hB.drew
          clear kB
          generalize wr.drew = Y at *
          refine' wpAnyH_take (i := 1) (oi := _) (v := _) ?hi1 (by kernel_rfl) (by kernel_rfl) (by kernel_rfl) ?hQ1 (Or.inl ⟨?hw1, ?hy1⟩) hS ?rest1
          case hi1 => simp only [List.getElem?_toArray, List.getElem?_cons_succ, List.getElem?_cons_zero]; rfl
          case hQ1 => exact fun _ _ _ h => h
          case hw1 => rfl
          case hy1 => intro W' hS'; go_simp; with_reducible rfl
          try simp only [Act.put, List.setIfInBounds_toArray, List.set_cons_zero, List.set_cons_succ]
          refine' wpAnyH_take (i := 2) (oi := _) (v := _) ?hi2 (by kernel_rfl) (by kernel_rfl) (by kernel_rfl) ?hQ2 (Or.inl ⟨?hw2, ?hy2⟩) hS ?rest2
          case hi2 => simp only [List.getElem?_toArray, List.getElem?_cons_succ, List.getElem?_cons_zero]; rfl
          case hQ2 => exact fun _ _ _ h => h
          case hw2 => rfl
          case hy2 => intro W' hS'; go_simp; with_reducible rfl
          try simp only [Act.put, List.setIfInBounds_toArray, List.set_cons_zero, List.set_cons_succ]
          refine' wpAnyH_take (i := 3) (oi := _) (v := _) ?hi3 (by kernel_rfl) (by kernel_rfl) (by kernel_rfl) ?hQ3 (Or.inl ⟨?hw3, ?hy3⟩) hS ?rest3
          case hi3 => simp only [List.getElem?_toArray, List.getElem?_cons_succ, List.getElem?_cons_zero]; rfl
          case hQ3 => exact fun _ _ _ h => h
          case hw3 => rfl
          case hy3 => intro W' hS'; go_simp; with_reducible rfl
          try simp only [Act.put, List.setIfInBounds_toArray, List.set_cons_zero, List.set_cons_succ]
          refine' wpAnyH_take (i := 4) (oi := _) (v := _) ?hi4 (by kernel_rfl) (by kernel_rfl) (by kernel_rfl) ?hQ4 (Or.inl ⟨?hw4, ?hy4⟩) hS ?rest4
          case hi4 => simp only [List.getElem?_toArray, List.getElem?_cons_succ, List.getElem?_cons_zero]; rfl
          case hQ4 => exact fun _ _ _ h => h
          case hw4 => rfl
          case hy4 => intro W' hS'; go_simp; with_reducible rfl
          try simp only [Act.put, List.setIfInBounds_toArray, List.set_cons_zero, List.set_cons_succ]
          refine' wpAnyH_take (i := 5) (oi := _) (v := wn (b (2 * k + j))) ?hi5 (by kernel_rfl) (by kernel_rfl) (by kernel_rfl) ?hQ5 (Or.inl ⟨?hw5, ?hy5⟩) hS ?rest5
          case hi5 => simp only [List.getElem?_toArray, List.getElem?_cons_succ, List.getElem?_cons_zero]; rfl
          case hQ5 => exact fun _ _ _ h => h
          case hw5 => rfl
          case hy5 => exact fun W' hS' => exec_load 24 (.tmp 43) rfl _ W' (load_slot hS' hlt hj)
          try simp only [Act.put, List.setIfInBounds_toArray, List.set_cons_zero, List.set_cons_succ]
          refine wpAnyH_ready (rs := [0]) (by kernel_rfl) (by simp) ?_
          refine' AllReadyH.cons (o := _) ?ho6 (fun K hK => ?st6) AllReadyH.nil
          case ho6 => simp only [List.getElem?_toArray, List.getElem?_cons_zero]; rfl
          case st6 =>
            refine wp_loadOp 24 (.tmp 7) rfl (some 39) rfl (wn v) (load_wn kW) ?_
            refine hK.out _ _ hS (fun hS => ?_)
            clear hK K
            try simp only [Act.put, List.setIfInBounds_toArray, List.set_cons_zero, List.set_cons_succ]
            refine wpAnyH_ready (rs := [6]) (by kernel_rfl) (by simp) ?_
            refine' AllReadyH.cons (o := _) ?ho7 (fun K hK => ?st7) AllReadyH.nil
            case ho7 => simp only [List.getElem?_toArray, List.getElem?_cons_succ, List.getElem?_cons_zero]; rfl
            case st7 =>
              go_simp
              refine (HC.out _).mono ?_
              rintro e Y1 ⟨rfl, hb1⟩
              replace kN := kN.below hb1 kN.lt
              replace kW := kW.below hb1 kW.lt
              replace hB := chain hB hb1
              refine hK.out _ _ (hS.below hb1 hS.lt) (fun hS => ?_)
              clear hK K
              try simp only [Act.put, List.setIfInBounds_toArray, List.set_cons_zero, List.set_cons_succ]
              clear hb1
              refine' wpAnyH_take (i := 7) (oi := _) (v := _) ?hi8 (by kernel_rfl) (by kernel_rfl) (by kernel_rfl) ?hQ8 (Or.inl ⟨?hw8, ?hy8⟩) hS ?rest8
              case hi8 => simp only [List.getElem?_toArray, List.getElem?_cons_succ, List.getElem?_cons_zero]; rfl
              case hQ8 => exact fun _ _ _ h => h
              case hw8 => rfl
              case hy8 => intro W' hS'; go_simp; with_reducible rfl
              try simp only [Act.put, List.setIfInBounds_toArray, List.set_cons_zero, List.set_cons_succ]
              refine' wpAnyH_take (i := 8) (oi := _) (v := _) ?hi9 (by kernel_rfl) (by kernel_rfl) (by kernel_rfl) ?hQ9 (Or.inl ⟨?hw9, ?hy9⟩) hS ?rest9
              case hi9 => simp only [List.getElem?_toArray, List.getElem?_cons_succ, List.getElem?_cons_zero]; rfl
              case hQ9 => exact fun _ _ _ h => h
              case hw9 => rfl
              case hy9 => intro W' hS'; go_simp; with_reducible rfl
              try simp only [Act.put, List.setIfInBounds_toArray, List.set_cons_zero, List.set_cons_succ]
              refine' wpAnyH_take (i := 9) (oi := _) (v := _) ?hi10 (by kernel_rfl) (by kernel_rfl) (by kernel_rfl) ?hQ10 (Or.inl ⟨?hw10, ?hy10⟩) hS ?rest10
              case hi10 => simp only [List.getElem?_toArray, List.getElem?_cons_succ, List.getElem?_cons_zero]; rfl
              case hQ10 => exact fun _ _ _ h => h
              case hw10 => rfl
              case hy10 => intro W' hS'; go_simp; with_reducible rfl
              try simp only [Act.put, List.setIfInBounds_toArray, List.set_cons_zero, List.set_cons_succ]
              refine wpAnyH_ready (rs := [10]) (by kernel_rfl) (by simp) ?_
              refine' AllReadyH.cons (o := _) ?ho11 (fun K hK => ?st11) AllReadyH.nil
              case ho11 => simp only [List.getElem?_toArray, List.getElem?_cons_succ, List.getElem?_cons_zero]; rfl
              case st11 =>
                refine wp_store_wn (.tmp 7) (.tmp 46) kW (addN v (b (2 * k + j))) rfl rfl rfl rfl ?_
                replace kN := kN.rowO (ws (nw (addN v (b (2 * k + j))))).toArray (show w1.heap.size ≠ w1.heap.size + 1 by omega)
                replace hB := hB.grown (grownBy_row Y1 (w1.heap.size + 1) (ws (nw (addN v (b (2 * k + j))))).toArray) hB.size (fun e he => by cases he; omega)
                replace kW := kW.row (ws (nw (addN v (b (2 * k + j)))))
                refine hK.out _ _ (hS.rowO _ (show w.heap.size ≠ w1.heap.size + 1 by omega)) (fun hS => ?_)
                clear hK K
                try simp only [Act.put, List.setIfInBounds_toArray, List.set_cons_zero, List.set_cons_succ]
                refine' wpAnyH_take (i := 11) (oi := _) (v := _) ?hi12 (by kernel_rfl) (by kernel_rfl) (by kernel_rfl) ?hQ12 (Or.inl ⟨?hw12, ?hy12⟩) hS ?rest12
                case hi12 => simp only [List.getElem?_toArray, List.getElem?_cons_succ, List.getElem?_cons_zero]; rfl
                case hQ12 => exact fun _ _ _ h => h
                case hw12 => rfl
                case hy12 => intro W' hS'; go_simp; with_reducible rfl
                try simp only [Act.put, List.setIfInBounds_toArray, List.set_cons_zero, List.set_cons_succ]
                refine wpAnyH_done (by kernel_rfl) ?_ _
                go_wp2_with fail
                go_roundw
                case rel => exact ⟨k + 1, _, _, by omega, by simp, rfl, HX.out, hS, kN, kW, hB⟩
                case measure => simp [intOf]; omega
        | false =>
          have he := HE.out k v false hac hk (.inl rfl)
          obtain ⟨rfl, rfl⟩ : tn = v ∧ tb = false := by injection he with h1 h2; exact ⟨h1, h2⟩
          clear he hac HE
          go_wp2_with (first
            | ((with_reducible refine wpList_loadIf 24 (.tmp 5) ?_ (some 48) ?_ ?_ (wn (tn)) ?_ ?_); (· rfl); (· rfl); (· rfl); (· exact load_wn kN))
            | ((with_reducible refine wpList_loadIf 24 (.tmp 7) ?_ (some 49) ?_ ?_ (wn (tn)) ?_ ?_); (· rfl); (· rfl); (· rfl); (· exact load_wn kW))
            | ((with_reducible refine wpList_valIf (some 50) ?_ ?_ (.bool true) ?_ ?_); (· rfl); (· rfl); (· exact exec_eqN (.tmp 48) (.tmp 49) _ rfl (tn) rfl rfl _)))
          go_ret
          exact ⟨rfl, hB⟩
      · obtain rfl : k = 8 := by omega
        have he := HE.out 8 v f hac hk (.inr rfl)
        obtain ⟨rfl, rfl⟩ : tn = v ∧ tb = f := by injection he with h1 h2; exact ⟨h1, h2⟩
        clear he hac HE
        go_wp2_with (first
          | ((with_reducible refine wpList_loadIf 24 (.tmp 5) ?_ (some 48) ?_ ?_ (wn (tn)) ?_ ?_); (· rfl); (· rfl); (· rfl); (· exact load_wn kN))
          | ((with_reducible refine wpList_loadIf 24 (.tmp 7) ?_ (some 49) ?_ ?_ (wn (tn)) ?_ ?_); (· rfl); (· rfl); (· rfl); (· exact load_wn kW))
          | ((with_reducible refine wpList_valIf (some 50) ?_ ?_ (.bool true) ?_ ?_); (· rfl); (· rfl); (· exact exec_eqN (.tmp 48) (.tmp 49) _ rfl (tn) rfl rfl _)))
        go_ret
        exact ⟨rfl, hB⟩
  · have ht : totB b s = (0, false) := if_neg fun k => h k.1
    rw [ht] at HT
    clear ht hb
    have HT2 : Hid (∀ W, Calls Try.prog 15 #[bkv b, .int .i64 s] W fun e W' => e = .returned (.tuple #[wv 0 0 0 0, .bool false]) ∧ Below W.heap.size W W') := Lib.hid fun W => (HT.out W).mono fun e W' h => ⟨by rw [h.1, wn_zero], h.2⟩
    have heq := run_equalIn_wide
    have hrefl := wEq_refl
    clear HT
    by_cases h5 : s < 0
    · clear h
      go_enter Try.func5, Try.ntmps5
      go_wp2_with (first
        | (go_at_call 6; refine (HA.out _).mono ?_; rintro e w0 ⟨rfl, hb0⟩; replace kB := kB.below hb0 kB.lt; replace hB := chain hB hb0; clear hb0)
        | ((with_reducible refine wpList_loadIf 27 (.tmp 2) ?_ (some 13) ?_ ?_ (bkv (b)) ?_ ?_); (· rfl); (· rfl); (· rfl); (· exact load_book kB))
        | (go_at_call 15; refine (HT2.out _).mono ?_; rintro e w1 ⟨rfl, hb1⟩; replace kB := kB.below hb1 kB.lt; replace hB := chain hB hb1; clear hb1))
      go_ret
      exact ⟨rfl, chainA hB _⟩
    · have h6 : 1 < s := by omega
      clear h
      go_enter Try.func5, Try.ntmps5
      go_wp2_with (first
        | (go_at_call 6; refine (HA.out _).mono ?_; rintro e w0 ⟨rfl, hb0⟩; replace kB := kB.below hb0 kB.lt; replace hB := chain hB hb0; clear hb0)
        | ((with_reducible refine wpList_loadIf 27 (.tmp 2) ?_ (some 13) ?_ ?_ (bkv (b)) ?_ ?_); (· rfl); (· rfl); (· rfl); (· exact load_book kB))
        | (go_at_call 15; refine (HT2.out _).mono ?_; rintro e w1 ⟨rfl, hb1⟩; replace kB := kB.below hb1 kB.lt; replace hB := chain hB hb1; clear hb1))
      go_ret
      exact ⟨rfl, chainA hB _⟩
end Go.Proofs.Ytcgfnppknldhbaa
