/-
  The reference's prime: the first so many primes.
-/
import Derived.Test.YtboadnbkfoclpaaRefBase
import Derived.Test.YtboadnbkfoclpaaRefDigits
import Derived.Maps.AppendAt
import Derived.Outline
namespace Go.Proofs.Ytboadnbkfoclpaa
open Go.RowKit

/-- The primes below k. -/
def pr : Nat → List Nat
  | 0 => []
  | k + 1 => if 2 ≤ k ∧ (pr k).all (fun x => k % x != 0) = true then pr k ++ [k] else pr k
theorem pr_two : pr 2 = [] := rfl
theorem pr_len_le (k : Nat) : (pr k).length ≤ (pr (k + 1)).length := by
  rw [pr]; split
  · simp
  · exact Nat.le_refl _
theorem pr_mono {j k : Nat} (h : j ≤ k) : (pr j).length ≤ (pr k).length := by
  induction h with
  | refl => exact Nat.le_refl _
  | step _ ih => exact Nat.le_trans ih (pr_len_le _)
theorem pr_pos : ∀ k, ∀ x ∈ pr k, 2 ≤ x ∧ x < k
  | 0, x, h => by simp [pr] at h
  | k + 1, x, h => by
    rw [pr] at h
    split at h
    · rename_i hc
      rcases List.mem_append.1 h with h | h
      · have := pr_pos k x h; omega
      · simp at h; omega
    · have := pr_pos k x h; omega
theorem pr311 : (pr 311).length = 63 := by kernel_rfl
theorem pr312 : (pr 312).length = 64 := by kernel_rfl
def prF (k : Nat) (i : Nat) : Nat := (pr k).getD i 0
theorem OR.congr {W : World} {base : Nat} {v : Value} {n : Nat} {f g : Nat → Nat} (h : OR W base v n f) (e : ∀ i, i < n → f i = g i) : OR W base v n g := by
  have e2 : (List.range n).map (fun k => Value.int .i64 (f k : Nat)) = (List.range n).map (fun k => Value.int .i64 (g k : Nat)) := List.map_congr_left (fun i hi => by rw [e i (List.mem_range.1 hi)])
  unfold OR at *
  rw [← e2]
  exact h
theorem OR.slice {W : World} {base : Nat} {v : Value} {n : Nat} {f : Nat → Nat} (h : OR W base v n f) : ∃ a c, v = .slice a n c := by
  rcases h.out.2 with ⟨rfl, rfl⟩ | ⟨g, cap, cur, rfl, _⟩
  · exact ⟨_, _, rfl⟩
  · exact ⟨_, _, rfl⟩
theorem mod_ne (k x : Nat) : ((k : Int) % (x : Int) != 0) = (k % x != 0) := by
  have h : (k : Int) % (x : Int) = ((k % x : Nat) : Int) := by simp
  rw [h]
  generalize k % x = r
  cases r with
  | zero => rfl
  | succ r => simp; omega
theorem pr_yes {k : Nat} (h2 : 2 ≤ k) (h : (pr k).all (fun x => k % x != 0) = true) : pr (k + 1) = pr k ++ [k] := by rw [pr, if_pos ⟨h2, h⟩]
theorem pr_no {k : Nat} (h : (pr k).all (fun x => k % x != 0) = false) : pr (k + 1) = pr k := by rw [pr, if_neg (by rw [h]; simp)]
theorem prF_old {k : Nat} (h : pr (k + 1) = pr k ++ [k]) (i : Nat) (hi : i < (pr k).length) : prF k i = prF (k + 1) i := by
  unfold prF
  rw [h, List.getD_eq_getElem?_getD, List.getD_eq_getElem?_getD, List.getElem?_append_left hi]
theorem prF_new {k : Nat} (h : pr (k + 1) = pr k ++ [k]) : prF (k + 1) (pr k).length = k := by
  unfold prF
  rw [h, List.getD_eq_getElem?_getD, List.getElem?_append_right (Nat.le_refl _)]
  simp
theorem all_take {l : List Nat} {f : Nat → Bool} {i : Nat} (h : i < l.length) : (l.take (i + 1)).all f = ((l.take i).all f && f (l.getD i 0)) := by
  rw [List.take_succ_eq_append_getElem h, List.all_append]
  simp [h]

set_option maxRecDepth 100000 in
set_option maxHeartbeats 4000000 in
theorem prime_any (w : World) : Calls Try.prog 15 #[.int .i64 64] w (SlW 64 (prF 312) w) := by
  obtain ⟨i0, hi, hz0, hz1, hz2⟩ := info_parts Try.infoInt
  go_enter Try.func15, Try.ntmps15
  go_wp2_with fail
  go_loopw [3, 4] (fun v k' wr => ∃ k : Nat, 2 ≤ k ∧ k ≤ 312 ∧ k' = .int .i64 (k : Int) ∧ OR wr w.heap.size v (pr k).length (prF k) ∧ Below w.heap.size w wr) (fun _ k' _ => 312 - (intOf k').toNat)
  case atStart => exact ⟨2, by omega, by omega, rfl, OR.nil _ _ _, Below.refl _ _⟩
  case round =>
    obtain ⟨k, hk2, hk, rfl, hown, hB⟩ := hrel
    obtain ⟨va, vc, rfl⟩ := hown.slice
    by_cases hlt : k < 312
    · have hL := pr_mono (show k ≤ 311 by omega)
      rw [pr311] at hL
      have hLI : ((pr k).length : Int) < 64 := by omega
      have hkI : (k : Int) < 400 := by omega
      have hkI2 : (2 : Int) ≤ (k : Int) := by omega
      have HP := Lib.hid (pr_pos k)
      have HA := Lib.hid (show ∀ i, i < (pr k).length → ((pr k).take (i + 1)).all (fun x => k % x != 0) = (((pr k).take i).all (fun x => k % x != 0) && (k % prF k i != 0)) from fun i hi => all_take hi)
      have HN := Lib.hid (show ∀ i, i < (pr k).length → ∃ g, va = some ⟨g, 0, none⟩ ∧ wr.cell? ⟨g, i, none⟩ = some (.int .i64 (prF k i : Nat)) from fun i hi => by
        obtain ⟨g, cap, e, _, _, hn⟩ := hown.nums (by omega)
        cases e
        exact ⟨g, rfl, hn i hi⟩)
      have HPP := Lib.hid (show ∀ i, i < (pr k).length → 2 ≤ prF k i ∧ prF k i < k from fun i hi => pr_pos k _ (by unfold prF; rw [List.getD_eq_getElem?_getD, List.getElem?_eq_getElem hi]; exact List.getElem_mem _))
      generalize hLen : (pr k).length = L at *
      have HL := Lib.hid hLen
      clear hLen
      go_wp2_with fail
      go_loop [5, 6] (fun b i' => ∃ i : Nat, i ≤ L ∧ i' = .int .i64 (i : Int) ∧ b = .bool (((pr k).take i).all (fun x => k % x != 0))) (fun _ i' => L - (intOf i').toNat)
      case atStart => exact ⟨0, by omega, rfl, rfl⟩
      case round =>
        obtain ⟨i, hi, rfl, rfl⟩ := hrel
        by_cases hil : i < L
        · obtain ⟨g, rfl, hc⟩ := HN.out i hil
          have ⟨p1, p2⟩ := HPP.out i hil
          have hA := HA.out i hil
          have HAi := Lib.hid hA
          clear hA
          have hiI : (i : Int) < (L : Int) := by omega
          generalize prF k i = x at *
          have hx1 : (2 : Int) ≤ (x : Int) := by omega
          have hx0 : ¬ (x : Int) = 0 := by omega
          cases hb : ((pr k).take i).all (fun x => k % x != 0) with
          | true =>
            have HB := Lib.hid hb
            clear hb
            go_wp2_with fail
            exact ⟨⟨i + 1, by omega, by simp, by rw [HAi.out, HB.out, mod_ne]; rfl⟩, by simp [intOf]; omega⟩
          | false =>
            have HB := Lib.hid hb
            clear hb
            go_wp2_with fail
            exact ⟨⟨i + 1, by omega, by simp, by rw [HAi.out, HB.out]; rfl⟩, by simp [intOf]; omega⟩
        · obtain rfl : i = L := by omega
          have hT : (pr k).take i = pr k := List.take_of_length_le (by rw [HL.out]; exact Nat.le_refl _)
          rw [hT]
          clear hT hil
          have hNW : w.heap.size ≤ wr.heap.size := hB.size
          cases hb : (pr k).all (fun x => k % x != 0) with
          | true =>
            have HY := Lib.hid (pr_yes hk2 hb)
            clear hb
            go_wp2_with (at_builtin; refine wpList_append_own _ rfl _ _ 35 rfl w.heap.size 3 i0 (.int .i64 0) 1 8 Try.underlying35 (by assumption) hz0 hz1 hz2 rfl (by decide) _ _ _ rfl (hown.out.alloc _) ⟨wr.heap.size, 0, none⟩ 1 1 [.int .i64 (k : Int)] rfl rfl (cell_one_new _ _ _) (by simp [Value.oneCell']) (by unfold maxLen; omega) (by omega) (by simp; omega) ?_; intro v' w1 hown' hgrow _)
            have hL2 : (pr (k + 1)).length = i + 1 := by rw [HY.out, List.length_append, HL.out]; rfl
            have hnew : prF (k + 1) i = k := by rw [← HL.out]; exact prF_new HY.out
            obtain ⟨hor, _, hbl⟩ := OR.grown (hown.congr (fun j hj => prF_old HY.out j (by rw [HL.out]; exact hj))) hNW (by
              have e2 : (List.range i).map (fun j => Value.int .i64 ((prF (k + 1) j : Nat) : Int)) = (List.range i).map (fun j => Value.int .i64 ((prF k j : Nat) : Int)) := List.map_congr_left (fun j hj => by rw [prF_old HY.out j (by rw [HL.out]; exact List.mem_range.1 hj)])
              rw [e2]; exact hown') hgrow (by rw [hnew])
            exact ⟨⟨k + 1, by omega, by omega, by simp, by rw [hL2]; exact hor, hB.trans hbl⟩, by simp [intOf]; omega⟩
          | false =>
            have HY := Lib.hid (pr_no hb)
            clear hb
            go_wp2_with fail
            refine ⟨⟨k + 1, by omega, by omega, by simp, ?_, hB⟩, by simp [intOf]; omega⟩
            rw [HY.out, HL.out]
            unfold prF
            rw [HY.out]
            exact hown
    · obtain rfl : k = 312 := by omega
      rw [pr312] at hown
      go_wp2_with fail
      go_ret
      obtain ⟨g, cap, e, hg1, hg2, hn⟩ := hown.nums (by omega)
      cases e
      exact ⟨g, vc, by rw [pr312]; rfl, hg1, hg2, hn, hB⟩
end Go.Proofs.Ytboadnbkfoclpaa
