/-
  A book as a plain thing: of sixteen slots (account, asset) a number each; giving, taking, moving, the total.
-/
import Derived.Test.YtefbkchledfoiaaLaid
import Derived.Test.YtefbkchledfoiaaWideEq
namespace Go.Proofs.Ytefbkchledfoiaa
open Go.RowKit Go.Shelf

/-- A number's words. -/
def nw (n : Nat) : Nat → Nat := fun k => n / M ^ k % M
theorem nw_ok (n : Nat) : Ok4 (nw n 0) (nw n 1) (nw n 2) (nw n 3) := ⟨Nat.mod_lt _ M_pos, Nat.mod_lt _ M_pos, Nat.mod_lt _ M_pos, Nat.mod_lt _ M_pos⟩
theorem nw_val {n : Nat} (h : n < M4) : val (nw n 0) (nw n 1) (nw n 2) (nw n 3) = n := by
  unfold val nw
  have e1 : n / M ^ 1 = n / M := by rw [Nat.pow_one]
  have e2 : n / M ^ 2 = n / M / M := by rw [Nat.div_div_eq_div_mul, Nat.pow_two]
  have e3 : n / M ^ 3 = n / M / M / M := by rw [Nat.div_div_eq_div_mul, Nat.div_div_eq_div_mul, Nat.pow_succ, Nat.pow_two, Nat.mul_assoc]
  rw [e1, e2, e3, Nat.pow_zero, Nat.div_one]
  have h4 : n / M / M / M < M := by
    rw [Nat.div_div_eq_div_mul, Nat.div_div_eq_div_mul]
    exact Nat.div_lt_of_lt_mul (by unfold M4 at h; exact h)
  rw [Nat.mod_eq_of_lt h4]
  have d0 := Nat.mod_add_div n M
  have d1 := Nat.mod_add_div (n / M) M
  have d2 := Nat.mod_add_div (n / M / M) M
  rw [d2, d1, d0]
theorem nw_of {s0 s1 s2 s3 n : Nat} (h : Ok4 s0 s1 s2 s3) (e : val s0 s1 s2 s3 = n) : s0 = nw n 0 ∧ s1 = nw n 1 ∧ s2 = nw n 2 ∧ s3 = nw n 3 := by
  have hn : n < M4 := by rw [← e]; exact val_lt h
  exact val_inj h (nw_ok n) (by rw [e, nw_val hn])
theorem nw_zero (k : Nat) : nw 0 k = 0 := by unfold nw; simp
theorem nw_word {n : Nat} (h : n < M) : nw n 0 = n ∧ nw n 1 = 0 ∧ nw n 2 = 0 ∧ nw n 3 = 0 := by
  have e : val n 0 0 0 = n := by simp [val]
  obtain ⟨a, b, c, d⟩ := nw_of (s0 := n) (s1 := 0) (s2 := 0) (s3 := 0) ⟨h, M_pos, M_pos, M_pos⟩ e
  exact ⟨a.symm, b.symm, c.symm, d.symm⟩
theorem nw_inj {n m : Nat} (hn : n < M4) (hm : m < M4) (h : nw n 0 = nw m 0 ∧ nw n 1 = nw m 1 ∧ nw n 2 = nw m 2 ∧ nw n 3 = nw m 3) : n = m := by
  obtain ⟨a, b, c, d⟩ := h
  rw [← nw_val hn, ← nw_val hm, a, b, c, d]
/-- A number as a wide one. -/
abbrev wn (n : Nat) : Value := wv (nw n 0) (nw n 1) (nw n 2) (nw n 3)
theorem wn_of {s0 s1 s2 s3 n : Nat} (h : Ok4 s0 s1 s2 s3) (e : val s0 s1 s2 s3 = n) : wv s0 s1 s2 s3 = wn n := by
  obtain ⟨a, b, c, d⟩ := nw_of h e
  rw [a, b, c, d]
/-- Are two numbers' words the same? -/
theorem wEq_nw {n m : Nat} (hn : n < M4) (hm : m < M4) : wEq (nw n 0 : Nat) (nw n 1 : Nat) (nw n 2 : Nat) (nw n 3 : Nat) (nw m 0 : Nat) (nw m 1 : Nat) (nw m 2 : Nat) (nw m 3 : Nat) = decide (n = m) := by
  by_cases h : n = m
  · subst h; rw [wEq_refl, decide_eq_true rfl]
  · rw [decide_eq_false h]
    exact wEq_not fun e => h (nw_inj hn hm (by omega))

/-- Slot j: twice the account, and the asset. -/
abbrev Bk := Nat → Nat
/-- Slots from s on, n of them, as cells. -/
def rowB (b : Bk) : Nat → Nat → List Value
  | _, 0 => []
  | s, n + 1 => ws (nw (b s)) ++ rowB b (s + 1) n
theorem ws_len (s : Nat → Nat) : (ws s).length = 4 := rfl
theorem rowB_len (b : Bk) (s n : Nat) : (rowB b s n).length = 4 * n := by
  induction n generalizing s with
  | zero => rfl
  | succ n ih => rw [rowB, List.length_append, ih, ws_len]; omega
theorem rowB_drop (b : Bk) (s n : Nat) {j : Nat} (hj : j ≤ n) : (rowB b s n).drop (4 * j) = rowB b (s + j) (n - j) := by
  induction j generalizing s n with
  | zero => rfl
  | succ j ih =>
    match n, hj with
    | n + 1, hj =>
      rw [rowB, show 4 * (j + 1) = (ws (nw (b s))).length + 4 * j by rw [ws_len]; omega, List.drop_length_add_append, ih (s + 1) n (by omega), show s + 1 + j = s + (j + 1) by omega, show n + 1 - (j + 1) = n - j by omega]
theorem rowB_take (b : Bk) (s n : Nat) {j : Nat} (hj : j ≤ n) : (rowB b s n).take (4 * j) = rowB b s j := by
  induction j generalizing s n with
  | zero => rfl
  | succ j ih =>
    match n, hj with
    | n + 1, hj =>
      rw [rowB, rowB, show 4 * (j + 1) = (ws (nw (b s))).length + 4 * j by rw [ws_len]; omega, List.take_length_add_append, ih (s + 1) n (by omega)]
theorem rowB_ext {b c : Bk} {s n : Nat} (h : ∀ j, s ≤ j → j < s + n → b j = c j) : rowB b s n = rowB c s n := by
  induction n generalizing s with
  | zero => rfl
  | succ n ih => rw [rowB, rowB, h s (Nat.le_refl _) (by omega), ih (fun j h1 h2 => h j (by omega) (by omega))]
def bkc (b : Bk) : List Value := rowB b 0 16
abbrev bkv (b : Bk) : Value := .agg (bkc b).toArray
theorem bkc_len (b : Bk) : (bkc b).length = 64 := rowB_len b 0 16
theorem bkc_part (b : Bk) {j : Nat} (hj : j < 16) : ((bkc b).drop (4 * j)).take 4 = ws (nw (b j)) := by
  unfold bkc
  rw [rowB_drop b 0 16 (by omega), Nat.zero_add, show 4 = 4 * 1 from rfl, rowB_take b j (16 - j) (by omega), rowB, rowB, List.append_nil]
theorem bkc_row (b : Bk) {a : Nat} (ha : a < 8) : ((bkc b).drop (8 * a)).take 8 = ws (nw (b (2 * a))) ++ ws (nw (b (2 * a + 1))) := by
  unfold bkc
  rw [show 8 * a = 4 * (2 * a) by omega, rowB_drop b 0 16 (by omega), Nat.zero_add, show 8 = 4 * 2 from rfl, rowB_take b (2 * a) (16 - 2 * a) (by omega), rowB, rowB, rowB, List.append_nil]
def updB (b : Bk) (j n : Nat) : Bk := fun i => if i = j then n else b i
theorem updB_at (b : Bk) (j n : Nat) : updB b j n j = n := if_pos rfl
theorem updB_ne (b : Bk) {j i : Nat} (n : Nat) (h : i ≠ j) : updB b j n i = b i := if_neg h
theorem bkc_set (b : Bk) (n : Nat) {j : Nat} (hj : j < 16) : laid (bkc b) (4 * j) (ws (nw n)) = bkc (updB b j n) := by
  unfold laid bkc
  have h1 : (rowB b 0 16).take (4 * j) = rowB (updB b j n) 0 j := by
    rw [rowB_take b 0 16 (by omega)]
    exact rowB_ext fun i _ hi => by rw [updB_ne b n (by omega)]
  have h2 : (rowB b 0 16).drop (4 * j + (ws (nw n)).length) = rowB (updB b j n) (j + 1) (16 - (j + 1)) := by
    rw [ws_len, show 4 * j + 4 = 4 * (j + 1) by omega, rowB_drop b 0 16 (by omega), Nat.zero_add]
    exact rowB_ext fun i hi _ => by rw [updB_ne b n (by omega)]
  have h3 : rowB (updB b j n) 0 16 = (rowB (updB b j n) 0 16).take (4 * j) ++ (rowB (updB b j n) 0 16).drop (4 * j) := (List.take_append_drop _ _).symm
  rw [h1, h2, h3, rowB_take _ 0 16 (by omega), rowB_drop _ 0 16 (by omega), Nat.zero_add, List.append_assoc]
  congr 1
  obtain ⟨m, hm⟩ : ∃ m, 16 - j = m + 1 := ⟨16 - j - 1, by omega⟩
  rw [hm, rowB, updB_at, show 16 - (j + 1) = m by omega]
/-- Books with the same numbers in all slots have the same cells. -/
theorem bkc_ext {b c : Bk} (h : ∀ j, j < 16 → b j = c j) : bkc b = bkc c := rowB_ext fun j _ hj => h j (by omega)
def OkK (b : Bk) : Prop := ∀ j, j < 16 → b j < M4
theorem okK_upd {b : Bk} (h : OkK b) (j : Nat) {n : Nat} (hn : n < M4) : OkK (updB b j n) := fun i hi => by
  by_cases e : i = j
  · subst e; rw [updB_at]; exact hn
  · rw [updB_ne b _ e]; exact h i hi
/-- There is such an account, and asset. -/
def atS (a s : Int) : Prop := (0 ≤ a ∧ a < 8) ∧ 0 ≤ s ∧ s < 2
instance (a s : Int) : Decidable (atS a s) := by unfold atS; infer_instance
def slotS (a s : Int) : Nat := 2 * a.toNat + s.toNat
theorem slot_lt {a s : Int} (h : atS a s) : slotS a s < 16 := by unfold atS at h; unfold slotS; omega
def ofB (b : Bk) (a s : Int) : Nat := if atS a s then b (slotS a s) else 0
def giveB (b : Bk) (a s : Int) (n : Nat) : Bk × Int := if atS a s then (if b (slotS a s) + n < M4 then (updB b (slotS a s) (b (slotS a s) + n), 0) else (b, 38)) else (b, 4)
def takeB (b : Bk) (a s : Int) (n : Nat) : Bk × Int := if atS a s then (if n ≤ b (slotS a s) then (updB b (slotS a s) (b (slotS a s) - n), 0) else (b, 30)) else (b, 4)
def moveB (b : Bk) (f t s : Int) (n : Nat) : Bk × Int :=
  if (takeB b f s n).2 = 0 then (if (giveB (takeB b f s n).1 t s n).2 = 0 then ((giveB (takeB b f s n).1 t s n).1, 0) else (b, (giveB (takeB b f s n).1 t s n).2)) else (b, (takeB b f s n).2)
theorem giveB_no {b : Bk} {a s : Int} {n : Nat} (h : ¬ atS a s) : giveB b a s n = (b, 4) := if_neg h
theorem giveB_yes {b : Bk} {a s : Int} {n : Nat} (h : atS a s) (k : b (slotS a s) + n < M4) : giveB b a s n = (updB b (slotS a s) (b (slotS a s) + n), 0) := by unfold giveB; rw [if_pos h, if_pos k]
theorem giveB_over {b : Bk} {a s : Int} {n : Nat} (h : atS a s) (k : ¬ b (slotS a s) + n < M4) : giveB b a s n = (b, 38) := by unfold giveB; rw [if_pos h, if_neg k]
theorem takeB_no {b : Bk} {a s : Int} {n : Nat} (h : ¬ atS a s) : takeB b a s n = (b, 4) := if_neg h
theorem takeB_yes {b : Bk} {a s : Int} {n : Nat} (h : atS a s) (k : n ≤ b (slotS a s)) : takeB b a s n = (updB b (slotS a s) (b (slotS a s) - n), 0) := by unfold takeB; rw [if_pos h, if_pos k]
theorem takeB_low {b : Bk} {a s : Int} {n : Nat} (h : atS a s) (k : ¬ n ≤ b (slotS a s)) : takeB b a s n = (b, 30) := by unfold takeB; rw [if_pos h, if_neg k]
theorem moveB_low {b : Bk} {f t s : Int} {n : Nat} (h : (takeB b f s n).2 ≠ 0) : moveB b f t s n = (b, (takeB b f s n).2) := if_neg h
theorem moveB_yes {b : Bk} {f t s : Int} {n : Nat} (h : (takeB b f s n).2 = 0) (k : (giveB (takeB b f s n).1 t s n).2 = 0) : moveB b f t s n = ((giveB (takeB b f s n).1 t s n).1, 0) := by unfold moveB; rw [if_pos h, if_pos k]
theorem moveB_over {b : Bk} {f t s : Int} {n : Nat} (h : (takeB b f s n).2 = 0) (k : (giveB (takeB b f s n).1 t s n).2 ≠ 0) : moveB b f t s n = (b, (giveB (takeB b f s n).1 t s n).2) := by unfold moveB; rw [if_pos h, if_neg k]
/-- All accounts' sum. -/
def sumB (b : Bk) (s : Nat) : Nat := b (0 + s) + b (2 + s) + b (4 + s) + b (6 + s) + b (8 + s) + b (10 + s) + b (12 + s) + b (14 + s)
theorem sum_upd {b : Bk} {a s : Nat} (n : Nat) (ha : a < 8) : sumB (updB b (2 * a + s) n) s + b (2 * a + s) = sumB b s + n := by
  have e : ∀ i, updB b (2 * a + s) n (2 * i + s) = if i = a then n else b (2 * i + s) := fun i => by
    by_cases h : i = a
    · subst h; rw [if_pos rfl, updB_at]
    · rw [if_neg h, updB_ne _ _ (by omega)]
  have e0 := e 0; have e1 := e 1; have e2 := e 2; have e3 := e 3; have e4 := e 4; have e5 := e 5; have e6 := e 6; have e7 := e 7
  unfold sumB
  simp only [Nat.mul_zero, Nat.reduceMul] at e0 e1 e2 e3 e4 e5 e6 e7
  rw [e0, e1, e2, e3, e4, e5, e6, e7]
  match a, ha with
  | 0, _ => simp; omega
  | 1, _ => simp; omega
  | 2, _ => simp; omega
  | 3, _ => simp; omega
  | 4, _ => simp; omega
  | 5, _ => simp; omega
  | 6, _ => simp; omega
  | 7, _ => simp; omega
/-- What is given or taken of one asset leaves the other one's sum. -/
theorem sum_other {b : Bk} {a s r : Nat} (n : Nat) (hs : s < 2) (hr : r < 2) (h : r ≠ s) : sumB (updB b (2 * a + s) n) r = sumB b r := by
  have e : ∀ i, updB b (2 * a + s) n (2 * i + r) = b (2 * i + r) := fun i => updB_ne _ _ (by omega)
  have e0 := e 0; have e1 := e 1; have e2 := e 2; have e3 := e 3; have e4 := e 4; have e5 := e 5; have e6 := e 6; have e7 := e 7
  simp only [Nat.mul_zero, Nat.reduceMul] at e0 e1 e2 e3 e4 e5 e6 e7
  unfold sumB
  rw [e0, e1, e2, e3, e4, e5, e6, e7]
theorem okK_give {b : Bk} (h : OkK b) (a s : Int) (n : Nat) : OkK (giveB b a s n).1 := by
  unfold giveB; split
  · split
    · exact okK_upd h _ ‹_›
    · exact h
  · exact h
theorem okK_take {b : Bk} (h : OkK b) (a s : Int) (n : Nat) : OkK (takeB b a s n).1 := by
  unfold takeB; split
  · split
    · exact okK_upd h _ (Nat.lt_of_le_of_lt (Nat.sub_le _ _) (h _ (slot_lt ‹_›)))
    · exact h
  · exact h
theorem okK_move {b : Bk} (h : OkK b) (f t s : Int) (n : Nat) : OkK (moveB b f t s n).1 := by
  unfold moveB; split
  · split
    · exact okK_give (okK_take h _ _ _) _ _ _
    · exact h
  · exact h
theorem give_sum {b : Bk} {a s : Int} {n : Nat} (h : (giveB b a s n).2 = 0) : atS a s ∧ sumB (giveB b a s n).1 s.toNat = sumB b s.toNat + n := by
  by_cases ha : atS a s
  · by_cases hn : b (slotS a s) + n < M4
    · rw [giveB_yes ha hn]
      refine ⟨ha, ?_⟩
      have := sum_upd (b := b) (a := a.toNat) (s := s.toNat) (b (slotS a s) + n) (by unfold atS at ha; omega)
      unfold slotS at *
      dsimp only
      omega
    · rw [giveB_over ha hn] at h; exact absurd h (by simp)
  · rw [giveB_no ha] at h; exact absurd h (by simp)
theorem take_sum {b : Bk} {a s : Int} {n : Nat} (h : (takeB b a s n).2 = 0) : atS a s ∧ sumB (takeB b a s n).1 s.toNat + n = sumB b s.toNat := by
  by_cases ha : atS a s
  · by_cases hn : n ≤ b (slotS a s)
    · rw [takeB_yes ha hn]
      refine ⟨ha, ?_⟩
      have := sum_upd (b := b) (a := a.toNat) (s := s.toNat) (b (slotS a s) - n) (by unfold atS at ha; omega)
      unfold slotS at *
      dsimp only
      omega
    · rw [takeB_low ha hn] at h; exact absurd h (by simp)
  · rw [takeB_no ha] at h; exact absurd h (by simp)
/-- Moving leaves the total. -/
theorem move_sum (b : Bk) (f t s : Int) (n : Nat) : sumB (moveB b f t s n).1 s.toNat = sumB b s.toNat := by
  by_cases h1 : (takeB b f s n).2 = 0
  · by_cases h2 : (giveB (takeB b f s n).1 t s n).2 = 0
    · rw [moveB_yes h1 h2, (give_sum h2).2, (take_sum h1).2]
    · rw [moveB_over h1 h2]
  · rw [moveB_low h1]
/-- The total: all accounts' sum, if it is not too great, and there is such an asset. -/
def totB (b : Bk) (s : Int) : Nat × Bool := if (0 ≤ s ∧ s < 2) ∧ sumB b s.toNat < M4 then (sumB b s.toNat, true) else (0, false)
theorem move_tot (b : Bk) (f t s : Int) (n : Nat) : totB (moveB b f t s n).1 s = totB b s := by unfold totB; rw [move_sum]
end Go.Proofs.Ytefbkchledfoiaa
