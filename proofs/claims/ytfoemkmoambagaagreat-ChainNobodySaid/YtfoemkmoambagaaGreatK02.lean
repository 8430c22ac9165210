/-
  A book as a plain thing: of sixteen slots (account, asset) a number each; giving, taking, moving, the total; A side's state as a plain thing, and what becomes of it behind a transaction: as the document's chapter of the contract tells; A side's state as a row of cells: its parts, and what becomes of the row when one is set; A book in memory: what is loaded of it, what is stored into it; What wide'
-/
import Derived.Deep.WholeRow
import Derived.RangeFuncNested
import Derived.RangeFuncBound
import Derived.RangeFuncCalls
import Derived.RangeFuncLeaves
import Derived.Shelf.Abstract
import Derived.Shelf.RegionOpen
import Derived.WalkKit
import Derived.OwnWalkIn
import Derived.TacticsInMore
import Derived.LoopNIn
import Derived.LoopIn
import Derived.Lib.Hide
import Derived.Shelf.Spec.BitsCarry
import Derived.Maps.AppendAt
import Derived.IntWalk
import Derived.Deep.QuietTactic
import Derived.Deep.RegionHeld3
import Derived.BigQuiet
import Derived.Outline
import Derived.Test.YtfoemkmoambagaaGreatProg
import Derived.WalkLawsBesides
import Derived.Deep.Cut
import Derived.Deep.CutRange
import Derived.Deep.DeepCutAuto
import Derived.Tactics
import Derived.KernelRfl
import Derived.Test.YtfoemkmoambagaaGreatK01
namespace Go.Proofs.YtfoemkmoambagaaGreat
open Go.RowKit Go.Shelf
def nw (n : Nat) : Nat → Nat := fun k => n / M ^ k % M
theorem nw_ok (n : Nat) : Ok4 (nw n 0) (nw n 1) (nw n 2) (nw n 3) := ⟨Nat.mod_lt _ M_pos, Nat.mod_lt _ M_pos, Nat.mod_lt _ M_pos, Nat.mod_lt _ M_pos⟩
theorem nw_val {n : Nat} (h : n < M4) : val (nw n 0) (nw n 1) (nw n 2) (nw n 3) = n := by
  unfold val nw
  have e1 : n / M ^ 1 = n / M := by rw [Nat.pow_one]
  have e2 : n / M ^ 2 = n / M / M := by rw [Nat.div_div_eq_div_mul, Nat.pow_two]
  have e3 : n / M ^ 3 = n / M / M / M := by rw [Nat.div_div_eq_div_mul, Nat.div_div_eq_div_mul, Nat.pow_succ, Nat.pow_two, Nat.mul_assoc]
  rw [e1, e2, e3, Nat.pow_zero, Nat.div_one]
  have h4 : n / M / M / M < M := by
    rw [Nat.div_div_eq_div_mul, Nat.div_div_eq_div_mul]
    exact Nat.div_lt_of_lt_mul (by unfold M4 at h; exact h)
  rw [Nat.mod_eq_of_lt h4]
  have d0 := Nat.mod_add_div n M
  have d1 := Nat.mod_add_div (n / M) M
  have d2 := Nat.mod_add_div (n / M / M) M
  rw [d2, d1, d0]
theorem nw_of {s0 s1 s2 s3 n : Nat} (h : Ok4 s0 s1 s2 s3) (e : val s0 s1 s2 s3 = n) : s0 = nw n 0 ∧ s1 = nw n 1 ∧ s2 = nw n 2 ∧ s3 = nw n 3 := by
  have hn : n < M4 := by rw [← e]; exact val_lt h
  exact val_inj h (nw_ok n) (by rw [e, nw_val hn])
theorem nw_zero (k : Nat) : nw 0 k = 0 := by unfold nw; simp
theorem nw_word {n : Nat} (h : n < M) : nw n 0 = n ∧ nw n 1 = 0 ∧ nw n 2 = 0 ∧ nw n 3 = 0 := by
  have e : val n 0 0 0 = n := by simp [val]
  obtain ⟨a, b, c, d⟩ := nw_of (s0 := n) (s1 := 0) (s2 := 0) (s3 := 0) ⟨h, M_pos, M_pos, M_pos⟩ e
  exact ⟨a.symm, b.symm, c.symm, d.symm⟩
abbrev wn (n : Nat) : Value := wv (nw n 0) (nw n 1) (nw n 2) (nw n 3)
theorem wn_of {s0 s1 s2 s3 n : Nat} (h : Ok4 s0 s1 s2 s3) (e : val s0 s1 s2 s3 = n) : wv s0 s1 s2 s3 = wn n := by
  obtain ⟨a, b, c, d⟩ := nw_of h e
  rw [a, b, c, d]
abbrev Bk := Nat → Nat
def rowB (b : Bk) : Nat → Nat → List Value
  | _, 0 => []
  | s, n + 1 => ws (nw (b s)) ++ rowB b (s + 1) n
theorem ws_len (s : Nat → Nat) : (ws s).length = 4 := rfl
theorem rowB_len (b : Bk) (s n : Nat) : (rowB b s n).length = 4 * n := by
  induction n generalizing s with
  | zero => rfl
  | succ n ih => rw [rowB, List.length_append, ih, ws_len]; omega
theorem rowB_drop (b : Bk) (s n : Nat) {j : Nat} (hj : j ≤ n) : (rowB b s n).drop (4 * j) = rowB b (s + j) (n - j) := by
  induction j generalizing s n with
  | zero => rfl
  | succ j ih =>
    match n, hj with
    | n + 1, hj =>
      rw [rowB, show 4 * (j + 1) = (ws (nw (b s))).length + 4 * j by rw [ws_len]; omega, List.drop_length_add_append, ih (s + 1) n (by omega), show s + 1 + j = s + (j + 1) by omega, show n + 1 - (j + 1) = n - j by omega]
theorem rowB_take (b : Bk) (s n : Nat) {j : Nat} (hj : j ≤ n) : (rowB b s n).take (4 * j) = rowB b s j := by
  induction j generalizing s n with
  | zero => rfl
  | succ j ih =>
    match n, hj with
    | n + 1, hj =>
      rw [rowB, rowB, show 4 * (j + 1) = (ws (nw (b s))).length + 4 * j by rw [ws_len]; omega, List.take_length_add_append, ih (s + 1) n (by omega)]
theorem rowB_ext {b c : Bk} {s n : Nat} (h : ∀ j, s ≤ j → j < s + n → b j = c j) : rowB b s n = rowB c s n := by
  induction n generalizing s with
  | zero => rfl
  | succ n ih => rw [rowB, rowB, h s (Nat.le_refl _) (by omega), ih (fun j h1 h2 => h j (by omega) (by omega))]
def bkc (b : Bk) : List Value := rowB b 0 16
abbrev bkv (b : Bk) : Value := .agg (bkc b).toArray
theorem bkc_len (b : Bk) : (bkc b).length = 64 := rowB_len b 0 16
theorem bkc_part (b : Bk) {j : Nat} (hj : j < 16) : ((bkc b).drop (4 * j)).take 4 = ws (nw (b j)) := by
  unfold bkc
  rw [rowB_drop b 0 16 (by omega), Nat.zero_add, show 4 = 4 * 1 from rfl, rowB_take b j (16 - j) (by omega), rowB, rowB, List.append_nil]
theorem bkc_row (b : Bk) {a : Nat} (ha : a < 8) : ((bkc b).drop (8 * a)).take 8 = ws (nw (b (2 * a))) ++ ws (nw (b (2 * a + 1))) := by
  unfold bkc
  rw [show 8 * a = 4 * (2 * a) by omega, rowB_drop b 0 16 (by omega), Nat.zero_add, show 8 = 4 * 2 from rfl, rowB_take b (2 * a) (16 - 2 * a) (by omega), rowB, rowB, rowB, List.append_nil]
def updB (b : Bk) (j n : Nat) : Bk := fun i => if i = j then n else b i
theorem updB_at (b : Bk) (j n : Nat) : updB b j n j = n := if_pos rfl
theorem updB_ne (b : Bk) {j i : Nat} (n : Nat) (h : i ≠ j) : updB b j n i = b i := if_neg h
theorem bkc_set (b : Bk) (n : Nat) {j : Nat} (hj : j < 16) : laid (bkc b) (4 * j) (ws (nw n)) = bkc (updB b j n) := by
  unfold laid bkc
  have h1 : (rowB b 0 16).take (4 * j) = rowB (updB b j n) 0 j := by
    rw [rowB_take b 0 16 (by omega)]
    exact rowB_ext fun i _ hi => by rw [updB_ne b n (by omega)]
  have h2 : (rowB b 0 16).drop (4 * j + (ws (nw n)).length) = rowB (updB b j n) (j + 1) (16 - (j + 1)) := by
    rw [ws_len, show 4 * j + 4 = 4 * (j + 1) by omega, rowB_drop b 0 16 (by omega), Nat.zero_add]
    exact rowB_ext fun i hi _ => by rw [updB_ne b n (by omega)]
  have h3 : rowB (updB b j n) 0 16 = (rowB (updB b j n) 0 16).take (4 * j) ++ (rowB (updB b j n) 0 16).drop (4 * j) := (List.take_append_drop _ _).symm
  rw [h1, h2, h3, rowB_take _ 0 16 (by omega), rowB_drop _ 0 16 (by omega), Nat.zero_add, List.append_assoc]
  congr 1
  obtain ⟨m, hm⟩ : ∃ m, 16 - j = m + 1 := ⟨16 - j - 1, by omega⟩
  rw [hm, rowB, updB_at, show 16 - (j + 1) = m by omega]
theorem bkc_ext {b c : Bk} (h : ∀ j, j < 16 → b j = c j) : bkc b = bkc c := rowB_ext fun j _ hj => h j (by omega)
def OkK (b : Bk) : Prop := ∀ j, j < 16 → b j < M4
theorem okK_upd {b : Bk} (h : OkK b) (j : Nat) {n : Nat} (hn : n < M4) : OkK (updB b j n) := fun i hi => by
  by_cases e : i = j
  · subst e; rw [updB_at]; exact hn
  · rw [updB_ne b _ e]; exact h i hi
def atS (a s : Int) : Prop := (0 ≤ a ∧ a < 8) ∧ 0 ≤ s ∧ s < 2
instance (a s : Int) : Decidable (atS a s) := by unfold atS; infer_instance
def slotS (a s : Int) : Nat := 2 * a.toNat + s.toNat
theorem slot_lt {a s : Int} (h : atS a s) : slotS a s < 16 := by unfold atS at h; unfold slotS; omega
def giveB (b : Bk) (a s : Int) (n : Nat) : Bk × Int := if atS a s then (if b (slotS a s) + n < M4 then (updB b (slotS a s) (b (slotS a s) + n), 0) else (b, 38)) else (b, 4)
def takeB (b : Bk) (a s : Int) (n : Nat) : Bk × Int := if atS a s then (if n ≤ b (slotS a s) then (updB b (slotS a s) (b (slotS a s) - n), 0) else (b, 30)) else (b, 4)
def moveB (b : Bk) (f t s : Int) (n : Nat) : Bk × Int :=
  if (takeB b f s n).2 = 0 then (if (giveB (takeB b f s n).1 t s n).2 = 0 then ((giveB (takeB b f s n).1 t s n).1, 0) else (b, (giveB (takeB b f s n).1 t s n).2)) else (b, (takeB b f s n).2)
theorem giveB_no {b : Bk} {a s : Int} {n : Nat} (h : ¬ atS a s) : giveB b a s n = (b, 4) := if_neg h
theorem giveB_yes {b : Bk} {a s : Int} {n : Nat} (h : atS a s) (k : b (slotS a s) + n < M4) : giveB b a s n = (updB b (slotS a s) (b (slotS a s) + n), 0) := by unfold giveB; rw [if_pos h, if_pos k]
theorem giveB_over {b : Bk} {a s : Int} {n : Nat} (h : atS a s) (k : ¬ b (slotS a s) + n < M4) : giveB b a s n = (b, 38) := by unfold giveB; rw [if_pos h, if_neg k]
theorem takeB_no {b : Bk} {a s : Int} {n : Nat} (h : ¬ atS a s) : takeB b a s n = (b, 4) := if_neg h
theorem takeB_yes {b : Bk} {a s : Int} {n : Nat} (h : atS a s) (k : n ≤ b (slotS a s)) : takeB b a s n = (updB b (slotS a s) (b (slotS a s) - n), 0) := by unfold takeB; rw [if_pos h, if_pos k]
theorem takeB_low {b : Bk} {a s : Int} {n : Nat} (h : atS a s) (k : ¬ n ≤ b (slotS a s)) : takeB b a s n = (b, 30) := by unfold takeB; rw [if_pos h, if_neg k]
theorem moveB_low {b : Bk} {f t s : Int} {n : Nat} (h : (takeB b f s n).2 ≠ 0) : moveB b f t s n = (b, (takeB b f s n).2) := if_neg h
theorem moveB_yes {b : Bk} {f t s : Int} {n : Nat} (h : (takeB b f s n).2 = 0) (k : (giveB (takeB b f s n).1 t s n).2 = 0) : moveB b f t s n = ((giveB (takeB b f s n).1 t s n).1, 0) := by unfold moveB; rw [if_pos h, if_pos k]
theorem moveB_over {b : Bk} {f t s : Int} {n : Nat} (h : (takeB b f s n).2 = 0) (k : (giveB (takeB b f s n).1 t s n).2 ≠ 0) : moveB b f t s n = (b, (giveB (takeB b f s n).1 t s n).2) := by unfold moveB; rw [if_pos h, if_neg k]
def sumB (b : Bk) (s : Nat) : Nat := b (0 + s) + b (2 + s) + b (4 + s) + b (6 + s) + b (8 + s) + b (10 + s) + b (12 + s) + b (14 + s)
theorem sum_upd {b : Bk} {a s : Nat} (n : Nat) (ha : a < 8) : sumB (updB b (2 * a + s) n) s + b (2 * a + s) = sumB b s + n := by
  have e : ∀ i, updB b (2 * a + s) n (2 * i + s) = if i = a then n else b (2 * i + s) := fun i => by
    by_cases h : i = a
    · subst h; rw [if_pos rfl, updB_at]
    · rw [if_neg h, updB_ne _ _ (by omega)]
  have e0 := e 0; have e1 := e 1; have e2 := e 2; have e3 := e 3; have e4 := e 4; have e5 := e 5; have e6 := e 6; have e7 := e 7
  unfold sumB
  simp only [Nat.mul_zero, Nat.reduceMul] at e0 e1 e2 e3 e4 e5 e6 e7
  rw [e0, e1, e2, e3, e4, e5, e6, e7]
  match a, ha with
  | 0, _ => simp; omega
  | 1, _ => simp; omega
  | 2, _ => simp; omega
  | 3, _ => simp; omega
  | 4, _ => simp; omega
  | 5, _ => simp; omega
  | 6, _ => simp; omega
  | 7, _ => simp; omega
theorem sum_other {b : Bk} {a s r : Nat} (n : Nat) (hs : s < 2) (hr : r < 2) (h : r ≠ s) : sumB (updB b (2 * a + s) n) r = sumB b r := by
  have e : ∀ i, updB b (2 * a + s) n (2 * i + r) = b (2 * i + r) := fun i => updB_ne _ _ (by omega)
  have e0 := e 0; have e1 := e 1; have e2 := e 2; have e3 := e 3; have e4 := e 4; have e5 := e 5; have e6 := e 6; have e7 := e 7
  simp only [Nat.mul_zero, Nat.reduceMul] at e0 e1 e2 e3 e4 e5 e6 e7
  unfold sumB
  rw [e0, e1, e2, e3, e4, e5, e6, e7]
theorem okK_give {b : Bk} (h : OkK b) (a s : Int) (n : Nat) : OkK (giveB b a s n).1 := by
  unfold giveB; split
  · split
    · exact okK_upd h _ ‹_›
    · exact h
  · exact h
theorem okK_take {b : Bk} (h : OkK b) (a s : Int) (n : Nat) : OkK (takeB b a s n).1 := by
  unfold takeB; split
  · split
    · exact okK_upd h _ (Nat.lt_of_le_of_lt (Nat.sub_le _ _) (h _ (slot_lt ‹_›)))
    · exact h
  · exact h
theorem give_sum {b : Bk} {a s : Int} {n : Nat} (h : (giveB b a s n).2 = 0) : atS a s ∧ sumB (giveB b a s n).1 s.toNat = sumB b s.toNat + n := by
  by_cases ha : atS a s
  · by_cases hn : b (slotS a s) + n < M4
    · rw [giveB_yes ha hn]
      refine ⟨ha, ?_⟩
      have := sum_upd (b := b) (a := a.toNat) (s := s.toNat) (b (slotS a s) + n) (by unfold atS at ha; omega)
      unfold slotS at *
      dsimp only
      omega
    · rw [giveB_over ha hn] at h; exact absurd h (by simp)
  · rw [giveB_no ha] at h; exact absurd h (by simp)
theorem take_sum {b : Bk} {a s : Int} {n : Nat} (h : (takeB b a s n).2 = 0) : atS a s ∧ sumB (takeB b a s n).1 s.toNat + n = sumB b s.toNat := by
  by_cases ha : atS a s
  · by_cases hn : n ≤ b (slotS a s)
    · rw [takeB_yes ha hn]
      refine ⟨ha, ?_⟩
      have := sum_upd (b := b) (a := a.toNat) (s := s.toNat) (b (slotS a s) - n) (by unfold atS at ha; omega)
      unfold slotS at *
      dsimp only
      omega
    · rw [takeB_low ha hn] at h; exact absurd h (by simp)
  · rw [takeB_no ha] at h; exact absurd h (by simp)
end Go.Proofs.YtfoemkmoambagaaGreat
namespace Go.Proofs.YtfoemkmoambagaaGreat
open Go.RowKit Go.Shelf
structure Lk where
  ke : ByteArray
  dg : ByteArray
  st : Int
structure Es where
  sd : Int
  tm : Int
  pu : Bk
  va : Bk
  no : Nat → Int
  he : Nat → Nat
  bu : Nat
  lk : List Lk
structure OkE (s : Es) : Prop where
  t0 : 0 ≤ s.tm
  t1 : s.tm ≤ 1099511627776
  d : s.sd = 0 ∨ s.sd = 1
  p : OkK s.pu
  v : OkK s.va
  h : s.he 0 < M4 ∧ s.he 1 < M4
  b : s.bu < M4
def amT (t : Tr) : Nat := val t.a0 t.a1 t.a2 t.a3
def amV (t : Tr) : Nat := val t.vr.a0 t.vr.a1 t.vr.a2 t.vr.a3
def feT (t : Tr) : Nat := val t.f0 t.f1 t.f2 t.f3
structure Orc where
  ke : Trf → ByteArray
  dg : Trf → Sid → ByteArray
  sg : Tr → Int → Bool
def placeE (l : List Lk) (k : ByteArray) : Option Nat := l.findIdx? fun x => decide (x.ke = k)
def endE (l : List Lk) (i : Nat) (st : Int) : List Lk := l.modify i fun x => { x with st := st }
def plainE (s : Es) (t : Tr) : Es × Int :=
  if t.kd = 1 then
    (if (takeB s.pu t.fr t.az (amT t)).2 ≠ 0 then (s, 30) else if (giveB (takeB s.pu t.fr t.az (amT t)).1 t.iv.to t.az (amT t)).2 ≠ 0 then (s, 38) else ({ s with pu := (giveB (takeB s.pu t.fr t.az (amT t)).1 t.iv.to t.az (amT t)).1 }, 0))
  else if t.kd = 2 then
    (if (takeB s.pu t.fr t.az (amT t)).2 ≠ 0 then (s, 30) else if (giveB s.va t.iv.ro t.az (amT t)).2 ≠ 0 ∨ ¬ s.he t.az.toNat + amT t < M4 then (s, 38)
     else ({ s with pu := (takeB s.pu t.fr t.az (amT t)).1, va := (giveB s.va t.iv.ro t.az (amT t)).1, he := updB s.he t.az.toNat (s.he t.az.toNat + amT t) }, 0))
  else
    (if ¬ (2 ≤ t.fr ∧ t.fr ≤ 3) then (s, 37) else if (takeB s.va t.fr t.az (amT t)).2 ≠ 0 then (s, 31) else if (giveB s.pu t.fr t.az (amT t)).2 ≠ 0 ∨ ¬ amT t ≤ s.he t.az.toNat then (s, 38)
     else ({ s with va := (takeB s.va t.fr t.az (amT t)).1, pu := (giveB s.pu t.fr t.az (amT t)).1, he := updB s.he t.az.toNat (s.he t.az.toNat - amT t) }, 0))
def prepE (o : Orc) (s : Es) (t : Tr) : Es × Int :=
  if (placeE s.lk (o.ke t.iv)).isSome then (s, 32) else if t.vr.x ≤ s.tm ∨ s.tm + 1024 < t.vr.x then (s, 34)
  else if s.sd = 1 then
    (if t.fr ≠ t.iv.ro then (s, 37) else if (takeB s.va t.fr t.iv.re (amV t)).2 ≠ 0 then (s, 31)
     else ({ s with va := (takeB s.va t.fr t.iv.re (amV t)).1, lk := s.lk ++ [⟨o.ke t.iv, o.dg t.iv t.vr, 1⟩] }, 0))
  else
    (if t.fr ≠ t.iv.us then (s, 37) else if (takeB s.pu t.fr t.iv.se (amV t)).2 ≠ 0 then (s, 30) else if ¬ s.he t.iv.se.toNat + amV t < M4 then (s, 38)
     else ({ s with pu := (takeB s.pu t.fr t.iv.se (amV t)).1, he := updB s.he t.iv.se.toNat (s.he t.iv.se.toNat + amV t), lk := s.lk ++ [⟨o.ke t.iv, o.dg t.iv t.vr, 1⟩] }, 0))
def openE (o : Orc) (s : Es) (t : Tr) : Nat × Int :=
  match placeE s.lk (o.ke t.iv) with
  | none => (0, 32)
  | some i => match s.lk[i]? with
    | none => (0, 32)
    | some x => if x.st ≠ 1 then (0, 32) else if x.dg ≠ o.dg t.iv t.vr then (0, 33) else (i, 0)
def fulE (o : Orc) (s : Es) (t : Tr) : Es × Int :=
  if (openE o s t).2 ≠ 0 then (s, (openE o s t).2) else if t.vr.x ≤ s.tm then (s, 34) else if ¬ feT t ≤ amV t then (s, 36) else if o.sg t 1 = false then (s, 35)
  else if s.sd = 1 then
    (if (giveB s.pu t.iv.to t.iv.re (amV t - feT t)).2 ≠ 0 ∨ (giveB (giveB s.pu t.iv.to t.iv.re (amV t - feT t)).1 t.fr t.iv.re (feT t)).2 ≠ 0 ∨ ¬ amV t ≤ s.he t.iv.re.toNat then (s, 38)
     else ({ s with pu := (giveB (giveB s.pu t.iv.to t.iv.re (amV t - feT t)).1 t.fr t.iv.re (feT t)).1, he := updB s.he t.iv.re.toNat (s.he t.iv.re.toNat - amV t), lk := endE s.lk (openE o s t).1 2 }, 0))
  else
    (if (giveB s.va t.iv.ro t.iv.se (amV t)).2 ≠ 0 then (s, 38) else ({ s with va := (giveB s.va t.iv.ro t.iv.se (amV t)).1, lk := endE s.lk (openE o s t).1 2 }, 0))
def canE (o : Orc) (s : Es) (t : Tr) : Es × Int :=
  if (openE o s t).2 ≠ 0 then (s, (openE o s t).2) else if s.tm < t.vr.x ∧ s.sd = 1 ∧ o.sg t 2 = false then (s, 35) else if s.tm < t.vr.x ∧ s.sd ≠ 1 ∧ t.fr ≠ t.iv.ro then (s, 37)
  else if s.sd = 1 then
    (if (giveB s.va t.iv.ro t.iv.re (amV t)).2 ≠ 0 then (s, 38) else ({ s with va := (giveB s.va t.iv.ro t.iv.re (amV t)).1, lk := endE s.lk (openE o s t).1 3 }, 0))
  else
    (if (giveB s.pu t.iv.us t.iv.se (amV t)).2 ≠ 0 ∨ ¬ amV t ≤ s.he t.iv.se.toNat then (s, 38)
     else ({ s with pu := (giveB s.pu t.iv.us t.iv.se (amV t)).1, he := updB s.he t.iv.se.toNat (s.he t.iv.se.toNat - amV t), lk := endE s.lk (openE o s t).1 3 }, 0))
def paidE (s : Es) (t : Tr) : Es := { s with pu := updB s.pu (2 * t.fr.toNat) (s.pu (2 * t.fr.toNat) - 1), bu := s.bu + 1, no := fun i => if i = t.fr.toNat then s.no i + 1 else s.no i }
def doneE (o : Orc) (s : Es) (t : Tr) : Es × Int := if t.kd = 4 then prepE o s t else if t.kd = 5 then fulE o s t else if t.kd = 6 then canE o s t else plainE s t
def applyE (o : Orc) (s : Es) (t : Tr) : Es × Int × Bool :=
  if errT t ≠ 0 then (s, errT t, false) else if t.no ≠ s.no t.fr.toNat then (s, 20, false) else if ¬ 1 ≤ s.pu (2 * t.fr.toNat) ∨ ¬ s.bu + 1 < M4 then (s, 21, false)
  else if (doneE o (paidE s t) t).2 ≠ 0 then (paidE s t, (doneE o (paidE s t) t).2, true) else ((doneE o (paidE s t) t).1, 0, true)
def genE (side time : Int) : Es := ⟨if side ≤ 0 then 0 else 1, if time < 0 then 0 else if 1099511627776 < time then 1099511627776 else time, fun _ => 1000, fun _ => 0, fun _ => 0, fun _ => 0, 0, []⟩
end Go.Proofs.YtfoemkmoambagaaGreat
namespace Go.Proofs.YtfoemkmoambagaaGreat
open Go.RowKit Go.Shelf
section
variable {A B C : List Value} {m : Nat}
theorem part_in (hA : A.length = m) (o n : Nat) (h : o + n ≤ B.length) : ((A ++ (B ++ C)).drop (m + o)).take n = (B.drop o).take n := by
  subst hA
  rw [List.drop_length_add_append, List.drop_append_of_le_length (by omega), List.take_append_of_le_length (by rw [List.length_drop]; omega)]
theorem part_at {n : Nat} (hA : A.length = m) (hB : B.length = n) : ((A ++ (B ++ C)).drop m).take n = B := by
  have := part_in (A := A) (B := B) (C := C) hA 0 n (by omega)
  rw [Nat.add_zero, List.drop_zero, List.take_of_length_le (l := B) (by omega)] at this
  exact this
theorem laid_in (hA : A.length = m) (ns : List Value) (o : Nat) (h : o + ns.length ≤ B.length) : laid (A ++ (B ++ C)) (m + o) ns = A ++ (laid B o ns ++ C) := by
  subst hA
  unfold laid
  rw [List.take_length_add_append, List.take_append_of_le_length (by omega), Nat.add_assoc, List.drop_length_add_append, List.drop_append_of_le_length (by omega)]
  simp only [List.append_assoc]
theorem laid_at (hA : A.length = m) {ns : List Value} (h : ns.length = B.length) : laid (A ++ (B ++ C)) m ns = A ++ (ns ++ C) := by
  have := laid_in (A := A) (B := B) (C := C) hA ns 0 (by omega)
  rw [Nat.add_zero] at this
  rw [this]
  unfold laid
  rw [List.take_zero, Nat.zero_add, h, List.drop_length, List.nil_append, List.append_nil]
theorem cell_in (hA : A.length = m) (i : Nat) (h : i < B.length) : (A ++ (B ++ C))[m + i]? = B[i]? := by
  subst hA
  rw [List.getElem?_append_right (by omega), Nat.add_sub_cancel_left, List.getElem?_append_left h]
theorem set_in (hA : A.length = m) (i : Nat) (v : Value) (h : i < B.length) : (A ++ (B ++ C)).set (m + i) v = A ++ (B.set i v ++ C) := by
  subst hA
  rw [List.set_append_right _ _ (by omega), Nat.add_sub_cancel_left, List.set_append_left _ _ h]
end
def noc (f : Nat → Int) : List Value := [.int .i64 (f 0), .int .i64 (f 1), .int .i64 (f 2), .int .i64 (f 3), .int .i64 (f 4), .int .i64 (f 5), .int .i64 (f 6), .int .i64 (f 7)]
theorem noc_len (f : Nat → Int) : (noc f).length = 8 := rfl
def updNo (f : Nat → Int) (i : Nat) (z : Int) : Nat → Int := fun k => if k = i then z else f k
theorem noc_at (f : Nat → Int) {i : Nat} (h : i < 8) : (noc f)[i]? = some (.int .i64 (f i)) := by
  match i, h with
  | 0, _ => rfl
  | 1, _ => rfl
  | 2, _ => rfl
  | 3, _ => rfl
  | 4, _ => rfl
  | 5, _ => rfl
  | 6, _ => rfl
  | 7, _ => rfl
theorem noc_set (f : Nat → Int) {i : Nat} (h : i < 8) (z : Int) : (noc f).set i (.int .i64 z) = noc (updNo f i z) := by
  match i, h with
  | 0, _ => rfl
  | 1, _ => rfl
  | 2, _ => rfl
  | 3, _ => rfl
  | 4, _ => rfl
  | 5, _ => rfl
  | 6, _ => rfl
  | 7, _ => rfl
def hec (h : Bk) : List Value := rowB h 0 2
theorem hec_len (h : Bk) : (hec h).length = 8 := rowB_len h 0 2
def stc (s : Es) (v : Value) : List Value := [.int .i64 s.sd, .int .i64 s.tm] ++ (bkc s.pu ++ (bkc s.va ++ (noc s.no ++ (hec s.he ++ (ws (nw s.bu) ++ [v])))))
theorem stc_len (s : Es) (v : Value) : (stc s v).length = 151 := by
  unfold stc
  simp only [List.length_append, bkc_len, noc_len, hec_len, ws_len, List.length_cons, List.length_nil]
abbrev stv (s : Es) (v : Value) : Value := .agg (stc s v).toArray
theorem stc_pu (s : Es) (v : Value) : stc s v = [.int .i64 s.sd, .int .i64 s.tm] ++ (bkc s.pu ++ (bkc s.va ++ (noc s.no ++ (hec s.he ++ (ws (nw s.bu) ++ [v]))))) := rfl
theorem stc_va (s : Es) (v : Value) : stc s v = ([.int .i64 s.sd, .int .i64 s.tm] ++ bkc s.pu) ++ (bkc s.va ++ (noc s.no ++ (hec s.he ++ (ws (nw s.bu) ++ [v])))) := by unfold stc; simp only [List.append_assoc]
theorem stc_no (s : Es) (v : Value) : stc s v = ([.int .i64 s.sd, .int .i64 s.tm] ++ (bkc s.pu ++ bkc s.va)) ++ (noc s.no ++ (hec s.he ++ (ws (nw s.bu) ++ [v]))) := by unfold stc; simp only [List.append_assoc]
theorem stc_he (s : Es) (v : Value) : stc s v = ([.int .i64 s.sd, .int .i64 s.tm] ++ (bkc s.pu ++ (bkc s.va ++ noc s.no))) ++ (hec s.he ++ (ws (nw s.bu) ++ [v])) := by unfold stc; simp only [List.append_assoc]
theorem stc_bu (s : Es) (v : Value) : stc s v = ([.int .i64 s.sd, .int .i64 s.tm] ++ (bkc s.pu ++ (bkc s.va ++ (noc s.no ++ hec s.he)))) ++ (ws (nw s.bu) ++ [v]) := by unfold stc; simp only [List.append_assoc]
theorem stc_lk (s : Es) (v : Value) : stc s v = ([.int .i64 s.sd, .int .i64 s.tm] ++ (bkc s.pu ++ (bkc s.va ++ (noc s.no ++ (hec s.he ++ ws (nw s.bu)))))) ++ ([v] ++ []) := by unfold stc; simp only [List.append_assoc, List.append_nil]
theorem len2 (s : Es) : ([.int .i64 s.sd, .int .i64 s.tm] : List Value).length = 2 := rfl
theorem len66 (s : Es) : ([.int .i64 s.sd, .int .i64 s.tm] ++ bkc s.pu : List Value).length = 66 := by simp only [List.length_append, bkc_len, List.length_cons, List.length_nil]
theorem len130 (s : Es) : ([.int .i64 s.sd, .int .i64 s.tm] ++ (bkc s.pu ++ bkc s.va) : List Value).length = 130 := by simp only [List.length_append, bkc_len, List.length_cons, List.length_nil]
theorem len138 (s : Es) : ([.int .i64 s.sd, .int .i64 s.tm] ++ (bkc s.pu ++ (bkc s.va ++ noc s.no)) : List Value).length = 138 := by simp only [List.length_append, bkc_len, noc_len, List.length_cons, List.length_nil]
theorem len146 (s : Es) : ([.int .i64 s.sd, .int .i64 s.tm] ++ (bkc s.pu ++ (bkc s.va ++ (noc s.no ++ hec s.he))) : List Value).length = 146 := by simp only [List.length_append, bkc_len, noc_len, hec_len, List.length_cons, List.length_nil]
theorem len150 (s : Es) : ([.int .i64 s.sd, .int .i64 s.tm] ++ (bkc s.pu ++ (bkc s.va ++ (noc s.no ++ (hec s.he ++ ws (nw s.bu))))) : List Value).length = 150 := by simp only [List.length_append, bkc_len, noc_len, hec_len, ws_len, List.length_cons, List.length_nil]
theorem st_all (s : Es) (v : Value) : ((stc s v).drop 0).take 151 = stc s v := by rw [List.drop_zero, List.take_of_length_le (by rw [stc_len]; exact Nat.le_refl _)]
theorem st_tm (s : Es) (v : Value) : (stc s v)[1]? = some (.int .i64 s.tm) := rfl
theorem st_pu (s : Es) (v : Value) : ((stc s v).drop 2).take 64 = bkc s.pu := by rw [stc_pu]; exact part_at (len2 s) (bkc_len _)
theorem st_va (s : Es) (v : Value) : ((stc s v).drop 66).take 64 = bkc s.va := by rw [stc_va]; exact part_at (len66 s) (bkc_len _)
theorem st_no (s : Es) (v : Value) : ((stc s v).drop 130).take 8 = noc s.no := by rw [stc_no]; exact part_at (len130 s) (noc_len _)
theorem st_noS (s : Es) (v : Value) {i : Nat} (hi : i < 8) : (stc s v)[130 + i]? = some (.int .i64 (s.no i)) := by
  rw [stc_no, cell_in (len130 s) i (by rw [noc_len]; exact hi), noc_at _ hi]
theorem st_he (s : Es) (v : Value) : ((stc s v).drop 138).take 8 = hec s.he := by rw [stc_he]; exact part_at (len138 s) (hec_len _)
theorem hec_part (h : Bk) {a : Nat} (ha : a < 2) : ((hec h).drop (4 * a)).take 4 = ws (nw (h a)) := by
  unfold hec
  rw [rowB_drop h 0 2 (by omega), Nat.zero_add, show 4 = 4 * 1 from rfl, rowB_take h a (2 - a) (by omega), rowB, rowB, List.append_nil]
theorem st_heS (s : Es) (v : Value) {a : Nat} (ha : a < 2) : ((stc s v).drop (138 + 4 * a)).take 4 = ws (nw (s.he a)) := by
  rw [stc_he, part_in (len138 s) (4 * a) 4 (by rw [hec_len]; omega)]; exact hec_part _ ha
theorem st_bu (s : Es) (v : Value) : ((stc s v).drop 146).take 4 = ws (nw s.bu) := by rw [stc_bu]; exact part_at (len146 s) (ws_len _)
theorem st_lk (s : Es) (v : Value) : (stc s v)[150]? = some v := by rw [stc_lk]; exact cell_in (len150 s) 0 (by simp)
theorem set_tm (s : Es) (v : Value) (z : Int) : (stc s v).set 1 (.int .i64 z) = stc { s with tm := z } v := rfl
theorem set_pu (s : Es) (v : Value) (b : Bk) : laid (stc s v) 2 (bkc b) = stc { s with pu := b } v := by
  rw [stc_pu, stc_pu, laid_at (len2 s) (by rw [bkc_len, bkc_len])]
theorem set_va (s : Es) (v : Value) (b : Bk) : laid (stc s v) 66 (bkc b) = stc { s with va := b } v := by
  rw [stc_va, stc_va, laid_at (len66 s) (by rw [bkc_len, bkc_len])]
theorem set_noS (s : Es) (v : Value) (z : Int) {i : Nat} (hi : i < 8) : (stc s v).set (130 + i) (.int .i64 z) = stc { s with no := updNo s.no i z } v := by
  rw [stc_no, stc_no, set_in (len130 s) i _ (by rw [noc_len]; exact hi), noc_set _ hi]
theorem hec_set (h : Bk) (n : Nat) {a : Nat} (ha : a < 2) : laid (hec h) (4 * a) (ws (nw n)) = hec (updB h a n) := by
  match a, ha with
  | 0, _ => rfl
  | 1, _ => rfl
theorem set_heS (s : Es) (v : Value) (n : Nat) {a : Nat} (ha : a < 2) : laid (stc s v) (138 + 4 * a) (ws (nw n)) = stc { s with he := updB s.he a n } v := by
  rw [stc_he, stc_he, laid_in (len138 s) _ (4 * a) (by rw [hec_len, ws_len]; omega), hec_set _ _ ha]
theorem set_bu (s : Es) (v : Value) (n : Nat) : laid (stc s v) 146 (ws (nw n)) = stc { s with bu := n } v := by
  rw [stc_bu, stc_bu, laid_at (len146 s) (by rw [ws_len, ws_len])]
theorem set_lk (s : Es) (v u : Value) : (stc s v).set 150 u = stc s u := by
  rw [stc_lk, stc_lk]; exact set_in (len150 s) 0 u (by simp)
theorem stc_one (s : Es) (v : Value) (hv : v.oneCell' = true) : (stc s v).all (·.oneCell') = true := by
  have hb : ∀ b : Bk, (bkc b).all (·.oneCell') = true := fun b => by
    have h : ∀ s n, (rowB b s n).all (·.oneCell') = true := fun s n => by
      induction n generalizing s with
      | zero => rfl
      | succ n ih => rw [rowB, List.all_append, ih]; rfl
    exact h 0 16
  have hh : (hec s.he).all (·.oneCell') = true := rfl
  have hn : (noc s.no).all (·.oneCell') = true := rfl
  have hw : (ws (nw s.bu)).all (·.oneCell') = true := rfl
  unfold stc
  simp only [List.all_append, hb, hh, hn, hw, List.all_cons, List.all_nil, hv, Bool.and_true]
  rfl
end Go.Proofs.YtfoemkmoambagaaGreat
namespace Go.Proofs.YtfoemkmoambagaaGreat
open Go.RowKit Go.Shelf
theorem bkc_size (b : Bk) : (bkc b).toArray.size = 64 := by rw [List.size_toArray, bkc_len]
theorem info_book : (Tryz.prog.info? 31).map (·.size) = some 64 := by kernel_rfl
theorem info_wide : (Tryz.prog.info? 28).map (·.size) = some 4 := by kernel_rfl
theorem load_book {W : World} {B : Nat} {T : TypeId} {b : Bk} (h : Blk W B T (bkc b)) : (Instr.loadAt 31 (.pointer (some ⟨B, 0, none⟩))).run Tryz.prog W = .ok (bkv b) W :=
  load_part h 0 (bkc b) (by rw [List.drop_zero, List.take_length]) _ _ Tryz.underlying31 rfl (by rw [bkc_len]; exact info_book)
theorem off_slot {i j : Nat} : i * 8 + j * 4 = 4 * (2 * i + j) := by omega
theorem load_slot {W : World} {B : Nat} {T : TypeId} {b : Bk} (h : Blk W B T (bkc b)) {i j : Nat} (hi : i < 8) (hj : j < 2) : (Instr.loadAt 28 (.pointer (some ⟨B, i * 8 + j * 4, none⟩))).run Tryz.prog W = .ok (wn (b (2 * i + j))) W := by
  rw [off_slot]
  exact load_part h (4 * (2 * i + j)) (ws (nw (b (2 * i + j)))) (by rw [ws_len]; exact bkc_part b (by omega)) _ _ Tryz.underlying28 rfl (by rw [ws_len]; exact info_wide)
theorem load_wn {W : World} {B : Nat} {T : TypeId} {n : Nat} (h : Blk W B T (ws (nw n))) : (Instr.loadAt 28 (.pointer (some ⟨B, 0, none⟩))).run Tryz.prog W = .ok (wn n) W :=
  load_part h 0 (ws (nw n)) rfl _ _ Tryz.underlying28 rfl (by kernel_rfl)
abbrev noK : Bk := fun _ => 0
theorem bkc_no : bkc noK = List.replicate 64 (.int .u64 0) := by
  have h : ∀ s n, rowB noK s n = List.replicate (4 * n) (.int .u64 0) := fun s n => by
    induction n generalizing s with
    | zero => rfl
    | succ n ih => rw [rowB, ih]; unfold noK ws; rw [nw_zero, nw_zero, nw_zero, nw_zero, show 4 * (n + 1) = 4 * n + 1 + 1 + 1 + 1 by omega]; simp only [List.replicate_succ]; rfl
  exact h 0 16
theorem ws_no : ws (nw 0) = [.int .u64 0, .int .u64 0, .int .u64 0, .int .u64 0] := by unfold ws; rw [nw_zero, nw_zero, nw_zero, nw_zero]; rfl
theorem row_book {vs : List Value} (b : Bk) (h : vs.length = 64) : laid vs 0 (bkc b) = bkc b := by
  unfold laid
  rw [bkc_len, List.take_zero, Nat.zero_add, List.drop_of_length_le (by omega), List.nil_append, List.append_nil]
theorem one_book (b : Bk) : (bkc b).all (·.oneCell') = true := by
  have h : ∀ s n, (rowB b s n).all (·.oneCell') = true := fun s n => by
    induction n generalizing s with
    | zero => rfl
    | succ n ih => rw [rowB, List.all_append, ih]; rfl
  exact h 0 16
theorem row_slot (b : Bk) (n : Nat) {i j : Nat} (hi : i < 8) (hj : j < 2) : laid (bkc b) (i * 8 + j * 4) (ws (nw n)) = bkc (updB b (2 * i + j) n) := by
  rw [off_slot]; exact bkc_set b n (by omega)
theorem row_wn (n : Nat) (m : Nat) : laid (ws (nw m)) 0 (ws (nw n)) = ws (nw n) := rfl
theorem wpList_store_book {ops : Array Oper} {rest : List Oper} {o : Oper} {a : Act} {w : World} {Q : Exit → Act → World → Prop} {T : TypeId} (x y : Operand) {vs : List Value} {B : Nat} (hB : Blk w B T vs) (hv : vs.length = 64) (b : Bk) (ho : o.op = .store 31 x y) (hd : o.dst = none) (hgd : o.guard = none)
    (hx : a.eval x = .pointer (some ⟨B, 0, none⟩)) (hy : a.eval y = bkv b)
    (h : wpList Tryz.prog ops Q rest a (w.setRow B (bkc b).toArray)) : wpList Tryz.prog ops Q (o :: rest) a w :=
  wpList_store_part 31 x y (bkc b) hB 0 (bkv b) (bkc b) ho hd hgd hx hy rfl (by rw [bkc_len]; exact info_book) (by rw [bkc_len, hv]; exact Nat.le_refl _) (one_book b) (row_book b hv) h
theorem wp_store_slot {o : Oper} {a : Act} {w : World} {K : Act → World → Prop} {Q : Exit → Act → World → Prop} {T : TypeId} (x y : Operand) {b : Bk} {B : Nat} (hB : Blk w B T (bkc b)) {i j : Nat} (hi : i < 8) (hj : j < 2) (n : Nat) (ho : o.op = .store 28 x y) (hd : o.dst = none)
    (hx : a.eval x = .pointer (some ⟨B, i * 8 + j * 4, none⟩)) (hy : a.eval y = wn n)
    (h : K a (w.setRow B (bkc (updB b (2 * i + j) n)).toArray)) : o.wp Tryz.prog a w K Q :=
  wp_store_part 28 x y (bkc (updB b (2 * i + j) n)) hB (i * 8 + j * 4) (wn n) (ws (nw n)) ho hd hx hy rfl (by kernel_rfl) (by rw [ws_len, bkc_len]; omega) rfl (row_slot b n hi hj) h
theorem wp_store_wn {o : Oper} {a : Act} {w : World} {K : Act → World → Prop} {Q : Exit → Act → World → Prop} {T : TypeId} (x y : Operand) {m : Nat} {B : Nat} (hB : Blk w B T (ws (nw m))) (n : Nat) (ho : o.op = .store 28 x y) (hd : o.dst = none)
    (hx : a.eval x = .pointer (some ⟨B, 0, none⟩)) (hy : a.eval y = wn n)
    (h : K a (w.setRow B (ws (nw n)).toArray)) : o.wp Tryz.prog a w K Q :=
  wp_store_part 28 x y (ws (nw n)) hB 0 (wn n) (ws (nw n)) ho hd hx hy rfl (by kernel_rfl) (Nat.le_refl _) rfl (row_wn n m) h
theorem wpList_storeN_book {ops : Array Oper} {rest : List Oper} {o : Oper} {a : Act} {W : World} {c : Array Value} {Q : Exit → Act → World → Prop} {T : TypeId} (x y : Operand) (hv : c.size = 64) (b : Bk) (ho : o.op = .store 31 x y) (hd : o.dst = none) (hgd : o.guard = none)
    (hx : a.eval x = .pointer (some ⟨W.heap.size, 0, none⟩)) (hy : a.eval y = bkv b)
    (h : wpList Tryz.prog ops Q rest a (W.alloc (.cells (bkc b).toArray T))) : wpList Tryz.prog ops Q (o :: rest) a (W.alloc (.cells c T)) := by
  have hB : Blk (W.alloc (.cells c T)) W.heap.size T c.toList := Blk.new W T c.toList
  refine wpList_store_book x y hB (by simpa using hv) b ho hd hgd hx hy ?_
  rw [World.setRow_alloc_new]
  exact h
end Go.Proofs.YtfoemkmoambagaaGreat
namespace Go.Proofs.YtfoemkmoambagaaGreat
open Go.RowKit Go.Shelf
def addLo (x y c : Nat) : Nat := (x + y + c) % M
def addHi (x y c : Nat) : Nat := (x + y + c) / M
def subLo (x y b : Nat) : Nat := (x + M - y - b) % M
def subHi (x y b : Nat) : Nat := if x < y + b then 1 else 0
theorem run_bitsAdd64 (x y c : Nat) (hc : c ≤ 1) (w : World) :
    (callFunc 79 #[.int .u64 x, .int .u64 y, .int .u64 c]).run Tryz.prog w = .ok (.value (.tuple #[.int .u64 (addLo x y c : Nat), .int .u64 (addHi x y c : Nat)])) w := by
  rw [run_callFunc_extern Tryz.func79 (by kernel_rfl) (by kernel_rfl) (by kernel_rfl) (e := add64Entry) (by kernel_rfl), run_add64 x y c (by omega) (by omega) (by omega) (by omega)]
  simp only [Result.andThen, addLo, addHi, M]
  congr 5 <;> omega
theorem run_bitsSub64 (x y b : Nat) (hb : b ≤ 1) (w : World) :
    (callFunc 101 #[.int .u64 x, .int .u64 y, .int .u64 b]).run Tryz.prog w = .ok (.value (.tuple #[.int .u64 (subLo x y b : Nat), .int .u64 (subHi x y b : Nat)])) w := by
  rw [run_callFunc_extern Tryz.func101 (by kernel_rfl) (by kernel_rfl) (by kernel_rfl) (e := sub64Entry) (by kernel_rfl), run_sub64 x y b hb]
  rfl
theorem addHi_le {x y c : Nat} (hx : x < M) (hy : y < M) (hc : c ≤ 1) : addHi x y c ≤ 1 := by
  unfold addHi M at *; omega
end Go.Proofs.YtfoemkmoambagaaGreat
namespace Go.Proofs.YtfoemkmoambagaaGreat
open Go.RowKit Go.Shelf
attribute [local go_sem] Oper.semAt_some
def ups {a0 a1 a2 a3 : Nat} (h : Ok4 a0 a1 a2 a3) : List PW := [pw 0 a0 (by omega) h.h0, pw 1 a1 (by omega) h.h1, pw 2 a2 (by omega) h.h2, pw 3 a3 (by omega) h.h3]
theorem index_arr4 (x0 x1 x2 x3 : Value) (w : World) :
    (Instr.index 28 (.agg #[x0, x1, x2, x3]) (.int .i64 0)).run Tryz.prog w = .ok x0 w ∧ (Instr.index 28 (.agg #[x0, x1, x2, x3]) (.int .i64 1)).run Tryz.prog w = .ok x1 w ∧
    (Instr.index 28 (.agg #[x0, x1, x2, x3]) (.int .i64 2)).run Tryz.prog w = .ok x2 w ∧ (Instr.index 28 (.agg #[x0, x1, x2, x3]) (.int .i64 3)).run Tryz.prog w = .ok x3 w :=
  ⟨by kernel_rfl, by kernel_rfl, by kernel_rfl, by kernel_rfl⟩
set_option maxRecDepth 100000 in
set_option maxHeartbeats 2000000 in
theorem up1_stops (F : Fence) (n : Nat) (h : F.fn 102) (hro : F.round = none) (hn : 1 ≤ n) {a0 a1 a2 a3 : Nat} (ha : Ok4 a0 a1 a2 a3) (B : Nat) (w : World) (hB : B < w.heap.size)
    (hb0 : w.cell? ⟨B, 0, none⟩ = some (.int .u64 a0)) (hb1 : w.cell? ⟨B, 1, none⟩ = some (.int .u64 a1)) (hb2 : w.cell? ⟨B, 2, none⟩ = some (.int .u64 a2)) (hb3 : w.cell? ⟨B, 3, none⟩ = some (.int .u64 a3)) :
    SeqStopsK F n Tryz.prog 102 #[.pointer (some ⟨B, 0, none⟩)] pwEnc (fun _ _ => True) (fun ys => ys = ups ha) (fun _ => True) 4 w := fun l J Jx W hW _ _ hY h0 => by
  have hb0' := (hW.cell (p := ⟨B, 0, none⟩) hB).trans hb0
  have hb1' := (hW.cell (p := ⟨B, 1, none⟩) hB).trans hb1
  have hb2' := (hW.cell (p := ⟨B, 2, none⟩) hB).trans hb2
  have hb3' := (hW.cell (p := ⟨B, 3, none⟩) hB).trans hb3
  clear hb0 hb1 hb2 hb3
  refine callsIn_of_wp Tryz.func102 rfl h ?_ hro
  simp only [Tryz.ntmps102, List.size_toArray, List.length_cons, List.length_nil, Nat.reduceAdd, Nat.reduceSub, Array.replicate_succ, Array.replicate_zero, List.push_toArray, List.append_toArray, List.nil_append, List.cons_append]
  gi_wp2
  clear hb0' hb1' hb2' hb3'
  gi_loopw [6] (fun i wr => ∃ k : Nat, k ≤ 4 ∧ i = .int .i64 k ∧ J ((ups ha).take k) wr) (fun i _ => 4 - (intOf i).toNat)
  case atStart => exact ⟨0, by omega, rfl, h0⟩
  case round =>
    obtain ⟨k, hk, rfl, hJs⟩ := hrel
    have hx := index_arr4 (.int .u64 (a0 : Int)) (.int .u64 (a1 : Int)) (.int .u64 (a2 : Int)) (.int .u64 (a3 : Int)) wr
    obtain ⟨hx0, hx1, hx2, hx3⟩ := hx
    have hk' : k = 0 ∨ k = 1 ∨ k = 2 ∨ k = 3 ∨ k = 4 := by omega
    rcases hk' with rfl | rfl | rfl | rfl | rfl
    · obtain ⟨fn, tmps, assign, body, hy, hR⟩ := hY _ (pw 0 a0 (by omega) ha.h0) wr hJs (by simp [ups])
      change (Instr.yield l #[.int .i64 0, .int .u64 (a0 : Int)]).run _ _ = _ at hy
      gi_wp2
      refine hR.mono ?_
      rintro e W3 (⟨rfl, hJ3, hk3⟩ | ⟨rfl, hJx3⟩)
      · gi_wp2
        go_roundw
        case rel => exact ⟨1, by omega, by simp, hJ3⟩
        case measure => simp [intOf]
      · gi_wp2
        refine bodyPost_ret (results_none rfl _ _ _) rfl ?_
        exact ⟨⟨_, rfl⟩, .inr ⟨_, trivial, hJx3⟩⟩
    · obtain ⟨fn, tmps, assign, body, hy, hR⟩ := hY _ (pw 1 a1 (by omega) ha.h1) wr hJs (by simp [ups])
      change (Instr.yield l #[.int .i64 1, .int .u64 (a1 : Int)]).run _ _ = _ at hy
      gi_wp2
      refine hR.mono ?_
      rintro e W3 (⟨rfl, hJ3, hk3⟩ | ⟨rfl, hJx3⟩)
      · gi_wp2
        go_roundw
        case rel => exact ⟨2, by omega, by simp, hJ3⟩
        case measure => simp [intOf]
      · gi_wp2
        refine bodyPost_ret (results_none rfl _ _ _) rfl ?_
        exact ⟨⟨_, rfl⟩, .inr ⟨_, trivial, hJx3⟩⟩
    · obtain ⟨fn, tmps, assign, body, hy, hR⟩ := hY _ (pw 2 a2 (by omega) ha.h2) wr hJs (by simp [ups])
      change (Instr.yield l #[.int .i64 2, .int .u64 (a2 : Int)]).run _ _ = _ at hy
      gi_wp2
      refine hR.mono ?_
      rintro e W3 (⟨rfl, hJ3, hk3⟩ | ⟨rfl, hJx3⟩)
      · gi_wp2
        go_roundw
        case rel => exact ⟨3, by omega, by simp, hJ3⟩
        case measure => simp [intOf]
      · gi_wp2
        refine bodyPost_ret (results_none rfl _ _ _) rfl ?_
        exact ⟨⟨_, rfl⟩, .inr ⟨_, trivial, hJx3⟩⟩
    · obtain ⟨fn, tmps, assign, body, hy, hR⟩ := hY _ (pw 3 a3 (by omega) ha.h3) wr hJs (by simp [ups])
      change (Instr.yield l #[.int .i64 3, .int .u64 (a3 : Int)]).run _ _ = _ at hy
      gi_wp2
      refine hR.mono ?_
      rintro e W3 (⟨rfl, hJ3, hk3⟩ | ⟨rfl, hJx3⟩)
      · gi_wp2
        go_roundw
        case rel => exact ⟨4, by omega, by simp, hJ3⟩
        case measure => simp [intOf]
      · gi_wp2
        refine bodyPost_ret (results_none rfl _ _ _) rfl ?_
        exact ⟨⟨_, rfl⟩, .inr ⟨_, trivial, hJx3⟩⟩
    · gi_wp2
      go_end0
      exact ⟨⟨_, rfl⟩, .inl ⟨_, rfl, hJs⟩⟩
set_option maxHeartbeats 1000000 in
theorem up_in (F : Fence) (n : Nat) (h : F.fn 78) (hro : F.round = none) (a0 a1 a2 a3 : Nat) (w : World) :
    CallsIn F n Tryz.prog 78 #[wv a0 a1 a2 a3] w fun e w' => e = .returned (.func (.func 102) #[] #[.pointer (some ⟨w.heap.size, 0, none⟩)]) ∧ w' = w.alloc (.cells #[.int .u64 a0, .int .u64 a1, .int .u64 a2, .int .u64 a3] 28) := by
  refine callsIn_of_wp Tryz.func78 rfl h ?_ hro
  simp only [Tryz.ntmps78, List.size_toArray, List.length_cons, List.length_nil, Nat.reduceAdd, Nat.reduceSub, Array.replicate_succ, Array.replicate_zero, List.push_toArray, List.append_toArray, List.nil_append, List.cons_append]
  gi_wp2
  go_ret
  exact ⟨rfl, rfl⟩
end Go.Proofs.YtfoemkmoambagaaGreat
namespace Go.Proofs.YtfoemkmoambagaaGreat
open Go.RowKit
def stpG (lo hi : Nat → Nat → Nat → Nat) (b : Nat → Nat) (s : (Nat → Nat) × Nat) (x : PW) : (Nat → Nat) × Nat := (upd s.1 x.1.1 (lo x.1.2 (b x.1.1) s.2), hi x.1.2 (b x.1.1) s.2)
def foldG (lo hi : Nat → Nat → Nat → Nat) (b : Nat → Nat) (pre : List PW) : (Nat → Nat) × Nat := pre.foldl (stpG lo hi b) (fun _ => 0, 0)
theorem foldG_snoc (lo hi : Nat → Nat → Nat → Nat) (b : Nat → Nat) (pre : List PW) (x : PW) : foldG lo hi b (pre ++ [x]) = stpG lo hi b (foldG lo hi b pre) x := by simp [foldG]
theorem foldG_all (lo hi : Nat → Nat → Nat → Nat) {a0 a1 a2 a3 b0 b1 b2 b3 : Nat} (ha : Ok4 a0 a1 a2 a3) :
    ws (foldG lo hi (word b0 b1 b2 b3) (ups ha)).1 = [.int .u64 (lo a0 b0 0 : Nat), .int .u64 (lo a1 b1 (hi a0 b0 0) : Nat), .int .u64 (lo a2 b2 (hi a1 b1 (hi a0 b0 0)) : Nat), .int .u64 (lo a3 b3 (hi a2 b2 (hi a1 b1 (hi a0 b0 0))) : Nat)] ∧
    (foldG lo hi (word b0 b1 b2 b3) (ups ha)).2 = hi a3 b3 (hi a2 b2 (hi a1 b1 (hi a0 b0 0))) := ⟨rfl, rfl⟩
def addF (b : Nat → Nat) (pre : List PW) : (Nat → Nat) × Nat := foldG addLo addHi b pre
def subF (b : Nat → Nat) (pre : List PW) : (Nat → Nat) × Nat := foldG subLo subHi b pre
theorem addF_snoc (b : Nat → Nat) (pre : List PW) (x : PW) : addF b (pre ++ [x]) = stpG addLo addHi b (addF b pre) x := foldG_snoc addLo addHi b pre x
theorem subF_snoc (b : Nat → Nat) (pre : List PW) (x : PW) : subF b (pre ++ [x]) = stpG subLo subHi b (subF b pre) x := foldG_snoc subLo subHi b pre x
theorem addLoHi {x y c : Nat} (hx : x < M) (hy : y < M) (hc : c ≤ 1) : addLo x y c < M ∧ addHi x y c ≤ 1 ∧ addLo x y c + M * addHi x y c = x + y + c := by
  unfold addLo addHi M at *; omega
theorem addF_sum {a0 a1 a2 a3 b0 b1 b2 b3 : Nat} (ha : Ok4 a0 a1 a2 a3) (hb : Ok4 b0 b1 b2 b3) :
    ∃ s0 s1 s2 s3 c, Ok4 s0 s1 s2 s3 ∧ c ≤ 1 ∧ ws (addF (word b0 b1 b2 b3) (ups ha)).1 = [.int .u64 (s0 : Nat), .int .u64 (s1 : Nat), .int .u64 (s2 : Nat), .int .u64 (s3 : Nat)] ∧ (addF (word b0 b1 b2 b3) (ups ha)).2 = c ∧
      val a0 a1 a2 a3 + val b0 b1 b2 b3 = val s0 s1 s2 s3 + M4 * c := by
  obtain ⟨g0, e0, f0⟩ := addLoHi (c := 0) ha.h0 hb.h0 (by omega)
  obtain ⟨g1, e1, f1⟩ := addLoHi ha.h1 hb.h1 e0
  obtain ⟨g2, e2, f2⟩ := addLoHi ha.h2 hb.h2 e1
  obtain ⟨g3, e3, f3⟩ := addLoHi ha.h3 hb.h3 e2
  refine ⟨_, _, _, _, _, ⟨g0, g1, g2, g3⟩, e3, (foldG_all addLo addHi ha).1, (foldG_all addLo addHi ha).2, ?_⟩
  generalize addLo a3 b3 _ = s3 at *
  generalize addHi a3 b3 _ = c3 at *
  generalize addLo a2 b2 _ = s2 at *
  generalize addHi a2 b2 _ = c2 at *
  generalize addLo a1 b1 _ = s1 at *
  generalize addHi a1 b1 _ = c1 at *
  generalize addLo a0 b0 _ = s0 at *
  generalize addHi a0 b0 _ = c0 at *
  unfold val M4 M at *
  omega
theorem subLoHi {x y c : Nat} (hx : x < M) (hy : y < M) (hc : c ≤ 1) : subLo x y c < M ∧ subHi x y c ≤ 1 ∧ subLo x y c + y + c = x + M * subHi x y c := by
  unfold subLo subHi M at *
  split <;> omega
theorem subHi_le (x y c : Nat) : subHi x y c ≤ 1 := by unfold subHi; split <;> omega
theorem borrow_step {s y c x c' S Y X K : Nat} (h1 : s + y + c = x + M * c') (h2 : S + Y + c' = X + K) : s + M * S + (y + M * Y) + c = x + M * X + M * K := by
  have e : M * (S + Y + c') = M * (X + K) := by rw [h2]
  rw [Nat.mul_add, Nat.mul_add, Nat.mul_add] at e
  omega
theorem subF_diff {a0 a1 a2 a3 b0 b1 b2 b3 : Nat} (ha : Ok4 a0 a1 a2 a3) (hb : Ok4 b0 b1 b2 b3) :
    ∃ s0 s1 s2 s3 c, Ok4 s0 s1 s2 s3 ∧ c ≤ 1 ∧ ws (subF (word b0 b1 b2 b3) (ups ha)).1 = [.int .u64 (s0 : Nat), .int .u64 (s1 : Nat), .int .u64 (s2 : Nat), .int .u64 (s3 : Nat)] ∧ (subF (word b0 b1 b2 b3) (ups ha)).2 = c ∧
      val s0 s1 s2 s3 + val b0 b1 b2 b3 = val a0 a1 a2 a3 + M4 * c := by
  obtain ⟨g0, e0, f0⟩ := subLoHi (c := 0) ha.h0 hb.h0 (by omega)
  obtain ⟨g1, e1, f1⟩ := subLoHi ha.h1 hb.h1 e0
  obtain ⟨g2, e2, f2⟩ := subLoHi ha.h2 hb.h2 e1
  obtain ⟨g3, e3, f3⟩ := subLoHi ha.h3 hb.h3 e2
  refine ⟨_, _, _, _, _, ⟨g0, g1, g2, g3⟩, e3, (foldG_all subLo subHi ha).1, (foldG_all subLo subHi ha).2, ?_⟩
  have t3 := borrow_step f2 f3
  have t2 := borrow_step f1 t3
  have t1 := borrow_step f0 t2
  rw [Nat.add_zero] at t1
  refine t1.trans ?_
  unfold val M4
  rw [Nat.mul_assoc, Nat.mul_assoc, Nat.mul_assoc]
end Go.Proofs.YtfoemkmoambagaaGreat
namespace Go.Proofs.YtfoemkmoambagaaGreat
open Go.RowKit Go.Shelf
attribute [local go_sem] Oper.semAt_some
set_option maxRecDepth 100000 in
set_option maxHeartbeats 2000000 in
theorem add_in (n : Nat) (hn : 3 ≤ n) {a0 a1 a2 a3 b0 b1 b2 b3 : Nat} (ha : Ok4 a0 a1 a2 a3) (hb : Ok4 b0 b1 b2 b3) (w : World) :
    CallsIn Fence.wide n Tryz.prog 59 #[wv a0 a1 a2 a3, wv b0 b1 b2 b3] w (AddW (val a0 a1 a2 a3 + val b0 b1 b2 b3) w) := by
  have h1 : 1 ≤ n := by omega
  refine callsIn_of_wp_marks Tryz.func59 rfl trivial ?_ rfl
  simp only [Tryz.ntmps59, List.size_toArray, List.length_cons, List.length_nil, Nat.reduceAdd, Nat.reduceSub, Array.replicate_succ, Array.replicate_zero, List.push_toArray, List.append_toArray, List.nil_append, List.cons_append]
  gi_wp2_with (refine ⟨trivial, ?_⟩; gi_at_call 78; refine (up_in Fence.wide (n - 1) trivial rfl _ _ _ _ _).mono ?_; rintro e w' ⟨rfl, rfl⟩)
  generalize hW5 : World.alloc _ _ = W5
  have k1 : Blk W5 (w.heap.size + 1) 28 (ws (word b0 b1 b2 b3)) := by rw [← hW5]; exact ((((Blk.new' (by simp)).alloc _).alloc _).alloc _).alloc _
  have k2 : Blk W5 (w.heap.size + 1 + 1) 28 (ws (fun _ => 0)) := by rw [← hW5]; exact (((Blk.new' (by simp)).alloc _).alloc _).alloc _
  have k3 : Blk W5 (w.heap.size + 1 + 1 + 1) 28 (ws (fun _ => 0)) := by rw [← hW5]; exact ((Blk.new' (by simp)).alloc _).alloc _
  have k4 : Blk W5 (w.heap.size + 1 + 1 + 1 + 1) 26 [.int .u64 ((0 : Nat) : Int)] := by rw [← hW5]; exact (Blk.new' (by simp)).alloc _
  have k5 : Blk W5 (w.heap.size + 1 + 1 + 1 + 1 + 1) 28 (ws (word a0 a1 a2 a3)) := by rw [← hW5]; exact Blk.new' (by simp)
  have hB0 : Below w.heap.size w W5 := by rw [← hW5]; exact ((((((Below.refl _ w).alloc (Nat.le_refl _) _).alloc (by simp) _).alloc (by simp; omega) _).alloc (by simp; omega) _).alloc (by simp; omega) _).alloc (by simp; omega) _
  have hz : W5.heap.size = w.heap.size + 6 := by rw [← hW5]; simp
  clear hW5
  refine wpIn_rangeFunc_ownF (S := fun ys => ys = ups ha) rfl h1 (gf := 102) (lb := #[.pointer (some ⟨w.heap.size + 1 + 1 + 1 + 1 + 1, 0, none⟩)]) rfl trivial (enters_of Tryz.func102 (by kernel_rfl) rfl)
    (up1_stops Fence.wide (n - 1) trivial rfl (by omega) ha (w.heap.size + 1 + 1 + 1 + 1 + 1) W5 k5.lt (k5.cell 0) (k5.cell 1) (k5.cell 2) (k5.cell 3)) (fun _ _ => trivial) (fun _ _ _ _ _ _ _ _ => trivial) (Below.refl _ _) (fun _ => rfl)
    (fun pre W => ((Blk W (w.heap.size + 1) 28 (ws (word b0 b1 b2 b3)) ∧ Blk W (w.heap.size + 1 + 1) 28 (ws (fun _ => 0)) ∧ Blk W (w.heap.size + 1 + 1 + 1) 28 (ws (addF (word b0 b1 b2 b3) pre).1) ∧ Blk W (w.heap.size + 1 + 1 + 1 + 1) 26 [.int .u64 ((addF (word b0 b1 b2 b3) pre).2 : Nat)]) ∧ (addF (word b0 b1 b2 b3) pre).2 ≤ 1) ∧ Below w.heap.size w W)
    (fun _ _ _ => False)
    (OwnFrom.and (Own.from (fun s A B row hs hg hr => ⟨⟨blk_own _ _ (fun _ => _) s A B row hs.1.1 hg hr, blk_own _ _ (fun _ => _) s A B row hs.1.2.1 hg hr, blk_own _ _ (fun pre => ws (addF (word b0 b1 b2 b3) pre).1) s A B row hs.1.2.2.1 hg hr, blk_own _ _ (fun pre => [.int .u64 ((addF (word b0 b1 b2 b3) pre).2 : Nat)]) s A B row hs.1.2.2.2 hg hr⟩, hs.2⟩) _) (ownFrom_below (Nat.le_refl _) (by omega)))
    (fun _ _ _ _ _ hs _ _ => hs)
    ⟨⟨⟨k1, k2, k3, k4⟩, Nat.zero_le _⟩, hB0⟩
    (fun x => { tmps := #[wv a0 a1 a2 a3, wv b0 b1 b2 b3, .pointer (some ⟨w.heap.size, 0, none⟩), .pointer (some ⟨w.heap.size + 1, 0, none⟩), .pointer (some ⟨w.heap.size + 1 + 1, 0, none⟩), .bool false, .pointer (some ⟨w.heap.size + 1 + 1 + 1, 0, none⟩), .pointer (some ⟨w.heap.size + 1 + 1 + 1 + 1, 0, none⟩), .int .i64 (x.1.1 : Int), .int .u64 (x.1.2 : Int), wv a0 a1 a2 a3, .func (.func 102) #[] #[.pointer (some ⟨w.heap.size + 1 + 1 + 1 + 1 + 1, 0, none⟩)], .int .i64 (x.1.1 : Int), .int .u64 (x.1.2 : Int), undef, undef, undef, undef, undef, undef, undef, undef, undef, undef, undef, undef, undef, undef, undef], defers := [] }) ?assign ?body ?done ?stop
  case assign =>
    intro l x W K hK
    gi_wp2
    exact hK
  case body =>
    rintro l pre ⟨⟨i, x⟩, hi, hx⟩ W ⟨⟨⟨k1, k2, k3, k4⟩, hc⟩, hB⟩ _
    dsimp only at hi hx
    have hi' : (i : Int) < 4 := by omega
    have cb := k1.cell i
    rw [ws_at _ hi] at cb
    have cs := k3.cell i
    rw [ws_at _ hi] at cs
    have fs := k3.frozen i
    have cc : W.cell? ⟨w.heap.size + 1 + 1 + 1 + 1, 0, none⟩ = some (.int .u64 ((addF (word b0 b1 b2 b3) pre).2 : Nat)) := k4.cell 0
    have fc := k4.frozen 0
    have hadd := fun (w : World) => run_bitsAdd64 x (word b0 b1 b2 b3 i) (addF (word b0 b1 b2 b3) pre).2 hc w
    have hmx : Tryz.prog.follows .mixedOrders = true := by kernel_rfl
    gi_wp2
    refine wpIn_round_any hmx (by kernel_rfl) ?_
    refine wpAny_take (i := 0) (v := ?_) rfl (by kernel_rfl) (by kernel_rfl) (by kernel_rfl) (fun _ _ _ h => h) (Or.inl ⟨rfl, ?_⟩) ?_
    rotate_left
    · intro w'; go_simp; with_reducible rfl
    refine wpAny_take (i := 1) (v := ?_) rfl (by kernel_rfl) (by kernel_rfl) (by kernel_rfl) (fun _ _ _ h => h) (Or.inl ⟨rfl, ?_⟩) ?_
    rotate_left
    · intro w'; go_simp; with_reducible rfl
    refine wpAny_take (i := 2) (v := ?_) rfl (by kernel_rfl) (by kernel_rfl) (by kernel_rfl) (fun _ _ _ h => h) (Or.inl ⟨rfl, ?_⟩) ?_
    rotate_left
    · intro w'; go_simp; with_reducible rfl
    refine wpAny_take (i := 3) (v := ?_) rfl (by kernel_rfl) (by kernel_rfl) (by kernel_rfl) (fun _ _ _ h => h) (Or.inl ⟨rfl, ?_⟩) ?_
    rotate_left
    · intro w'; go_simp; with_reducible rfl
    refine wpAny_ready (rs := [4, 5]) (by kernel_rfl) (by simp) ?_
    refine AllReady.cons rfl (fun K hK => ?_) (AllReady.cons rfl (fun K hK => ?_) AllReady.nil)
    all_goals (go_simp; refine hK _ _ ?_; clear hK K)
    rotate_left
    refine wpAny_ready (rs := [4]) (by kernel_rfl) (by simp) ?_
    refine AllReady.cons rfl (fun K hK => ?_) AllReady.nil
    go_simp
    refine hK _ _ ?_
    clear hK K
    rotate_left
    refine wpAny_ready (rs := [5]) (by kernel_rfl) (by simp) ?_
    refine AllReady.cons rfl (fun K hK => ?_) AllReady.nil
    go_simp
    refine hK _ _ ?_
    clear hK K
    all_goals
      refine wpAny_ready (rs := [6]) (by kernel_rfl) (by simp) ?_
      refine AllReady.cons rfl (fun K hK => ?_) AllReady.nil
      go_simp
      refine hK _ _ ?_
      clear hK K
      refine wpAny_take (i := 7) (v := ?_) rfl (by kernel_rfl) (by kernel_rfl) (by kernel_rfl) (fun _ _ _ h => h) (Or.inl ⟨rfl, ?_⟩) ?_
      rotate_left
      · intro w'; go_simp; with_reducible rfl
      refine wpAny_take (i := 8) (v := ?_) rfl (by kernel_rfl) (by kernel_rfl) (by kernel_rfl) (fun _ _ _ h => h) (Or.inl ⟨rfl, ?_⟩) ?_
      rotate_left
      · intro w'; go_simp; with_reducible rfl
      refine wpAny_take (i := 9) (v := ?_) rfl (by kernel_rfl) (by kernel_rfl) (by kernel_rfl) (fun _ _ _ h => h) (Or.inl ⟨rfl, ?_⟩) ?_
      rotate_left
      · intro w'; go_simp; with_reducible rfl
      refine wpAny_take (i := 10) (v := ?_) rfl (by kernel_rfl) (by kernel_rfl) (by kernel_rfl) (fun _ _ _ h => h) (Or.inl ⟨rfl, ?_⟩) ?_
      rotate_left
      · intro w'; go_simp; with_reducible rfl
      refine wpAny_ready (rs := [11]) (by kernel_rfl) (by simp) ?_
      refine AllReady.cons rfl (fun K hK => ?_) AllReady.nil
      go_simp
      refine hK _ _ ?_
      clear hK K
      refine wpAny_ready (rs := [12]) (by kernel_rfl) (by simp) ?_
      refine AllReady.cons rfl (fun K hK => ?_) AllReady.nil
      go_simp
      refine hK _ _ ?_
      clear hK K
      refine wpAny_done (by kernel_rfl) ?_ _
      refine ⟨((KeepsOthers.setCell _ _ _).trans (KeepsOthers.setCell _ _ _)).trans (KeepsOthers.drew _), trivial, ⟨⟨⟨?_, ?_, ?_, ?_⟩, ?_⟩, ?_⟩⟩
      · exact (k1.other i _ (by omega)).other 0 _ (by omega)
      · exact (k2.other i _ (by omega)).other 0 _ (by omega)
      · have := (k3.set i (.int .u64 (addLo x (word b0 b1 b2 b3 i) (addF (word b0 b1 b2 b3) pre).2 : Nat))).other (B' := w.heap.size + 1 + 1 + 1 + 1) 0 (.int .u64 (addHi x (word b0 b1 b2 b3 i) (addF (word b0 b1 b2 b3) pre).2 : Nat)) (by omega)
        rw [ws_set _ hi] at this
        rw [addF_snoc]
        exact this
      · rw [addF_snoc]
        exact (k4.other (B' := w.heap.size + 1 + 1 + 1) i _ (by omega)).set 0 _
      · rw [addF_snoc]
        exact addHi_le hx (word_lt hb.h0 hb.h1 hb.h2 hb.h3 i) hc
      · exact ((hB.setCell (p := ⟨w.heap.size + 1 + 1 + 1, i, none⟩) (by simp; omega) _).setCell (p := ⟨w.heap.size + 1 + 1 + 1 + 1, 0, none⟩) (by simp; omega) _).drew
  case done =>
    rintro D ys W hD rfl ⟨⟨⟨k1, k2, k3, k4⟩, hc⟩, hB⟩ hK
    obtain ⟨s0, s1, s2, s3, c, hs, hcl, hw, hcc, hval⟩ := addF_sum ha hb
    rw [hw] at k3
    rw [hcc] at k4
    have c30 : W.cell? ⟨w.heap.size + 1 + 1 + 1, 0, none⟩ = some (.int .u64 (s0 : Nat)) := k3.cell 0
    have c31 : W.cell? ⟨w.heap.size + 1 + 1 + 1, 1, none⟩ = some (.int .u64 (s1 : Nat)) := k3.cell 1
    have c32 : W.cell? ⟨w.heap.size + 1 + 1 + 1, 2, none⟩ = some (.int .u64 (s2 : Nat)) := k3.cell 2
    have c33 : W.cell? ⟨w.heap.size + 1 + 1 + 1, 3, none⟩ = some (.int .u64 (s3 : Nat)) := k3.cell 3
    have c20 : W.cell? ⟨w.heap.size + 1 + 1, 0, none⟩ = some (.int .u64 ((0 : Nat) : Int)) := k2.cell 0
    have c21 : W.cell? ⟨w.heap.size + 1 + 1, 1, none⟩ = some (.int .u64 ((0 : Nat) : Int)) := k2.cell 1
    have c22 : W.cell? ⟨w.heap.size + 1 + 1, 2, none⟩ = some (.int .u64 ((0 : Nat) : Int)) := k2.cell 2
    have c23 : W.cell? ⟨w.heap.size + 1 + 1, 3, none⟩ = some (.int .u64 ((0 : Nat) : Int)) := k2.cell 3
    have f20 := k2.frozen 0
    have f21 := k2.frozen 1
    have f22 := k2.frozen 2
    have f23 := k2.frozen 3
    have c40 : W.cell? ⟨w.heap.size + 1 + 1 + 1 + 1, 0, none⟩ = some (.int .u64 (c : Nat)) := k4.cell 0
    have hcase : c = 0 ∨ c = 1 := by omega
    clear hcc hw
    rcases hcase with rfl | rfl
    · have HV := Lib.hid hval
      clear hval
      gi_wp2
      have KO : KeepsOthers W ((((W.setCell ⟨w.heap.size + 1 + 1, 0, none⟩ (.int .u64 (s0 : Nat))).setCell ⟨w.heap.size + 1 + 1, 1, none⟩ (.int .u64 (s1 : Nat))).setCell ⟨w.heap.size + 1 + 1, 2, none⟩ (.int .u64 (s2 : Nat))).setCell ⟨w.heap.size + 1 + 1, 3, none⟩ (.int .u64 (s3 : Nat))) :=
        (((KeepsOthers.setCell _ _ _).trans (KeepsOthers.setCell _ _ _)).trans (KeepsOthers.setCell _ _ _)).trans (KeepsOthers.setCell _ _ _)
      have hK' := KO.same D _ hK rfl
      have k2' := ((((k2.set 0 (.int .u64 (s0 : Nat))).set 1 (.int .u64 (s1 : Nat))).set 2 (.int .u64 (s2 : Nat))).set 3 (.int .u64 (s3 : Nat))).kept (grownBy_putObj' _ D (.deferred none)) (by intro e; cases e; omega)
      have r0 := k2'.cell 0
      have r1 := k2'.cell 1
      have r2 := k2'.cell 2
      have r3 := k2'.cell 3
      simp only [ws, List.set_cons_zero, List.set_cons_succ, List.getElem?_cons_zero, List.getElem?_cons_succ] at r0 r1 r2 r3
      have hB' := ((((hB.setCell (p := ⟨w.heap.size + 1 + 1, 0, none⟩) (by simp; omega) (.int .u64 (s0 : Nat))).setCell (p := ⟨w.heap.size + 1 + 1, 1, none⟩) (by simp; omega) (.int .u64 (s1 : Nat))).setCell (p := ⟨w.heap.size + 1 + 1, 2, none⟩) (by simp; omega) (.int .u64 (s2 : Nat))).setCell (p := ⟨w.heap.size + 1 + 1, 3, none⟩) (by simp; omega) (.int .u64 (s3 : Nat))).trans (belowK_b (w := w) (Nat.le_refl _) _ D _ (.deferred none) (by omega) hK' rfl rfl)
      refine ⟨by simp, .inl ⟨_, _, rfl, run_takeDeferred hK', ?_⟩⟩
      refine ⟨.tuple #[wv s0 s1 s2 s3, .bool true], ?_, ?_⟩
      · simp [results, Tryz.f59, go_sem, r0, r1, r2, r3]
      · have e := HV.out; exact .inl ⟨by have := val_lt hs; omega, s0, s1, s2, s3, hs, by omega, rfl, hB'⟩
    · have HV := Lib.hid hval
      clear hval
      gi_wp2
      have KO : KeepsOthers W ((((W.setCell ⟨w.heap.size + 1 + 1, 0, none⟩ (.int .u64 0)).setCell ⟨w.heap.size + 1 + 1, 1, none⟩ (.int .u64 0)).setCell ⟨w.heap.size + 1 + 1, 2, none⟩ (.int .u64 0)).setCell ⟨w.heap.size + 1 + 1, 3, none⟩ (.int .u64 0)) :=
        (((KeepsOthers.setCell _ _ _).trans (KeepsOthers.setCell _ _ _)).trans (KeepsOthers.setCell _ _ _)).trans (KeepsOthers.setCell _ _ _)
      have hK' := KO.same D _ hK rfl
      have k2' := ((((k2.set 0 (.int .u64 0)).set 1 (.int .u64 0)).set 2 (.int .u64 0)).set 3 (.int .u64 0)).kept (grownBy_putObj' _ D (.deferred none)) (by intro e; cases e; omega)
      have r0 := k2'.cell 0
      have r1 := k2'.cell 1
      have r2 := k2'.cell 2
      have r3 := k2'.cell 3
      simp only [ws, List.set_cons_zero, List.set_cons_succ, List.getElem?_cons_zero, List.getElem?_cons_succ] at r0 r1 r2 r3
      have hB' := ((((hB.setCell (p := ⟨w.heap.size + 1 + 1, 0, none⟩) (by simp; omega) (.int .u64 0)).setCell (p := ⟨w.heap.size + 1 + 1, 1, none⟩) (by simp; omega) (.int .u64 0)).setCell (p := ⟨w.heap.size + 1 + 1, 2, none⟩) (by simp; omega) (.int .u64 0)).setCell (p := ⟨w.heap.size + 1 + 1, 3, none⟩) (by simp; omega) (.int .u64 0)).trans (belowK_b (w := w) (Nat.le_refl _) _ D _ (.deferred none) (by omega) hK' rfl rfl)
      refine ⟨by simp, .inl ⟨_, _, rfl, run_takeDeferred hK', ?_⟩⟩
      refine ⟨.tuple #[wv 0 0 0 0, .bool false], ?_, ?_⟩
      · simp [results, Tryz.f59, go_sem, r0, r1, r2, r3]
      · have e := HV.out; exact .inr ⟨by omega, rfl, hB'⟩
  case stop =>
    rintro D c pre W _ _ h _
    exact h.elim
end Go.Proofs.YtfoemkmoambagaaGreat
namespace Go.Proofs.YtfoemkmoambagaaGreat
open Go.RowKit Go.Shelf
attribute [local go_sem] Oper.semAt_some
def SubW (a b : Nat) (w : World) (e : Ending) (W' : World) : Prop := (b ≤ a ∧ GotW (a - b) w e W') ∨ (a < b ∧ NoW w e W')
set_option maxRecDepth 100000 in
set_option maxHeartbeats 2000000 in
theorem sub_in (n : Nat) (hn : 3 ≤ n) {a0 a1 a2 a3 b0 b1 b2 b3 : Nat} (ha : Ok4 a0 a1 a2 a3) (hb : Ok4 b0 b1 b2 b3) (w : World) :
    CallsIn Fence.wide n Tryz.prog 77 #[wv a0 a1 a2 a3, wv b0 b1 b2 b3] w (SubW (val a0 a1 a2 a3) (val b0 b1 b2 b3) w) := by
  have h1 : 1 ≤ n := by omega
  refine callsIn_of_wp_marks Tryz.func77 rfl trivial ?_ rfl
  simp only [Tryz.ntmps77, List.size_toArray, List.length_cons, List.length_nil, Nat.reduceAdd, Nat.reduceSub, Array.replicate_succ, Array.replicate_zero, List.push_toArray, List.append_toArray, List.nil_append, List.cons_append]
  gi_wp2_with (refine ⟨trivial, ?_⟩; gi_at_call 78; refine (up_in Fence.wide (n - 1) trivial rfl _ _ _ _ _).mono ?_; rintro e w' ⟨rfl, rfl⟩)
  generalize hW5 : World.alloc _ _ = W5
  have k1 : Blk W5 (w.heap.size + 1) 28 (ws (word b0 b1 b2 b3)) := by rw [← hW5]; exact ((((Blk.new' (by simp)).alloc _).alloc _).alloc _).alloc _
  have k2 : Blk W5 (w.heap.size + 1 + 1) 28 (ws (fun _ => 0)) := by rw [← hW5]; exact (((Blk.new' (by simp)).alloc _).alloc _).alloc _
  have k3 : Blk W5 (w.heap.size + 1 + 1 + 1) 28 (ws (fun _ => 0)) := by rw [← hW5]; exact ((Blk.new' (by simp)).alloc _).alloc _
  have k4 : Blk W5 (w.heap.size + 1 + 1 + 1 + 1) 26 [.int .u64 ((0 : Nat) : Int)] := by rw [← hW5]; exact (Blk.new' (by simp)).alloc _
  have k5 : Blk W5 (w.heap.size + 1 + 1 + 1 + 1 + 1) 28 (ws (word a0 a1 a2 a3)) := by rw [← hW5]; exact Blk.new' (by simp)
  have hB0 : Below w.heap.size w W5 := by rw [← hW5]; exact ((((((Below.refl _ w).alloc (Nat.le_refl _) _).alloc (by simp) _).alloc (by simp; omega) _).alloc (by simp; omega) _).alloc (by simp; omega) _).alloc (by simp; omega) _
  have hz : W5.heap.size = w.heap.size + 6 := by rw [← hW5]; simp
  clear hW5
  refine wpIn_rangeFunc_ownF (S := fun ys => ys = ups ha) rfl h1 (gf := 102) (lb := #[.pointer (some ⟨w.heap.size + 1 + 1 + 1 + 1 + 1, 0, none⟩)]) rfl trivial (enters_of Tryz.func102 (by kernel_rfl) rfl)
    (up1_stops Fence.wide (n - 1) trivial rfl (by omega) ha (w.heap.size + 1 + 1 + 1 + 1 + 1) W5 k5.lt (k5.cell 0) (k5.cell 1) (k5.cell 2) (k5.cell 3)) (fun _ _ => trivial) (fun _ _ _ _ _ _ _ _ => trivial) (Below.refl _ _) (fun _ => rfl)
    (fun pre W => ((Blk W (w.heap.size + 1) 28 (ws (word b0 b1 b2 b3)) ∧ Blk W (w.heap.size + 1 + 1) 28 (ws (fun _ => 0)) ∧ Blk W (w.heap.size + 1 + 1 + 1) 28 (ws (subF (word b0 b1 b2 b3) pre).1) ∧ Blk W (w.heap.size + 1 + 1 + 1 + 1) 26 [.int .u64 ((subF (word b0 b1 b2 b3) pre).2 : Nat)]) ∧ (subF (word b0 b1 b2 b3) pre).2 ≤ 1) ∧ Below w.heap.size w W)
    (fun _ _ _ => False)
    (OwnFrom.and (Own.from (fun s A B row hs hg hr => ⟨⟨blk_own _ _ (fun _ => _) s A B row hs.1.1 hg hr, blk_own _ _ (fun _ => _) s A B row hs.1.2.1 hg hr, blk_own _ _ (fun pre => ws (subF (word b0 b1 b2 b3) pre).1) s A B row hs.1.2.2.1 hg hr, blk_own _ _ (fun pre => [.int .u64 ((subF (word b0 b1 b2 b3) pre).2 : Nat)]) s A B row hs.1.2.2.2 hg hr⟩, hs.2⟩) _) (ownFrom_below (Nat.le_refl _) (by omega)))
    (fun _ _ _ _ _ hs _ _ => hs)
    ⟨⟨⟨k1, k2, k3, k4⟩, Nat.zero_le _⟩, hB0⟩
    (fun x => { tmps := #[wv a0 a1 a2 a3, wv b0 b1 b2 b3, .pointer (some ⟨w.heap.size, 0, none⟩), .pointer (some ⟨w.heap.size + 1, 0, none⟩), .pointer (some ⟨w.heap.size + 1 + 1, 0, none⟩), .bool false, .pointer (some ⟨w.heap.size + 1 + 1 + 1, 0, none⟩), .pointer (some ⟨w.heap.size + 1 + 1 + 1 + 1, 0, none⟩), .int .i64 (x.1.1 : Int), .int .u64 (x.1.2 : Int), wv a0 a1 a2 a3, .func (.func 102) #[] #[.pointer (some ⟨w.heap.size + 1 + 1 + 1 + 1 + 1, 0, none⟩)], .int .i64 (x.1.1 : Int), .int .u64 (x.1.2 : Int), undef, undef, undef, undef, undef, undef, undef, undef, undef, undef, undef, undef, undef, undef, undef], defers := [] }) ?assign ?body ?done ?stop
  case assign =>
    intro l x W K hK
    gi_wp2
    exact hK
  case body =>
    rintro l pre ⟨⟨i, x⟩, hi, hx⟩ W ⟨⟨⟨k1, k2, k3, k4⟩, hc⟩, hB⟩ _
    dsimp only at hi hx
    have hi' : (i : Int) < 4 := by omega
    have cb := k1.cell i
    rw [ws_at _ hi] at cb
    have cs := k3.cell i
    rw [ws_at _ hi] at cs
    have fs := k3.frozen i
    have cc : W.cell? ⟨w.heap.size + 1 + 1 + 1 + 1, 0, none⟩ = some (.int .u64 ((subF (word b0 b1 b2 b3) pre).2 : Nat)) := k4.cell 0
    have fc := k4.frozen 0
    have hsub := fun (w : World) => run_bitsSub64 x (word b0 b1 b2 b3 i) (subF (word b0 b1 b2 b3) pre).2 hc w
    have hmx : Tryz.prog.follows .mixedOrders = true := by kernel_rfl
    gi_wp2
    refine wpIn_round_any hmx (by kernel_rfl) ?_
    refine wpAny_take (i := 0) (v := ?_) rfl (by kernel_rfl) (by kernel_rfl) (by kernel_rfl) (fun _ _ _ h => h) (Or.inl ⟨rfl, ?_⟩) ?_
    rotate_left
    · intro w'; go_simp; with_reducible rfl
    refine wpAny_take (i := 1) (v := ?_) rfl (by kernel_rfl) (by kernel_rfl) (by kernel_rfl) (fun _ _ _ h => h) (Or.inl ⟨rfl, ?_⟩) ?_
    rotate_left
    · intro w'; go_simp; with_reducible rfl
    refine wpAny_take (i := 2) (v := ?_) rfl (by kernel_rfl) (by kernel_rfl) (by kernel_rfl) (fun _ _ _ h => h) (Or.inl ⟨rfl, ?_⟩) ?_
    rotate_left
    · intro w'; go_simp; with_reducible rfl
    refine wpAny_take (i := 3) (v := ?_) rfl (by kernel_rfl) (by kernel_rfl) (by kernel_rfl) (fun _ _ _ h => h) (Or.inl ⟨rfl, ?_⟩) ?_
    rotate_left
    · intro w'; go_simp; with_reducible rfl
    refine wpAny_ready (rs := [4, 5]) (by kernel_rfl) (by simp) ?_
    refine AllReady.cons rfl (fun K hK => ?_) (AllReady.cons rfl (fun K hK => ?_) AllReady.nil)
    all_goals (go_simp; refine hK _ _ ?_; clear hK K)
    rotate_left
    refine wpAny_ready (rs := [4]) (by kernel_rfl) (by simp) ?_
    refine AllReady.cons rfl (fun K hK => ?_) AllReady.nil
    go_simp
    refine hK _ _ ?_
    clear hK K
    rotate_left
    refine wpAny_ready (rs := [5]) (by kernel_rfl) (by simp) ?_
    refine AllReady.cons rfl (fun K hK => ?_) AllReady.nil
    go_simp
    refine hK _ _ ?_
    clear hK K
    all_goals
      refine wpAny_ready (rs := [6]) (by kernel_rfl) (by simp) ?_
      refine AllReady.cons rfl (fun K hK => ?_) AllReady.nil
      go_simp
      refine hK _ _ ?_
      clear hK K
      refine wpAny_take (i := 7) (v := ?_) rfl (by kernel_rfl) (by kernel_rfl) (by kernel_rfl) (fun _ _ _ h => h) (Or.inl ⟨rfl, ?_⟩) ?_
      rotate_left
      · intro w'; go_simp; with_reducible rfl
      refine wpAny_take (i := 8) (v := ?_) rfl (by kernel_rfl) (by kernel_rfl) (by kernel_rfl) (fun _ _ _ h => h) (Or.inl ⟨rfl, ?_⟩) ?_
      rotate_left
      · intro w'; go_simp; with_reducible rfl
      refine wpAny_take (i := 9) (v := ?_) rfl (by kernel_rfl) (by kernel_rfl) (by kernel_rfl) (fun _ _ _ h => h) (Or.inl ⟨rfl, ?_⟩) ?_
      rotate_left
      · intro w'; go_simp; with_reducible rfl
      refine wpAny_take (i := 10) (v := ?_) rfl (by kernel_rfl) (by kernel_rfl) (by kernel_rfl) (fun _ _ _ h => h) (Or.inl ⟨rfl, ?_⟩) ?_
      rotate_left
      · intro w'; go_simp; with_reducible rfl
      refine wpAny_ready (rs := [11]) (by kernel_rfl) (by simp) ?_
      refine AllReady.cons rfl (fun K hK => ?_) AllReady.nil
      go_simp
      refine hK _ _ ?_
      clear hK K
      refine wpAny_ready (rs := [12]) (by kernel_rfl) (by simp) ?_
      refine AllReady.cons rfl (fun K hK => ?_) AllReady.nil
      go_simp
      refine hK _ _ ?_
      clear hK K
      refine wpAny_done (by kernel_rfl) ?_ _
      refine ⟨((KeepsOthers.setCell _ _ _).trans (KeepsOthers.setCell _ _ _)).trans (KeepsOthers.drew _), trivial, ⟨⟨⟨?_, ?_, ?_, ?_⟩, ?_⟩, ?_⟩⟩
      · exact (k1.other i _ (by omega)).other 0 _ (by omega)
      · exact (k2.other i _ (by omega)).other 0 _ (by omega)
      · have := (k3.set i (.int .u64 (subLo x (word b0 b1 b2 b3 i) (subF (word b0 b1 b2 b3) pre).2 : Nat))).other (B' := w.heap.size + 1 + 1 + 1 + 1) 0 (.int .u64 (subHi x (word b0 b1 b2 b3 i) (subF (word b0 b1 b2 b3) pre).2 : Nat)) (by omega)
        rw [ws_set _ hi] at this
        rw [subF_snoc]
        exact this
      · rw [subF_snoc]
        exact (k4.other (B' := w.heap.size + 1 + 1 + 1) i _ (by omega)).set 0 _
      · rw [subF_snoc]
        exact subHi_le _ _ _
      · exact ((hB.setCell (p := ⟨w.heap.size + 1 + 1 + 1, i, none⟩) (by simp; omega) _).setCell (p := ⟨w.heap.size + 1 + 1 + 1 + 1, 0, none⟩) (by simp; omega) _).drew
  case done =>
    rintro D ys W hD rfl ⟨⟨⟨k1, k2, k3, k4⟩, hc⟩, hB⟩ hK
    obtain ⟨s0, s1, s2, s3, c, hs, hcl, hw, hcc, hval⟩ := subF_diff ha hb
    rw [hw] at k3
    rw [hcc] at k4
    have c30 : W.cell? ⟨w.heap.size + 1 + 1 + 1, 0, none⟩ = some (.int .u64 (s0 : Nat)) := k3.cell 0
    have c31 : W.cell? ⟨w.heap.size + 1 + 1 + 1, 1, none⟩ = some (.int .u64 (s1 : Nat)) := k3.cell 1
    have c32 : W.cell? ⟨w.heap.size + 1 + 1 + 1, 2, none⟩ = some (.int .u64 (s2 : Nat)) := k3.cell 2
    have c33 : W.cell? ⟨w.heap.size + 1 + 1 + 1, 3, none⟩ = some (.int .u64 (s3 : Nat)) := k3.cell 3
    have c20 : W.cell? ⟨w.heap.size + 1 + 1, 0, none⟩ = some (.int .u64 ((0 : Nat) : Int)) := k2.cell 0
    have c21 : W.cell? ⟨w.heap.size + 1 + 1, 1, none⟩ = some (.int .u64 ((0 : Nat) : Int)) := k2.cell 1
    have c22 : W.cell? ⟨w.heap.size + 1 + 1, 2, none⟩ = some (.int .u64 ((0 : Nat) : Int)) := k2.cell 2
    have c23 : W.cell? ⟨w.heap.size + 1 + 1, 3, none⟩ = some (.int .u64 ((0 : Nat) : Int)) := k2.cell 3
    have f20 := k2.frozen 0
    have f21 := k2.frozen 1
    have f22 := k2.frozen 2
    have f23 := k2.frozen 3
    have c40 : W.cell? ⟨w.heap.size + 1 + 1 + 1 + 1, 0, none⟩ = some (.int .u64 (c : Nat)) := k4.cell 0
    have hcase : c = 0 ∨ c = 1 := by omega
    clear hcc hw
    rcases hcase with rfl | rfl
    · have HV := Lib.hid hval
      clear hval
      gi_wp2
      have KO : KeepsOthers W ((((W.setCell ⟨w.heap.size + 1 + 1, 0, none⟩ (.int .u64 (s0 : Nat))).setCell ⟨w.heap.size + 1 + 1, 1, none⟩ (.int .u64 (s1 : Nat))).setCell ⟨w.heap.size + 1 + 1, 2, none⟩ (.int .u64 (s2 : Nat))).setCell ⟨w.heap.size + 1 + 1, 3, none⟩ (.int .u64 (s3 : Nat))) :=
        (((KeepsOthers.setCell _ _ _).trans (KeepsOthers.setCell _ _ _)).trans (KeepsOthers.setCell _ _ _)).trans (KeepsOthers.setCell _ _ _)
      have hK' := KO.same D _ hK rfl
      have k2' := ((((k2.set 0 (.int .u64 (s0 : Nat))).set 1 (.int .u64 (s1 : Nat))).set 2 (.int .u64 (s2 : Nat))).set 3 (.int .u64 (s3 : Nat))).kept (grownBy_putObj' _ D (.deferred none)) (by intro e; cases e; omega)
      have r0 := k2'.cell 0
      have r1 := k2'.cell 1
      have r2 := k2'.cell 2
      have r3 := k2'.cell 3
      simp only [ws, List.set_cons_zero, List.set_cons_succ, List.getElem?_cons_zero, List.getElem?_cons_succ] at r0 r1 r2 r3
      have hB' := ((((hB.setCell (p := ⟨w.heap.size + 1 + 1, 0, none⟩) (by simp; omega) (.int .u64 (s0 : Nat))).setCell (p := ⟨w.heap.size + 1 + 1, 1, none⟩) (by simp; omega) (.int .u64 (s1 : Nat))).setCell (p := ⟨w.heap.size + 1 + 1, 2, none⟩) (by simp; omega) (.int .u64 (s2 : Nat))).setCell (p := ⟨w.heap.size + 1 + 1, 3, none⟩) (by simp; omega) (.int .u64 (s3 : Nat))).trans (belowK_b (w := w) (Nat.le_refl _) _ D _ (.deferred none) (by omega) hK' rfl rfl)
      refine ⟨by simp, .inl ⟨_, _, rfl, run_takeDeferred hK', ?_⟩⟩
      refine ⟨.tuple #[wv s0 s1 s2 s3, .bool true], ?_, ?_⟩
      · simp [results, Tryz.f77, go_sem, r0, r1, r2, r3]
      · have e := HV.out; exact .inl ⟨by omega, s0, s1, s2, s3, hs, by omega, rfl, hB'⟩
    · have HV := Lib.hid hval
      clear hval
      gi_wp2
      have KO : KeepsOthers W ((((W.setCell ⟨w.heap.size + 1 + 1, 0, none⟩ (.int .u64 0)).setCell ⟨w.heap.size + 1 + 1, 1, none⟩ (.int .u64 0)).setCell ⟨w.heap.size + 1 + 1, 2, none⟩ (.int .u64 0)).setCell ⟨w.heap.size + 1 + 1, 3, none⟩ (.int .u64 0)) :=
        (((KeepsOthers.setCell _ _ _).trans (KeepsOthers.setCell _ _ _)).trans (KeepsOthers.setCell _ _ _)).trans (KeepsOthers.setCell _ _ _)
      have hK' := KO.same D _ hK rfl
      have k2' := ((((k2.set 0 (.int .u64 0)).set 1 (.int .u64 0)).set 2 (.int .u64 0)).set 3 (.int .u64 0)).kept (grownBy_putObj' _ D (.deferred none)) (by intro e; cases e; omega)
      have r0 := k2'.cell 0
      have r1 := k2'.cell 1
      have r2 := k2'.cell 2
      have r3 := k2'.cell 3
      simp only [ws, List.set_cons_zero, List.set_cons_succ, List.getElem?_cons_zero, List.getElem?_cons_succ] at r0 r1 r2 r3
      have hB' := ((((hB.setCell (p := ⟨w.heap.size + 1 + 1, 0, none⟩) (by simp; omega) (.int .u64 0)).setCell (p := ⟨w.heap.size + 1 + 1, 1, none⟩) (by simp; omega) (.int .u64 0)).setCell (p := ⟨w.heap.size + 1 + 1, 2, none⟩) (by simp; omega) (.int .u64 0)).setCell (p := ⟨w.heap.size + 1 + 1, 3, none⟩) (by simp; omega) (.int .u64 0)).trans (belowK_b (w := w) (Nat.le_refl _) _ D _ (.deferred none) (by omega) hK' rfl rfl)
      refine ⟨by simp, .inl ⟨_, _, rfl, run_takeDeferred hK', ?_⟩⟩
      refine ⟨.tuple #[wv 0 0 0 0, .bool false], ?_, ?_⟩
      · simp [results, Tryz.f77, go_sem, r0, r1, r2, r3]
      · have e := HV.out; exact .inr ⟨by have := val_lt hs; omega, rfl, hB'⟩
  case stop =>
    rintro D c pre W _ _ h _
    exact h.elim
end Go.Proofs.YtfoemkmoambagaaGreat
namespace Go.Proofs.YtfoemkmoambagaaGreat
open Go.RowKit Go.Shelf
set_option maxHeartbeats 1000000 in
theorem of_any (z : Int) (n : Nat) (h : z = n) (w : World) : Calls Tryz.prog 53 #[.int .u64 z] w fun e W' => e = .returned (wv n 0 0 0) ∧ Below w.heap.size w W' := by
  subst h
  go_enter Tryz.func53, Tryz.ntmps53
  go_wp2
  exact bodyPost_ret (v := wv n 0 0 0) (by simp [results, Tryz.f53, go_sem]) rfl ⟨rfl, (Below.refl _ _).alloc (Nat.le_refl _) _⟩
theorem add_any {a0 a1 a2 a3 b0 b1 b2 b3 : Nat} (ha : Ok4 a0 a1 a2 a3) (hb : Ok4 b0 b1 b2 b3) (w : World) :
    Calls Tryz.prog 59 #[wv a0 a1 a2 a3, wv b0 b1 b2 b3] w (AddW (val a0 a1 a2 a3 + val b0 b1 b2 b3) w) := callsIn_wide.1 (add_in 3 (by omega) ha hb w)
theorem sub_any {a0 a1 a2 a3 b0 b1 b2 b3 : Nat} (ha : Ok4 a0 a1 a2 a3) (hb : Ok4 b0 b1 b2 b3) (w : World) :
    Calls Tryz.prog 77 #[wv a0 a1 a2 a3, wv b0 b1 b2 b3] w (SubW (val a0 a1 a2 a3) (val b0 b1 b2 b3) w) := callsIn_wide.1 (sub_in 3 (by omega) ha hb w)
theorem Ok4.one {n : Nat} (h : n < M) : Ok4 n 0 0 0 := ⟨h, M_pos, M_pos, M_pos⟩
end Go.Proofs.YtfoemkmoambagaaGreat
namespace Go.Proofs.YtfoemkmoambagaaGreat
open Go.RowKit
def OR (W : World) (base : Nat) (v : Value) (n : Nat) (f : Nat → Nat) : Prop := W.ownsRow base 3 1 v n ((List.range n).map fun k => Value.int .i64 (f k : Nat))
theorem OR.nil (W : World) (base : Nat) (f : Nat → Nat) : OR W base (.slice none 0 0) 0 f := ⟨rfl, .inl ⟨rfl, rfl⟩⟩
theorem OR.out {W : World} {base : Nat} {v : Value} {n : Nat} {f : Nat → Nat} (h : OR W base v n f) : W.ownsRow base 3 1 v n ((List.range n).map fun k => Value.int .i64 (f k : Nat)) := h
theorem OR.step {W : World} {base : Nat} {v : Value} {n : Nat} {f : Nat → Nat} {x : Int} (h : W.ownsRow base 3 1 v (n + 1) (((List.range n).map fun k => Value.int .i64 (f k : Nat)) ++ [.int .i64 x])) (hx : x = (f n : Nat)) : OR W base v (n + 1) f := by
  unfold OR
  rw [List.range_succ, List.map_append]
  rw [hx] at h
  exact h
theorem OR.alloc {W : World} {base : Nat} {v : Value} {n : Nat} {f : Nat → Nat} (h : OR W base v n f) (o : Obj) : OR (W.alloc o) base v n f := World.ownsRow.alloc h o
theorem OR.grown {W w1 : World} {base n : Nat} {u v' : Value} {f : Nat → Nat} {o : Obj} {x : Int} (hown : OR W base u n f) (hsz : base ≤ W.heap.size)
    (hown' : w1.ownsRow base 3 1 v' (n + 1) (((List.range n).map fun k => Value.int .i64 (f k : Nat)) ++ [.int .i64 x])) (hg : (W.alloc o).grownBy w1 u.ownBlock) (hx : x = (f n : Nat)) :
    OR w1 base v' (n + 1) f ∧ base ≤ w1.heap.size ∧ Below base W w1 := by
  have hb : Below base W w1 := ((Below.refl base W).alloc hsz o).grown hg (by simp; omega) (fun j hj => (World.ownsRow.lt hown.out j hj).1)
  exact ⟨OR.step hown' hx, Nat.le_trans hsz hb.size, hb⟩
def Nums (W : World) (g n : Nat) (f : Nat → Nat) : Prop := ∀ k, k < n → W.cell? ⟨g, k, none⟩ = some (.int .i64 (f k : Nat))
theorem Nums.below {W W' : World} {m g n : Nat} {f : Nat → Nat} (h : Nums W g n f) (hb : Below m W W') (hg : g < m) : Nums W' g n f := fun k hk => (hb.cell (p := ⟨g, k, none⟩) hg).trans (h k hk)
def sh (x : Nat) : Nat → Nat
  | 0 => x
  | t + 1 => sh x t / 65536
def dg (a0 a1 a2 a3 n : Nat) : Nat := sh (word a0 a1 a2 a3 (n / 4)) (n % 4) % 65536
def ds (f : Nat → Nat) (n : Nat) : List Value := (List.range n).map fun k => .int .i64 (f k : Nat)
end Go.Proofs.YtfoemkmoambagaaGreat
namespace Go.Proofs.YtfoemkmoambagaaGreat
open Go.RowKit Go.Shelf
def addN (x y : Nat) : Nat := if x + y < M4 then x + y else 0
def fitB (x y : Nat) : Bool := decide (x + y < M4)
def lessB (x y : Nat) : Bool := decide (y ≤ x)
theorem wn_zero : wn 0 = wv 0 0 0 0 := by show wv (nw 0 0) (nw 0 1) (nw 0 2) (nw 0 3) = _; rw [nw_zero, nw_zero, nw_zero, nw_zero]
def RetN (n : Nat) (b : Bool) (w : World) (e : Ending) (W' : World) : Prop := e = .returned (.tuple #[wn n, .bool b]) ∧ Below w.heap.size w W'
theorem retN_of_add {x y : Nat} {w : World} {e : Ending} {W' : World} (h : AddW (x + y) w e W') : RetN (addN x y) (fitB x y) w e W' := by
  rcases h with ⟨hl, s0, s1, s2, s3, hs, hv, rfl, hb⟩ | ⟨hg, rfl, hb⟩
  · refine ⟨?_, hb⟩
    rw [wn_of hs hv, show addN x y = x + y from if_pos hl, show fitB x y = true from decide_eq_true hl]
  · refine ⟨?_, hb⟩
    rw [show addN x y = 0 from if_neg (by omega), show fitB x y = false from decide_eq_false (by omega), wn_zero]
theorem retN_of_sub {x y : Nat} {w : World} {e : Ending} {W' : World} (h : SubW x y w e W') : RetN (x - y) (lessB x y) w e W' := by
  rcases h with ⟨hl, s0, s1, s2, s3, hs, hv, rfl, hb⟩ | ⟨hg, rfl, hb⟩
  · refine ⟨?_, hb⟩
    rw [wn_of hs hv, show lessB x y = true from decide_eq_true hl]
  · refine ⟨?_, hb⟩
    rw [show x - y = 0 by omega, show lessB x y = false from decide_eq_false (by omega), wn_zero]
theorem addN_any {x y : Nat} (hx : x < M4) (hy : y < M4) (w : World) :
    Calls Tryz.prog 59 #[wn x, wn y] w (RetN (addN x y) (fitB x y) w) :=
  (add_any (nw_ok x) (nw_ok y) w).mono fun _ _ h => retN_of_add (by rw [nw_val hx, nw_val hy] at h; exact h)
theorem subN_any {x y : Nat} (hx : x < M4) (hy : y < M4) (w : World) :
    Calls Tryz.prog 77 #[wn x, wn y] w (RetN (x - y) (lessB x y) w) :=
  (sub_any (nw_ok x) (nw_ok y) w).mono fun _ _ h => retN_of_sub (by rw [nw_val hx, nw_val hy] at h; exact h)
theorem ofN_any (n : Nat) (h : n < M) (w : World) : Calls Tryz.prog 53 #[.int .u64 (n : Int)] w fun e W' => e = .returned (wn n) ∧ Below w.heap.size w W' :=
  (of_any (n : Int) n rfl w).mono fun _ _ ⟨he, hb⟩ => ⟨by rw [he]; obtain ⟨a, b, c, d⟩ := nw_word h; show _ = Ending.returned (wv (nw n 0) (nw n 1) (nw n 2) (nw n 3)); rw [a, b, c, d], hb⟩
def NewN (X : World) (n : Nat) (p : Value) (W : World) : Prop := ∃ B, p = .pointer (some ⟨B, 0, none⟩) ∧ Blk W B 28 (ws (nw n)) ∧ X.heap.size ≤ B ∧ Below X.heap.size X W
theorem res_book {fn : Func} {p q : Tmp} (h : fn.results = #[.cell p 31, .tmp q]) (tmps : Array Value) {w : World} {g : Nat} {T : TypeId} {b : Bk} {v : Value} (hp : tmps.getD p undef = .pointer (some ⟨g, 0, none⟩)) (hq : tmps.getD q undef = v) (hg : Blk w g T (bkc b)) :
    (results fn tmps).run Tryz.prog w = .ok (.tuple #[bkv b, v]) w := by
  have hp' : tmps[p]?.getD undef = .pointer (some ⟨g, 0, none⟩) := by simpa using hp
  have hq' : tmps[q]?.getD undef = v := by simpa using hq
  simp [results, h, hp', hq', asAddr, run_loadVar_row w g T 31 (bkc b).toArray (0, 0) _ hg Tryz.underlying31 rfl (by rw [bkc_size]; exact info_book)]
theorem res_bk {fn : Func} {p : Tmp} (h : fn.results = #[.cell p 31]) (tmps : Array Value) {w : World} {g : Nat} {T : TypeId} {b : Bk} (hp : tmps.getD p undef = .pointer (some ⟨g, 0, none⟩)) (hg : Blk w g T (bkc b)) :
    (results fn tmps).run Tryz.prog w = .ok (bkv b) w :=
  results_cell_row h tmps w g T (bkc b).toArray (0, 0) _ hp hg Tryz.underlying31 rfl (by rw [bkc_size]; exact info_book)
end Go.Proofs.YtfoemkmoambagaaGreat
namespace Go.Proofs.YtfoemkmoambagaaGreat
open Go.RowKit Go.Shelf
def assetB (s : Int) : Bool := decide (0 ≤ s ∧ s < 2)
def placeB (a s : Int) : Bool := decide (atS a s)
theorem isAsset_any (s : Int) (w : World) :
    Calls Tryz.prog 100 #[.int .i64 s] w fun e W' => e = .returned (.bool (assetB s)) ∧ w = W' := by
  by_cases h1 : 0 ≤ s
  · by_cases h2 : s < 2
    · rw [show assetB s = true from decide_eq_true ⟨h1, h2⟩]
      go_enter Tryz.func100, Tryz.ntmps100
      go_wp2
      go_ret
      exact ⟨rfl, rfl⟩
    · rw [show assetB s = false from decide_eq_false (by omega)]
      go_enter Tryz.func100, Tryz.ntmps100
      go_wp2
      go_ret
      exact ⟨rfl, rfl⟩
  · rw [show assetB s = false from decide_eq_false (by omega)]
    go_enter Tryz.func100, Tryz.ntmps100
    go_wp2
    go_ret
    exact ⟨rfl, rfl⟩
theorem isPlace_any (a s : Int) (w : World) :
    Calls Tryz.prog 76 #[.int .i64 a, .int .i64 s] w fun e W' => e = .returned (.bool (placeB a s)) ∧ w = W' := by
  by_cases h1 : 0 ≤ a
  · by_cases h2 : a < 8
    · have hp : placeB a s = assetB s := by unfold placeB assetB atS; simp [h1, h2]
      rw [hp]
      clear hp
      go_enter Tryz.func76, Tryz.ntmps76
      go_wp2_with (go_at_call 100; refine (isAsset_any _ _).mono ?_; rintro e w1 ⟨rfl, rfl⟩)
      go_ret
      exact ⟨rfl, rfl⟩
    · rw [show placeB a s = false from decide_eq_false (by unfold atS; omega)]
      go_enter Tryz.func76, Tryz.ntmps76
      go_wp2
      go_ret
      exact ⟨rfl, rfl⟩
  · rw [show placeB a s = false from decide_eq_false (by unfold atS; omega)]
    go_enter Tryz.func76, Tryz.ntmps76
    go_wp2
    go_ret
    exact ⟨rfl, rfl⟩
end Go.Proofs.YtfoemkmoambagaaGreat
namespace Go.Proofs.YtfoemkmoambagaaGreat
open Go.RowKit Go.Shelf
attribute [local go_sem] Oper.semAt_some
abbrev WdW := { p : Nat × Nat × Nat × Nat // Ok4 p.1 p.2.1 p.2.2.1 p.2.2.2 }
def Wides (W : World) (b off : Nat) (l : List WdW) : Prop := ∀ k x, l[k]? = some x →
  W.cell? ⟨b, off + k * 4, none⟩ = some (.int .u64 (x.1.1 : Nat)) ∧ W.cell? ⟨b, off + k * 4 + 1, none⟩ = some (.int .u64 (x.1.2.1 : Nat)) ∧
  W.cell? ⟨b, off + k * 4 + 2, none⟩ = some (.int .u64 (x.1.2.2.1 : Nat)) ∧ W.cell? ⟨b, off + k * 4 + 3, none⟩ = some (.int .u64 (x.1.2.2.2 : Nat))
theorem Wides.below {W W' : World} {n b off : Nat} {l : List WdW} (h : Wides W b off l) (hb : Below n W W') (hlt : b < n) : Wides W' b off l := fun k x hx => by
  obtain ⟨h0, h1, h2, h3⟩ := h k x hx
  exact ⟨(hb.cell (p := ⟨b, _, none⟩) hlt).trans h0, (hb.cell (p := ⟨b, _, none⟩) hlt).trans h1, (hb.cell (p := ⟨b, _, none⟩) hlt).trans h2, (hb.cell (p := ⟨b, _, none⟩) hlt).trans h3⟩
def WSl (n₀ : Nat) (W : World) (sv : Value) (zs : List WdW) : Prop :=
  ∃ a cap, sv = .slice a zs.length cap ∧ (zs = [] ∨ ∃ b off, a = some ⟨b, off, none⟩ ∧ b < n₀ ∧ Wides W b off zs)
theorem WSl.below {n₀ m : Nat} {A B : World} {sv : Value} {zs : List WdW} (h : WSl n₀ A sv zs) (hb : Below m A B) (hm : n₀ ≤ m) : WSl n₀ B sv zs := by
  obtain ⟨a, cap, e, h0 | ⟨b, off, ha, hlt, hw⟩⟩ := h
  · exact ⟨a, cap, e, .inl h0⟩
  · exact ⟨a, cap, e, .inr ⟨b, off, ha, hlt, hw.below hb (by omega)⟩⟩
end Go.Proofs.YtfoemkmoambagaaGreat
namespace Go.Proofs.YtfoemkmoambagaaGreat
open Go.RowKit Go.Shelf
theorem wpList_storeN {ops : Array Oper} {rest : List Oper} {o : Oper} {a : Act} {W : World} {c : Array Value} {Q : Exit → Act → World → Prop} {T : TypeId} (ty : TypeId) (x y : Operand) (v : Value) (ns : List Value) (hv : v.cells.toList = ns) (hc : c.size = ns.length) (hi : (Tryz.prog.info? ty).map (·.size) = some ns.length) (h1 : ns.all (·.oneCell') = true)
    (ho : o.op = .store ty x y) (hd : o.dst = none) (hgd : o.guard = none) (hx : a.eval x = .pointer (some ⟨W.heap.size, 0, none⟩)) (hy : a.eval y = v)
    (h : wpList Tryz.prog ops Q rest a (W.alloc (.cells ns.toArray T))) : wpList Tryz.prog ops Q (o :: rest) a (W.alloc (.cells c T)) := by
  have hB : Blk (W.alloc (.cells c T)) W.heap.size T c.toList := Blk.new W T c.toList
  refine wpList_store_part ty x y ns hB 0 v ns ho hd hgd hx hy hv hi (by simp [hc]) h1 ?_ ?_
  · unfold laid
    rw [List.take_zero, List.nil_append, List.drop_of_length_le (by simp [hc]), List.append_nil]
  · rw [World.setRow_alloc_new]
    exact h
theorem rowB_one (b : Bk) (s n : Nat) : (rowB b s n).all (·.oneCell') = true := by
  induction n generalizing s with
  | zero => rfl
  | succ n ih => rw [rowB, List.all_append, ih]; rfl
theorem idx_row (b : Bk) (w : World) {k : Nat} (hk : k < 8) :
    (Instr.index 31 (bkv b) (.int .i64 k)).run Tryz.prog w = .ok (.agg (rowB b (2 * k) 2).toArray) w := by
  have hs : (sizeOf 29).run Tryz.prog w = .ok 8 w := by kernel_rfl
  have h1 : (0 : Int) ≤ (k : Int) ∧ (k : Int) < 8 := ⟨by omega, by omega⟩
  have e : ((bkc b).drop (k * 8)).take 8 = rowB b (2 * k) 2 := by
    rw [show k * 8 = 8 * k by omega, bkc_row b hk, rowB, rowB, rowB, List.append_nil]
  have e2 : List.take 8 (List.drop (k * 8) (bkc b)) = rowB b (2 * k) 2 := e
  simp [Instr.index, run_underlying Tryz.underlying31, asIntOf, h1, hs, go_sem]
  rw [if_pos hk, e2]
end Go.Proofs.YtfoemkmoambagaaGreat
namespace Go.Proofs.YtfoemkmoambagaaGreat
open Go.RowKit Go.Shelf
theorem info_st : (Tryz.prog.info? 35).map (·.size) = some 151 := by kernel_rfl
section
variable {W : World} {B : Nat} {T : TypeId} {s : Es} {v : Value}
theorem ld_st (h : Blk W B T (stc s v)) : (Instr.loadAt 35 (.pointer (some ⟨B, 0, none⟩))).run Tryz.prog W = .ok (stv s v) W :=
  load_part h 0 (stc s v) (by rw [stc_len]; exact st_all s v) _ _ Tryz.underlying35 rfl (by rw [stc_len]; exact info_st)
theorem ld_pu (h : Blk W B T (stc s v)) : (Instr.loadAt 31 (.pointer (some ⟨B, 2, none⟩))).run Tryz.prog W = .ok (bkv s.pu) W :=
  load_part h 2 (bkc s.pu) (by rw [bkc_len]; exact st_pu s v) _ _ Tryz.underlying31 rfl (by rw [bkc_len]; exact info_book)
theorem ld_va (h : Blk W B T (stc s v)) : (Instr.loadAt 31 (.pointer (some ⟨B, 66, none⟩))).run Tryz.prog W = .ok (bkv s.va) W :=
  load_part h 66 (bkc s.va) (by rw [bkc_len]; exact st_va s v) _ _ Tryz.underlying31 rfl (by rw [bkc_len]; exact info_book)
theorem ld_he (h : Blk W B T (stc s v)) {a o : Nat} (ha : a < 2) (ho : o = 138 + 4 * a) : (Instr.loadAt 28 (.pointer (some ⟨B, o, none⟩))).run Tryz.prog W = .ok (wn (s.he a)) W := by
  subst ho
  exact load_part h (138 + 4 * a) (ws (nw (s.he a))) (by rw [ws_len]; exact st_heS s v ha) _ _ Tryz.underlying28 rfl (by rw [ws_len]; exact info_wide)
theorem ld_bu (h : Blk W B T (stc s v)) : (Instr.loadAt 28 (.pointer (some ⟨B, 146, none⟩))).run Tryz.prog W = .ok (wn s.bu) W :=
  load_part h 146 (ws (nw s.bu)) (by rw [ws_len]; exact st_bu s v) _ _ Tryz.underlying28 rfl (by rw [ws_len]; exact info_wide)
theorem ld_lk (h : Blk W B T (stc s v)) : (Instr.loadAt 33 (.pointer (some ⟨B, 150, none⟩))).run Tryz.prog W = .ok v W := ld_any _ _ Tryz.underlying33 rfl h 150 (st_lk s v)
end
theorem set_heO (s : Es) (v : Value) (n : Nat) {a o : Nat} (ha : a < 2) (ho : o = 138 + 4 * a) : laid (stc s v) o (ws (nw n)) = stc { s with he := updB s.he a n } v := by subst ho; exact set_heS s v n ha
def Pan (c : Int) (e : Ending) : Prop := e = .panicked [{ v := .iface 103 (.int .i64 c), recovered := false }]
theorem demand_yes (c : Int) (w : World) : Calls Tryz.prog 57 #[.bool true, .int .i64 c] w fun e W' => e = .returned (.tuple #[]) ∧ W' = w := by
  go_enter Tryz.func57, Tryz.ntmps57
  go_wp2
  go_end0
  exact ⟨rfl, rfl⟩
theorem demand_no (c : Int) (w : World) : Calls Tryz.prog 57 #[.bool false, .int .i64 c] w fun e W' => Pan c e ∧ W' = w := by
  go_enter Tryz.func57, Tryz.ntmps57
  go_wp2
  exact ⟨rfl, rfl, rfl⟩
def MustB (b : Bk) (c : Int) (w : World) (e : Ending) (W' : World) : Prop := ((c = 0 ∧ e = .returned (bkv b)) ∨ (c ≠ 0 ∧ Pan c e)) ∧ Below w.heap.size w W'
theorem must_any (b : Bk) (c : Int) (w : World) : Calls Tryz.prog 60 #[bkv b, .int .i64 c] w (MustB b c w) := by
  have hM := ((Mem.start w).alloc 31 (bkc b)).allocN (n := w.heap.size + 1) (by simp) 31 (bkc noK)
  rw [bkc_no] at hM
  by_cases h : c = 0
  · subst h
    go_enter Tryz.func60, Tryz.ntmps60
    go_wp2_with (first
      | (go_at_call 57; refine (demand_yes _ _).mono ?_; rintro e w1 ⟨rfl, rfl⟩)
      | ((with_reducible refine wpList_loadIf 31 (.tmp 2) ?_ (some 9) ?_ ?_ (bkv b) ?_ ?_); (· rfl); (· rfl); (· rfl); (· exact load_book (hM.at 1 rfl)))
      | ((refine wpList_store_book (.tmp 4) (.tmp 9) (hM.at 0 rfl) (by simp) b ?_ ?_ ?_ ?_ ?_ ?_); (· rfl); (· rfl); (· rfl); (· rfl); (· rfl)))
    replace hM := hM.set 0 (cs' := bkc b) rfl rfl
    refine bodyPost_ret (v := bkv b) (res_bk rfl _ rfl (hM.at 0 rfl)) rfl ?_
    exact ⟨.inl ⟨rfl, rfl⟩, hM.b⟩
  · have q : (c == 0) = false := by simpa using h
    go_enter Tryz.func60, Tryz.ntmps60
    go_wp2_with (go_at_call 57; refine (demand_no _ _).mono ?_; rintro e w1 ⟨rfl, rfl⟩)
    exact ⟨rfl, .inr ⟨h, rfl⟩, hM.b⟩
end Go.Proofs.YtfoemkmoambagaaGreat
namespace Go.Proofs.YtfoemkmoambagaaGreat
inductive Tk where
  | val (i : Nat) (d : Option Tmp) (v : Value)
  | load (i : Nat) (d : Option Tmp) (ty : TypeId) (p v : Value)
  | alt (i : Nat) (d : Option Tmp) (v u : Value)
  | skip (i : Nat) (d : Option Tmp)
  | idx (i : Nat) (d : Option Tmp) (ty : TypeId) (p x v : Value)
  | slc (i : Nat) (d : Option Tmp) (ty : TypeId) (x : Value) (lo hi mx : Option Value) (v : Value)
def Tk.place : Tk → Nat
  | .val i _ _ => i
  | .load i _ _ _ _ => i
  | .alt i _ _ _ => i
  | .skip i _ => i
  | .idx i _ _ _ _ _ => i
  | .slc i _ _ _ _ _ _ _ => i
def Tk.put (a : Act) : Tk → Act
  | .val _ d v => a.put d v
  | .load _ d _ _ v => a.put d v
  | .alt _ d _ u => a.put d u
  | .skip _ d => a.put d undef
  | .idx _ d _ _ _ v => a.put d v
  | .slc _ d _ _ _ _ _ v => a.put d v
def puts : List Tk → Act → Act
  | [], a => a
  | t :: L, a => puts L (t.put a)
inductive See where
  | run (b : Bool) (d : Option Tmp) (r : Result Next)
  | got (b : Bool) (d : Option Tmp) (t : Option (TypeId × Value))
  | no (b : Bool) (d : Option Tmp)
  | at (b : Bool) (d : Option Tmp) (t : Option (TypeId × Value × Value))
  | sl (b : Bool) (d : Option Tmp) (t : Option (TypeId × Value × Option Value × Option Value × Option Value))
def seeOp (P : Program) (ops : Array Oper) (w : World) (a : Act) (o : Oper) : Tk → See
  | .val _ _ _ => .run (Region.wanted o (yielded ops a.tmps)) o.dst ((execOp a.eval o).run P w)
  | .load _ _ _ _ _ => .got (Region.wanted o (yielded ops a.tmps)) o.dst (match o.op with | .load ty x => some (ty, a.eval x) | _ => none)
  | .alt _ _ _ _ => .run (Region.wanted o (yielded ops a.tmps)) o.dst ((execOp a.eval o).run P w)
  | .skip _ _ => .no (Region.wanted o (yielded ops a.tmps)) o.dst
  | .idx _ _ _ _ _ _ => .at (Region.wanted o (yielded ops a.tmps)) o.dst (match o.op with | .indexAddr ty x y => some (ty, a.eval x, a.eval y) | _ => none)
  | .slc _ _ _ _ _ _ _ _ => .sl (Region.wanted o (yielded ops a.tmps)) o.dst (match o.op with | .slice ty x lo hi mx => some (ty, a.eval x, lo.map a.eval, hi.map a.eval, mx.map a.eval) | _ => none)
def wantOp (w : World) : Tk → See
  | .val _ d v => .run true d (.ok (.value v) w)
  | .load _ d ty p _ => .got true d (some (ty, p))
  | .alt _ d v _ => .run true d (.ok (.value v) w)
  | .skip _ d => .no false d
  | .idx _ d ty p x _ => .at true d (some (ty, p, x))
  | .slc _ d ty x lo hi mx _ => .sl true d (some (ty, x, lo, hi, mx))
def sees (P : Program) (ops : Array Oper) (w : World) : List Tk → Act → List (Option See)
  | [], _ => []
  | t :: L, a => (ops[t.place]?).map (fun o => seeOp P ops w a o t) :: sees P ops w L (t.put a)
def wants (w : World) (L : List Tk) : List (Option See) := L.map fun t => some (wantOp w t)
def Facts (P : Program) (S : World → Prop) : List Tk → Prop
  | [] => True
  | .load _ _ ty p v :: L => (∀ w, S w → (Instr.loadAt ty p).run P w = .ok v w) ∧ Facts P S L
  | .alt _ _ v u :: L => v = u ∧ Facts P S L
  | .idx _ _ ty p x v :: L => (∀ w, S w → (Instr.indexAt ty p x).run P w = .ok v w) ∧ Facts P S L
  | .slc _ _ ty x lo hi mx v :: L => (∀ w, S w → (Instr.sliceAt ty x lo hi mx).run P w = .ok v w) ∧ Facts P S L
  | .val _ _ _ :: L => Facts P S L
  | .skip _ _ :: L => Facts P S L
def FactsAt (P : Program) (w : World) : List Tk → Prop
  | [] => True
  | .load _ _ ty p v :: L => (Instr.loadAt ty p).run P w = .ok v w ∧ FactsAt P w L
  | .alt _ _ v u :: L => v = u ∧ FactsAt P w L
  | .idx _ _ ty p x v :: L => (Instr.indexAt ty p x).run P w = .ok v w ∧ FactsAt P w L
  | .slc _ _ ty x lo hi mx v :: L => (Instr.sliceAt ty x lo hi mx).run P w = .ok v w ∧ FactsAt P w L
  | .val _ _ _ :: L => FactsAt P w L
  | .skip _ _ :: L => FactsAt P w L
theorem factsAt {P : Program} {w : World} : ∀ {L : List Tk}, FactsAt P w L → Facts P (fun W => W = w) L
  | [], _ => trivial
  | .load _ _ _ _ _ :: _, h => ⟨fun W e => by cases e; exact h.1, factsAt h.2⟩
  | .alt _ _ _ _ :: _, h => ⟨h.1, factsAt h.2⟩
  | .idx _ _ _ _ _ _ :: _, h => ⟨fun W e => by cases e; exact h.1, factsAt h.2⟩
  | .slc _ _ _ _ _ _ _ _ :: _, h => ⟨fun W e => by cases e; exact h.1, factsAt h.2⟩
  | .val _ _ _ :: L, h => factsAt (L := L) h
  | .skip _ _ :: L, h => factsAt (L := L) h
section
variable {P : Program} {md : Region.Mode} {ops : Array Oper} {Q : Exit → Act → World → Prop} {S : World → Prop}
theorem one_of {t : Tk} {o : Oper} {a : Act} (ho : ops[t.place]? = some o) (hsee : ∀ w, (ops[t.place]?).map (fun o => seeOp P ops w a o t) = some (wantOp w t)) {L : List Tk} (hf : Facts P S (t :: L)) :
    (∃ v, t.put a = a.put o.dst v ∧ YieldsIf P ops S o v a) ∧ Facts P S L := by
  rw [ho] at hsee
  have hs : ∀ w, seeOp P ops w a o t = wantOp w t := fun w => Option.some.inj (hsee w)
  cases t with
  | val i d v =>
    have hd : o.dst = d := by have := hs default; simp only [seeOp, wantOp, See.run.injEq] at this; exact this.2.1
    exact ⟨⟨v, by rw [hd]; rfl, .inl ⟨by have := hs default; simp only [seeOp, wantOp, See.run.injEq] at this; exact this.1, fun w _ => by have := hs w; simp only [seeOp, wantOp, See.run.injEq] at this; exact this.2.2⟩⟩, hf⟩
  | load i d ty p v =>
    have hd : o.dst = d := by have := hs default; simp only [seeOp, wantOp, See.got.injEq] at this; exact this.2.1
    refine ⟨⟨v, by rw [hd]; rfl, .inl ⟨by have := hs default; simp only [seeOp, wantOp, See.got.injEq] at this; exact this.1, fun w hw => ?_⟩⟩, hf.2⟩
    have h := hs w
    simp only [seeOp, wantOp, See.got.injEq] at h
    have h3 := h.2.2
    have hl := hf.1 w hw
    unfold execOp
    split at h3
    · rename_i ty' x hop
      obtain ⟨rfl, rfl⟩ := by simpa using h3
      simp only [hop, Sem.run_bind, hl, Result.andThen_ok]
      rfl
    · cases h3
  | alt i d v u =>
    have hd : o.dst = d := by have := hs default; simp only [seeOp, wantOp, See.run.injEq] at this; exact this.2.1
    obtain ⟨rfl, hf2⟩ := hf
    exact ⟨⟨v, by rw [hd]; rfl, .inl ⟨by have := hs default; simp only [seeOp, wantOp, See.run.injEq] at this; exact this.1, fun w _ => by have := hs w; simp only [seeOp, wantOp, See.run.injEq] at this; exact this.2.2⟩⟩, hf2⟩
  | skip i d =>
    have hd : o.dst = d := by have := hs default; simp only [seeOp, wantOp, See.no.injEq] at this; exact this.2
    exact ⟨⟨undef, by rw [hd]; rfl, .inr ⟨by have := hs default; simp only [seeOp, wantOp, See.no.injEq] at this; exact this.1, rfl⟩⟩, hf⟩
  | idx i d ty p x v =>
    have hd : o.dst = d := by have := hs default; simp only [seeOp, wantOp, See.at.injEq] at this; exact this.2.1
    refine ⟨⟨v, by rw [hd]; rfl, .inl ⟨by have := hs default; simp only [seeOp, wantOp, See.at.injEq] at this; exact this.1, fun w hw => ?_⟩⟩, hf.2⟩
    have h := hs w
    simp only [seeOp, wantOp, See.at.injEq] at h
    have h3 := h.2.2
    have hl := hf.1 w hw
    unfold execOp
    split at h3
    · rename_i ty' x y hop
      obtain ⟨rfl, rfl, rfl⟩ := by simpa using h3
      simp only [hop, Sem.run_bind, hl, Result.andThen_ok]
      rfl
    · cases h3
  | slc i d ty x lo hi mx v =>
    have hd : o.dst = d := by have := hs default; simp only [seeOp, wantOp, See.sl.injEq] at this; exact this.2.1
    refine ⟨⟨v, by rw [hd]; rfl, .inl ⟨by have := hs default; simp only [seeOp, wantOp, See.sl.injEq] at this; exact this.1, fun w hw => ?_⟩⟩, hf.2⟩
    have h := hs w
    simp only [seeOp, wantOp, See.sl.injEq] at h
    have h3 := h.2.2
    have hl := hf.1 w hw
    unfold execOp
    split at h3
    · rename_i ty' x' lo' hi' mx' hop
      obtain ⟨rfl, rfl, rfl, rfl, rfl⟩ := by simpa using h3
      simp only [hop, Sem.run_bind, hl, Result.andThen_ok]
      rfl
    · cases h3
def listedBy : List Tk → Array Bool → Array Bool
  | [], l => l
  | t :: L, l => listedBy L (l.setIfInBounds t.place true)
def orderOk (md : Region.Mode) (ops : Array Oper) : List Tk → Array Bool → Bool
  | [], _ => true
  | t :: L, l => (Region.free md ops l t.place && (Region.ready md ops l).contains t.place) && orderOk md ops L (l.setIfInBounds t.place true)
theorem wpAnyH_takes (L : List Tk) (hs : Region.noSelect ops = true) (hQ : ∀ d v c a w, Q (.panic c) (Act.put a d v) w → Q (.panic c) a w) :
    ∀ {m n : Nat} {listed : Array Bool} {a : Act} {w : World}, n = m + L.length → orderOk md ops L listed = true → (∀ w, sees P ops w L a = wants w L) → Facts P S L → S w →
      wpAnyH P md ops Q S m (listedBy L listed) (puts L a) w → wpAnyH P md ops Q S n listed a w := by
  induction L with
  | nil => intro m n listed a w hn _ _ _ _ h; subst hn; exact h
  | cons t L ih =>
    intro m n listed a w hn ho hsee hf hS h
    simp only [orderOk, Bool.and_eq_true] at ho
    obtain ⟨⟨ho1, ho2⟩, ho3⟩ := ho
    have hsee1 : ∀ w, (ops[t.place]?).map (fun o => seeOp P ops w a o t) = some (wantOp w t) := fun w => (List.cons.inj (hsee w)).1
    have hsee2 : ∀ w, sees P ops w L (t.put a) = wants w L := fun w => (List.cons.inj (hsee w)).2
    obtain ⟨o, hop⟩ : ∃ o, ops[t.place]? = some o := by
      cases hx : ops[t.place]? with
      | none => have := hsee1 default; rw [hx] at this; cases this
      | some o => exact ⟨o, rfl⟩
    obtain ⟨⟨v, hv, hy⟩, hf2⟩ := one_of hop hsee1 hf
    subst hn
    exact wpAnyH_take hop hs ho1 ho2 (fun c a w h => hQ _ _ c a w h) hy hS (by rw [← hv]; exact ih (m := m) rfl ho3 hsee2 hf2 hS h)
theorem wp_region_M {id : Nat} {a : Act} {w : World} (S S0 : World → Prop) (hm : P.follows .mixedOrders = true) (h0 : S0 w.drew)
    (h : ∀ Y, S0 Y → wpAnyH P .any ops Q S ops.size (Array.replicate ops.size false) a Y) : (Code.region id ops true).wp P Q a w := wp_region_held hm (h _ h0)
def wpFrom (P : Program) (ops : Array Oper) (Q : Exit → Act → World → Prop) (k : Nat) (a : Act) (w : World) : Prop := wpList P ops Q (ops.toList.drop k) a w
theorem wp_region_from {id : Nat} {a : Act} {w : World} (h : wpFrom P ops Q 0 a w) : (Code.region id ops false).wp P Q a w := wp_region_list h
theorem wp_region_fromM {id : Nat} {a : Act} {w : World} (S0 : World → Prop) (h0 : S0 w) (h : ∀ Y, S0 Y → wpFrom P ops Q 0 a Y) : (Code.region id ops false).wp P Q a w := wp_region_from (h _ h0)
theorem wpFrom_step {k : Nat} {a : Act} {w : World} {o : Oper} (ho : ops[k]? = some o)
    (h : ∀ K : Act → World → Prop, (∀ a w, wpFrom P ops Q (k + 1) a w → K a w) → if Region.wanted o (yielded ops a.tmps) = true then o.wp P a w K Q else K (a.put o.dst undef) w) : wpFrom P ops Q k a w := by
  have hk : k < ops.toList.length := by simpa using (Array.getElem?_eq_some_iff.1 ho).1
  have e : ops.toList.drop k = o :: ops.toList.drop (k + 1) := by
    rw [List.drop_eq_getElem_cons hk]
    congr 1
    simpa using (Array.getElem?_eq_some_iff.1 ho).2
  unfold wpFrom
  rw [e]
  exact wpList_step fun K hK => h K hK
theorem wpFrom_takes (L : List Tk) : ∀ {k m : Nat} {a : Act} {w : World}, m = k + L.length → L.map Tk.place = List.range' k L.length → (∀ w, sees P ops w L a = wants w L) → FactsAt P w L →
      wpFrom P ops Q m (puts L a) w → wpFrom P ops Q k a w := by
  induction L with
  | nil => intro k m a w hm _ _ _ h; subst hm; exact h
  | cons t L ih =>
    intro k m a w hm hp hsee hf h
    have hsee1 : ∀ w, (ops[t.place]?).map (fun o => seeOp P ops w a o t) = some (wantOp w t) := fun w => (List.cons.inj (hsee w)).1
    have hsee2 : ∀ w, sees P ops w L (t.put a) = wants w L := fun w => (List.cons.inj (hsee w)).2
    rw [List.map_cons, List.length_cons, List.range'_succ] at hp
    obtain ⟨hp1, hp2⟩ := List.cons.inj hp
    obtain ⟨o, hop⟩ : ∃ o, ops[t.place]? = some o := by
      cases hx : ops[t.place]? with
      | none => have := hsee1 default; rw [hx] at this; cases this
      | some o => exact ⟨o, rfl⟩
    have hf2 : FactsAt P w L := by cases t <;> first | exact hf.2 | exact hf
    obtain ⟨⟨v, hv, hy⟩, _⟩ := one_of hop hsee1 (factsAt hf)
    refine wpFrom_step (by rw [← hp1]; exact hop) fun K hK => ?_
    have hgo : wpFrom P ops Q (k + 1) (a.put o.dst v) w := by rw [← hv]; exact ih (m := m) (by simpa [Nat.add_assoc, Nat.add_comm 1] using hm) hp2 hsee2 hf2 h
    rcases hy with ⟨hw, hr⟩ | ⟨hw, rfl⟩
    · rw [if_pos hw]
      unfold Oper.wp
      rw [hr w rfl]
      exact hK _ _ hgo
    · rw [if_neg (by rw [hw]; decide)]
      exact hK _ _ hgo
theorem wpFrom_done {k : Nat} {a : Act} {w : World} (hk : ops.size ≤ k) (h : Q .normal a w) : wpFrom P ops Q k a w := by
  unfold wpFrom
  rw [List.drop_of_length_le (by simpa using hk)]
  exact wpList_nil h
def runAt (P : Program) (ops : Array Oper) (i : Nat) (a : Act) (w : World) : Option (Bool × Option Tmp × Result Next) := (ops[i]?).map fun o => (Region.wanted o (yielded ops a.tmps), o.dst, (execOp a.eval o).run P w)
def Goes (Q : Exit → Act → World → Prop) (K : Act → World → Prop) (a : Act) (d : Option Tmp) : Ending → World → Prop
  | .returned v, w => K (a.put d v) w
  | .panicked c, w => Q (.panic c) a w
  | .outgrown, _ => LetsOut Q
theorem op_call {i : Nat} {o : Oper} {a : Act} {w : World} {d : Option Tmp} {f : FuncId} {args : Array Value} {K : Act → World → Prop} (ho : ops[i]? = some o) (hr : runAt P ops i a w = some (true, d, .ok (.enter f args) w)) (hc : Calls P f args w (Goes Q K a d)) :
    if Region.wanted o (yielded ops a.tmps) = true then o.wp P a w K Q else K (a.put o.dst undef) w := by
  unfold runAt at hr
  rw [ho] at hr
  have h := Option.some.inj hr
  have h1 : Region.wanted o (yielded ops a.tmps) = true := congrArg Prod.fst h
  have h2 : o.dst = d := congrArg (fun x => x.2.1) h
  have h3 : (execOp a.eval o).run P w = .ok (.enter f args) w := congrArg (fun x => x.2.2) h
  rw [if_pos h1]
  unfold Oper.wp
  rw [h3]
  refine hc.mono fun e w' he => ?_
  rw [h2]
  cases e <;> exact he
theorem op_run {i : Nat} {o : Oper} {a : Act} {w w' : World} {d : Option Tmp} {v : Value} {K : Act → World → Prop} (ho : ops[i]? = some o) (hr : runAt P ops i a w = some (true, d, .ok (.value v) w')) (hc : K (a.put d v) w') :
    if Region.wanted o (yielded ops a.tmps) = true then o.wp P a w K Q else K (a.put o.dst undef) w := by
  unfold runAt at hr
  rw [ho] at hr
  have h := Option.some.inj hr
  have h1 : Region.wanted o (yielded ops a.tmps) = true := congrArg Prod.fst h
  have h2 : o.dst = d := congrArg (fun x => x.2.1) h
  have h3 : (execOp a.eval o).run P w = .ok (.value v) w' := congrArg (fun x => x.2.2) h
  rw [if_pos h1]
  unfold Oper.wp
  rw [h3]
  have : K (a.put o.dst v) w' := by rw [h2]; exact hc
  exact this
def storeAt (ops : Array Oper) (i : Nat) (a : Act) : Option (Bool × Option Tmp × Option (TypeId × Value × Value)) := (ops[i]?).map fun o => (Region.wanted o (yielded ops a.tmps), o.dst, match o.op with | .store ty x y => some (ty, a.eval x, a.eval y) | _ => none)
theorem op_store {i : Nat} {o : Oper} {a : Act} {w w' : World} {ty : TypeId} {p v : Value} {K : Act → World → Prop} (ho : ops[i]? = some o) (hr : storeAt ops i a = some (true, none, some (ty, p, v))) (hst : (Instr.storeAt ty p v).run P w = .ok () w') (hc : K a w') :
    if Region.wanted o (yielded ops a.tmps) = true then o.wp P a w K Q else K (a.put o.dst undef) w := by
  unfold storeAt at hr
  rw [ho] at hr
  have h := Option.some.inj hr
  have h1 : Region.wanted o (yielded ops a.tmps) = true := congrArg Prod.fst h
  have h2 : o.dst = none := congrArg (fun x => x.2.1) h
  have h3 := congrArg (fun x => x.2.2) h
  rw [if_pos h1]
  dsimp only at h3
  split at h3
  · rename_i ty' x y hop
    obtain ⟨rfl, rfl, rfl⟩ := by simpa using h3
    unfold Oper.wp execOp
    simp only [hop, Sem.run_bind, hst, Result.andThen_ok]
    have : K (a.put o.dst undef) w' := by rw [h2]; exact hc
    exact this
  · cases h3
theorem op_load {i : Nat} {o : Oper} {a : Act} {w : World} {d : Option Tmp} {ty : TypeId} {p v : Value} {K : Act → World → Prop} (ho : ops[i]? = some o) (hr : (ops[i]?).map (fun o => seeOp P ops w a o (.load i d ty p v)) = some (.got true d (some (ty, p)))) (hl : (Instr.loadAt ty p).run P w = .ok v w) (hc : K (a.put d v) w) :
    if Region.wanted o (yielded ops a.tmps) = true then o.wp P a w K Q else K (a.put o.dst undef) w := by
  rw [ho] at hr
  have h := Option.some.inj hr
  simp only [seeOp, See.got.injEq] at h
  obtain ⟨h1, h2, h3⟩ := h
  rw [if_pos h1]
  split at h3
  · rename_i ty' x hop
    obtain ⟨rfl, rfl⟩ := by simpa using h3
    unfold Oper.wp execOp
    simp only [hop, Sem.run_bind, hl, Result.andThen_ok]
    have : K (a.put o.dst v) w := by rw [h2]; exact hc
    exact this
  · cases h3
def appAt (ops : Array Oper) (i : Nat) (a : Act) : Option (Bool × Option Tmp × Option (TypeId × TypeId × TypeId × Value × Value)) := (ops[i]?).map fun o => (Region.wanted o (yielded ops a.tmps), o.dst, match o.op with | .call ⟨.builtin .append, ⟨[s, x]⟩, ⟨[t, t']⟩⟩ => some (t, t', o.type, a.eval s, a.eval x) | _ => none)
theorem op_append {i : Nat} {o : Oper} {a : Act} {w w' : World} {d : Option Tmp} {t t' ty : TypeId} {v x u : Value} {K : Act → World → Prop} (ho : ops[i]? = some o) (hr : appAt ops i a = some (true, d, some (t, t', ty, v, x))) (hst : (Builtin.append_ #[t, t'] ty #[v, x]).run P w = .ok u w') (hc : K (a.put d u) w') :
    if Region.wanted o (yielded ops a.tmps) = true then o.wp P a w K Q else K (a.put o.dst undef) w := by
  unfold appAt at hr
  rw [ho] at hr
  have h := Option.some.inj hr
  have h1 : Region.wanted o (yielded ops a.tmps) = true := congrArg Prod.fst h
  have h2 : o.dst = d := congrArg (fun x => x.2.1) h
  have h3 := congrArg (fun x => x.2.2) h
  rw [if_pos h1]
  dsimp only at h3
  split at h3
  · rename_i s y t1 t2 hop
    obtain ⟨rfl, rfl, rfl, rfl, rfl⟩ := by simpa using h3
    unfold Oper.wp execOp
    simp only [hop, resolve, invoke, builtin, Sem.run_bind, Sem.run_pure, Result.andThen_ok, List.map_toArray, List.map_cons, List.map_nil, hst]
    have : K (a.put o.dst u) w' := by rw [h2]; exact hc
    exact this
  · cases h3
def StepH (P : Program) (md : Region.Mode) (ops : Array Oper) (Q : Exit → Act → World → Prop) (S : World → Prop) (m : Nat) (listed : Array Bool) (a : Act) (w : World) (i : Nat) : Prop :=
  wpOp P ops Q i (fun a' w' => S w' ∧ wpAnyH P md ops Q S m (listed.setIfInBounds i true) a' w') a w
theorem wpAnyH_one {i m n : Nat} {listed : Array Bool} {a : Act} {w : World} (hr : Region.ready md ops listed = [i]) (hn : n = m + 1) (h : StepH P md ops Q S m listed a w i) : wpAnyH P md ops Q S n listed a w := by
  subst hn
  exact wpAnyH_all hr (by simp) fun j hj => by obtain rfl := List.mem_singleton.1 hj; exact h
theorem wpAnyH_two {i j m n : Nat} {listed : Array Bool} {a : Act} {w : World} (hr : Region.ready md ops listed = [i, j]) (hn : n = m + 1) (h1 : StepH P md ops Q S m listed a w i) (h2 : StepH P md ops Q S m listed a w j) : wpAnyH P md ops Q S n listed a w := by
  subst hn
  refine wpAnyH_all hr (by simp) fun k hk => ?_
  rcases List.mem_cons.1 hk with rfl | hk
  · exact h1
  · obtain rfl := List.mem_singleton.1 hk; exact h2
theorem stepH_of {m i : Nat} {listed : Array Bool} {a : Act} {w : World} {o : Oper} (ho : ops[i]? = some o)
    (h : if Region.wanted o (yielded ops a.tmps) = true then o.wp P a w (fun a' w' => S w' ∧ wpAnyH P md ops Q S m (listed.setIfInBounds i true) a' w') Q else (fun a' w' => S w' ∧ wpAnyH P md ops Q S m (listed.setIfInBounds i true) a' w') (a.put o.dst undef) w) : StepH P md ops Q S m listed a w i := by
  refine wpOp_step ho fun K' hK => ?_
  split at h
  · rename_i hw
    rw [if_pos hw]
    exact Oper.wp_mono (fun a w h => hK a w h) h
  · rename_i hw
    rw [if_neg hw]
    exact hK _ _ h
theorem some_of {α β : Type} {x : Option α} {f : α → β} {y : β} (h : x.map f = some y) : ∃ o, x = some o := by
  cases x with
  | none => cases h
  | some o => exact ⟨o, rfl⟩
theorem stepH_call {m i : Nat} {listed : Array Bool} {a : Act} {w : World} {d : Option Tmp} {f : FuncId} {args : Array Value} (hr : runAt P ops i a w = some (true, d, .ok (.enter f args) w))
    (hc : Calls P f args w (Goes Q (fun a' w' => S w' ∧ wpAnyH P md ops Q S m (listed.setIfInBounds i true) a' w') a d)) : StepH P md ops Q S m listed a w i := by
  obtain ⟨o, ho⟩ := some_of hr
  exact stepH_of ho (op_call ho hr hc)
theorem stepH_run {m i : Nat} {listed : Array Bool} {a : Act} {w w' : World} {d : Option Tmp} {v : Value} (hr : runAt P ops i a w = some (true, d, .ok (.value v) w')) (hS : S w') (h : wpAnyH P md ops Q S m (listed.setIfInBounds i true) (a.put d v) w') : StepH P md ops Q S m listed a w i := by
  obtain ⟨o, ho⟩ := some_of hr
  exact stepH_of ho (op_run ho hr ⟨hS, h⟩)
theorem stepH_store {m i : Nat} {listed : Array Bool} {a : Act} {w w' : World} {ty : TypeId} {p v : Value} (hr : storeAt ops i a = some (true, none, some (ty, p, v))) (hst : (Instr.storeAt ty p v).run P w = .ok () w') (hS : S w') (h : wpAnyH P md ops Q S m (listed.setIfInBounds i true) a w') : StepH P md ops Q S m listed a w i := by
  obtain ⟨o, ho⟩ := some_of hr
  exact stepH_of ho (op_store ho hr hst ⟨hS, h⟩)
theorem stepH_load {m i : Nat} {listed : Array Bool} {a : Act} {w : World} {d : Option Tmp} {ty : TypeId} {p v : Value} (hr : (ops[i]?).map (fun o => seeOp P ops w a o (.load i d ty p v)) = some (.got true d (some (ty, p)))) (hl : (Instr.loadAt ty p).run P w = .ok v w) (hS : S w) (h : wpAnyH P md ops Q S m (listed.setIfInBounds i true) (a.put d v) w) : StepH P md ops Q S m listed a w i := by
  obtain ⟨o, ho⟩ := some_of hr
  exact stepH_of ho (op_load ho hr hl ⟨hS, h⟩)
theorem stepH_append {m i : Nat} {listed : Array Bool} {a : Act} {w w' : World} {d : Option Tmp} {t t' ty : TypeId} {v x u : Value} (hr : appAt ops i a = some (true, d, some (t, t', ty, v, x))) (hst : (Builtin.append_ #[t, t'] ty #[v, x]).run P w = .ok u w') (hS : S w') (h : wpAnyH P md ops Q S m (listed.setIfInBounds i true) (a.put d u) w') : StepH P md ops Q S m listed a w i := by
  obtain ⟨o, ho⟩ := some_of hr
  exact stepH_of ho (op_append ho hr hst ⟨hS, h⟩)
theorem wpFrom_append {k : Nat} {a : Act} {w w' : World} {d : Option Tmp} {t t' ty : TypeId} {v x u : Value} (hr : appAt ops k a = some (true, d, some (t, t', ty, v, x))) (hst : (Builtin.append_ #[t, t'] ty #[v, x]).run P w = .ok u w') (h : wpFrom P ops Q (k + 1) (a.put d u) w') : wpFrom P ops Q k a w := by
  obtain ⟨o, ho⟩ := some_of hr
  exact wpFrom_step ho fun K hK => op_append ho hr hst (hK _ _ h)
theorem wpFrom_call {k : Nat} {a : Act} {w : World} {d : Option Tmp} {f : FuncId} {args : Array Value} (hr : runAt P ops k a w = some (true, d, .ok (.enter f args) w)) (hc : Calls P f args w (Goes Q (wpFrom P ops Q (k + 1)) a d)) : wpFrom P ops Q k a w := by
  obtain ⟨o, ho⟩ := some_of hr
  refine wpFrom_step ho fun K hK => op_call ho hr (hc.mono fun e w' he => ?_)
  cases e with
  | returned v => exact hK _ _ he
  | panicked c => exact he
  | outgrown => exact he
theorem wpFrom_run {k : Nat} {a : Act} {w w' : World} {d : Option Tmp} {v : Value} (hr : runAt P ops k a w = some (true, d, .ok (.value v) w')) (h : wpFrom P ops Q (k + 1) (a.put d v) w') : wpFrom P ops Q k a w := by
  obtain ⟨o, ho⟩ := some_of hr
  exact wpFrom_step ho fun K hK => op_run ho hr (hK _ _ h)
theorem wpFrom_store {k : Nat} {a : Act} {w w' : World} {ty : TypeId} {p v : Value} (hr : storeAt ops k a = some (true, none, some (ty, p, v))) (hst : (Instr.storeAt ty p v).run P w = .ok () w') (h : wpFrom P ops Q (k + 1) a w') : wpFrom P ops Q k a w := by
  obtain ⟨o, ho⟩ := some_of hr
  exact wpFrom_step ho fun K hK => op_store ho hr hst (hK _ _ h)
abbrev pt (b o : Nat) : Value := .pointer (some ⟨b, o, none⟩)
theorem tD (m : Nat) (L : List Tk) {n : Nat} {listed : Array Bool} {a : Act} {w : World} (hf : Facts P S L) (hS : S w) (h : wpAnyH P md ops Q S m (listedBy L listed) (puts L a) w) (hs : Region.noSelect ops = true := by kernel_rfl) (hQ : ∀ d v c a w, Q (.panic c) (Act.put a d v) w → Q (.panic c) a w := by rintro (_ | _) _ _ _ _ h <;> exact h)
    (hn : n = m + L.length := by kernel_rfl) (ho : orderOk md ops L listed = true := by kernel_rfl) (hsee : ∀ w, sees P ops w L a = wants w L := by intro _; kernel_rfl) : wpAnyH P md ops Q S n listed a w := wpAnyH_takes L hs hQ hn ho hsee hf hS h
theorem tF (m : Nat) (L : List Tk) {k : Nat} {a : Act} {w : World} (hf : FactsAt P w L) (h : wpFrom P ops Q m (puts L a) w) (hm : m = k + L.length := by kernel_rfl) (hp : L.map Tk.place = List.range' k L.length := by kernel_rfl) (hsee : ∀ w, sees P ops w L a = wants w L := by intro _; kernel_rfl) : wpFrom P ops Q k a w := wpFrom_takes L hm hp hsee hf h
theorem oD (i m : Nat) {n : Nat} {listed : Array Bool} {a : Act} {w : World} (h : StepH P md ops Q S m listed a w i) (hr : Region.ready md ops listed = [i] := by kernel_rfl) (hn : n = m + 1 := by kernel_rfl) : wpAnyH P md ops Q S n listed a w := wpAnyH_one hr hn h
theorem oT (i j m : Nat) {n : Nat} {listed : Array Bool} {a : Act} {w : World} (h1 : StepH P md ops Q S m listed a w i) (h2 : StepH P md ops Q S m listed a w j) (hr : Region.ready md ops listed = [i, j] := by kernel_rfl) (hn : n = m + 1 := by kernel_rfl) : wpAnyH P md ops Q S n listed a w := wpAnyH_two hr hn h1 h2
theorem cD (d : Option Tmp) (f : FuncId) (args : Array Value) {m i : Nat} {listed : Array Bool} {a : Act} {w : World} (hc : Calls P f args w (Goes Q (fun a' w' => S w' ∧ wpAnyH P md ops Q S m (listed.setIfInBounds i true) a' w') a d)) (hr : runAt P ops i a w = some (true, d, .ok (.enter f args) w) := by kernel_rfl) : StepH P md ops Q S m listed a w i := stepH_call hr hc
theorem cF (d : Option Tmp) (f : FuncId) (args : Array Value) {k : Nat} {a : Act} {w : World} (hc : Calls P f args w (Goes Q (wpFrom P ops Q (k + 1)) a d)) (hr : runAt P ops k a w = some (true, d, .ok (.enter f args) w) := by kernel_rfl) : wpFrom P ops Q k a w := wpFrom_call hr hc
theorem rD (d : Option Tmp) (v : Value) (w' : World) {m i : Nat} {listed : Array Bool} {a : Act} {w : World} (hS : S w') (h : wpAnyH P md ops Q S m (listed.setIfInBounds i true) (a.put d v) w') (hr : runAt P ops i a w = some (true, d, .ok (.value v) w') := by kernel_rfl) : StepH P md ops Q S m listed a w i := stepH_run hr hS h
theorem rF (d : Option Tmp) (v : Value) (w' : World) {k : Nat} {a : Act} {w : World} (h : wpFrom P ops Q (k + 1) (a.put d v) w') (hr : runAt P ops k a w = some (true, d, .ok (.value v) w') := by kernel_rfl) : wpFrom P ops Q k a w := wpFrom_run hr h
theorem sD (ty : TypeId) (p v : Value) {m i : Nat} {listed : Array Bool} {a : Act} {w w' : World} (hst : (Instr.storeAt ty p v).run P w = .ok () w') (hS : S w') (h : wpAnyH P md ops Q S m (listed.setIfInBounds i true) a w') (hr : storeAt ops i a = some (true, none, some (ty, p, v)) := by kernel_rfl) : StepH P md ops Q S m listed a w i := stepH_store hr hst hS h
theorem sF (ty : TypeId) (p v : Value) {k : Nat} {a : Act} {w w' : World} (hst : (Instr.storeAt ty p v).run P w = .ok () w') (h : wpFrom P ops Q (k + 1) a w') (hr : storeAt ops k a = some (true, none, some (ty, p, v)) := by kernel_rfl) : wpFrom P ops Q k a w := wpFrom_store hr hst h
theorem lD (d : Option Tmp) (ty : TypeId) (p v : Value) {m i : Nat} {listed : Array Bool} {a : Act} {w : World} (hl : (Instr.loadAt ty p).run P w = .ok v w) (hS : S w) (h : wpAnyH P md ops Q S m (listed.setIfInBounds i true) (a.put d v) w) (hr : (ops[i]?).map (fun o => seeOp P ops w a o (.load i d ty p v)) = some (.got true d (some (ty, p))) := by kernel_rfl) : StepH P md ops Q S m listed a w i := stepH_load hr hl hS h
theorem dF {k : Nat} {a : Act} {w : World} (h : Q .normal a w) (hk : Nat.ble ops.size k = true := by kernel_rfl) : wpFrom P ops Q k a w := wpFrom_done (Nat.le_of_ble_eq_true hk) h
theorem dD {n : Nat} {listed : Array Bool} {a : Act} {w : World} (h : Q .normal a w) (hr : Region.ready md ops listed = [] := by kernel_rfl) : wpAnyH P md ops Q S n listed a w := wpAnyH_done hr h n
end
end Go.Proofs.YtfoemkmoambagaaGreat
