/-
  What any transaction leaves of a side's state: nothing is made, locks stay; A side's state, a transaction in memory: loads and stores as facts; how a part of the contract ends; Locks: the first one with a key; what stays of them; Slices of values of one cell each that are read; Slices of elements of n cells each: what is read of them, what the call's own are; Locks in memory: an element's place, i
-/
import Derived.Deep.Cut
import Derived.Deep.CutRange
import Derived.Deep.DeepCutAuto
import Derived.Deep.CutBlock
import Derived.Laws.OwnMore
import Derived.Outline
import Derived.Test.YtfoemkmoambagaaGreatK02
namespace Go.Proofs.YtfoemkmoambagaaGreat
open Go.RowKit Go.Shelf
theorem errT_all {t : Tr} (h : errT t = 0) : (1 ≤ t.kd ∧ t.kd ≤ 6) ∧ (0 ≤ t.fr ∧ t.fr ≤ 7) ∧ (0 ≤ t.no ∧ t.no ≤ 1099511627776) ∧ (0 ≤ t.az ∧ t.az ≤ 1) ∧ (t.kd ≤ 3 → errM t = 0) ∧ (¬ t.kd ≤ 3 → errF t = 0) := by
  unfold errT at h
  by_cases h1 : 1 ≤ t.kd ∧ t.kd ≤ 6
  · rw [if_pos h1] at h
    by_cases h2 : (0 ≤ t.fr ∧ t.fr ≤ 7) ∧ (0 ≤ t.no ∧ t.no ≤ 1099511627776) ∧ (0 ≤ t.az ∧ t.az ≤ 1)
    · rw [if_pos h2] at h
      refine ⟨h1, h2.1, h2.2.1, h2.2.2, fun k => ?_, fun k => ?_⟩
      · rw [if_pos k] at h; exact h
      · rw [if_neg k] at h; exact h
    · rw [if_neg h2] at h; exact absurd h (by decide)
  · rw [if_neg h1] at h; exact absurd h (by decide)
theorem errM_to {t : Tr} (h : errM t = 0) (k : t.kd = 1) : 0 ≤ t.iv.to ∧ t.iv.to ≤ 7 := by
  unfold errM at h
  by_cases z : zeroA t
  · rw [if_pos z] at h; exact absurd h (by decide)
  · rw [if_neg z, if_pos k] at h
    by_cases hh : 0 ≤ t.iv.to ∧ t.iv.to ≤ 7
    · exact hh
    · rw [if_neg hh] at h; exact absurd h (by decide)
theorem errM_ro {t : Tr} (h : errM t = 0) (k : t.kd = 2) : 2 ≤ t.iv.ro ∧ t.iv.ro ≤ 3 := by
  unfold errM at h
  by_cases z : zeroA t
  · rw [if_pos z] at h; exact absurd h (by decide)
  · rw [if_neg z, if_neg (by omega), if_pos k] at h
    by_cases hh : 2 ≤ t.iv.ro ∧ t.iv.ro ≤ 3
    · exact hh
    · rw [if_neg hh] at h; exact absurd h (by decide)
theorem errF_all {t : Tr} (h : errF t = 0) : maybeI t.iv ∧ maybeV t.vr ∧ t.sg.size ≤ 1024 := by
  unfold errF at h
  by_cases h1 : maybeI t.iv
  · rw [if_pos h1] at h
    by_cases h2 : maybeV t.vr
    · rw [if_pos h2] at h
      by_cases h3 : t.sg.size ≤ 1024
      · exact ⟨h1, h2, h3⟩
      · rw [if_neg h3] at h; exact absurd h (by decide)
    · rw [if_neg h2] at h; exact absurd h (by decide)
  · rw [if_neg h1] at h; exact absurd h (by decide)
def ofA (s : Int) (n r : Nat) : Nat := if (r : Int) = s then n else 0
theorem take_all {b : Bk} {a s : Int} {n : Nat} (h : (takeB b a s n).2 = 0) {r : Nat} (hr : r < 2) : sumB (takeB b a s n).1 r + ofA s n r = sumB b r := by
  obtain ⟨ha, hs⟩ := take_sum h
  have hb := ha
  unfold atS at hb
  unfold ofA
  by_cases e : (r : Int) = s
  · subst e
    rw [if_pos rfl]
    exact hs
  · rw [if_neg e, Nat.add_zero]
    by_cases hn : n ≤ b (slotS a s)
    · rw [takeB_yes ha hn]
      exact sum_other (a := a.toNat) (s := s.toNat) _ (by omega) hr (by omega)
    · rw [takeB_low ha hn] at h; exact absurd h (by simp)
theorem give_all {b : Bk} {a s : Int} {n : Nat} (h : (giveB b a s n).2 = 0) {r : Nat} (hr : r < 2) : sumB (giveB b a s n).1 r = sumB b r + ofA s n r := by
  obtain ⟨ha, hs⟩ := give_sum h
  have hb := ha
  unfold atS at hb
  unfold ofA
  by_cases e : (r : Int) = s
  · subst e
    rw [if_pos rfl]
    exact hs
  · rw [if_neg e, Nat.add_zero]
    by_cases hn : b (slotS a s) + n < M4
    · rw [giveB_yes ha hn]
      exact sum_other (a := a.toNat) (s := s.toNat) _ (by omega) hr (by omega)
    · rw [giveB_over ha hn] at h; exact absurd h (by simp)
theorem held_up {h : Bk} {s : Int} {n r : Nat} (hs : 0 ≤ s) : updB h s.toNat (h s.toNat + n) r = h r + ofA s n r := by
  unfold ofA
  by_cases e : (r : Int) = s
  · subst e; rw [if_pos rfl]; exact updB_at _ _ _
  · rw [if_neg e, updB_ne _ _ (by omega), Nat.add_zero]
theorem held_down {h : Bk} {s : Int} {n r : Nat} (hs : 0 ≤ s) (hn : n ≤ h s.toNat) : updB h s.toNat (h s.toNat - n) r + ofA s n r = h r := by
  unfold ofA
  by_cases e : (r : Int) = s
  · subst e; rw [if_pos rfl, show ((r : Int)).toNat = r from rfl] at *; rw [updB_at]; omega
  · rw [if_neg e, updB_ne _ _ (by omega), Nat.add_zero]
structure StepE (s s' : Es) : Prop where
  ok : OkE s'
  su : ∀ r, r < 2 → sumB s'.pu r + s'.he r = sumB s.pu r + s.he r
  sd : s'.sd = s.sd
  tm : s'.tm = s.tm
  no : s'.no = s.no
  bu : s'.bu = s.bu
def LkE (l l' : List Lk) : Prop := l' = l ∨ (∃ x : Lk, x.st = 1 ∧ l' = l ++ [x]) ∨ ∃ (i : Nat) (x : Lk) (st : Int), l[i]? = some x ∧ x.st = 1 ∧ (st = 2 ∨ st = 3) ∧ l' = endE l i st
theorem okE_he {s : Es} (h : OkE s) {a : Int} (h1 : 0 ≤ a) (h2 : a ≤ 1) : s.he a.toNat < M4 := by
  obtain rfl | rfl : a = 0 ∨ a = 1 := by omega
  · exact h.h.1
  · exact h.h.2
theorem he_upd {h : Bk} (k : h 0 < M4 ∧ h 1 < M4) (i n : Nat) (hn : n < M4) : updB h i n 0 < M4 ∧ updB h i n 1 < M4 := by
  unfold updB
  constructor <;> split <;> first | exact hn | exact k.1 | exact k.2
theorem plain_step {s : Es} {t : Tr} (hs : OkE s) (ht : errT t = 0) (h : (plainE s t).2 = 0) : StepE s (plainE s t).1 ∧ LkE s.lk (plainE s t).1.lk := by
  obtain ⟨k, fr, _, az, _, _⟩ := errT_all ht
  have hz := okE_he hs az.1 az.2
  unfold plainE at h ⊢
  by_cases k1 : t.kd = 1
  · rw [if_pos k1] at h ⊢
    by_cases e1 : (takeB s.pu t.fr t.az (amT t)).2 ≠ 0
    · rw [if_pos e1] at h; exact absurd h (by simp)
    · rw [if_neg e1] at h ⊢
      by_cases e2 : (giveB (takeB s.pu t.fr t.az (amT t)).1 t.iv.to t.az (amT t)).2 ≠ 0
      · rw [if_pos e2] at h; exact absurd h (by simp)
      · rw [if_neg e2]
        exact ⟨⟨⟨hs.t0, hs.t1, hs.d, okK_give (okK_take hs.p _ _ _) _ _ _, hs.v, hs.h, hs.b⟩, fun r hr => by
          have q1 := take_all (Decidable.not_not.1 e1) hr
          have q2 := give_all (Decidable.not_not.1 e2) hr
          show sumB (giveB (takeB s.pu t.fr t.az (amT t)).1 t.iv.to t.az (amT t)).1 r + s.he r = _
          omega, rfl, rfl, rfl, rfl⟩, .inl rfl⟩
  · rw [if_neg k1] at h ⊢
    by_cases k2 : t.kd = 2
    · rw [if_pos k2] at h ⊢
      by_cases e1 : (takeB s.pu t.fr t.az (amT t)).2 ≠ 0
      · rw [if_pos e1] at h; exact absurd h (by simp)
      · rw [if_neg e1] at h ⊢
        by_cases e2 : (giveB s.va t.iv.ro t.az (amT t)).2 ≠ 0 ∨ ¬ s.he t.az.toNat + amT t < M4
        · rw [if_pos e2] at h; exact absurd h (by simp)
        · rw [if_neg e2]
          have hm : s.he t.az.toNat + amT t < M4 := Decidable.not_not.1 fun x => e2 (.inr x)
          exact ⟨⟨⟨hs.t0, hs.t1, hs.d, okK_take hs.p _ _ _, okK_give hs.v _ _ _, he_upd hs.h _ _ hm, hs.b⟩, fun r hr => by
            have q1 := take_all (Decidable.not_not.1 e1) hr
            have q2 := held_up (h := s.he) (n := amT t) (r := r) az.1
            show sumB (takeB s.pu t.fr t.az (amT t)).1 r + updB s.he t.az.toNat (s.he t.az.toNat + amT t) r = _
            omega, rfl, rfl, rfl, rfl⟩, .inl rfl⟩
    · rw [if_neg k2] at h ⊢
      by_cases e0 : ¬ (2 ≤ t.fr ∧ t.fr ≤ 3)
      · rw [if_pos e0] at h; exact absurd h (by simp)
      · rw [if_neg e0] at h ⊢
        by_cases e1 : (takeB s.va t.fr t.az (amT t)).2 ≠ 0
        · rw [if_pos e1] at h; exact absurd h (by simp)
        · rw [if_neg e1] at h ⊢
          by_cases e2 : (giveB s.pu t.fr t.az (amT t)).2 ≠ 0 ∨ ¬ amT t ≤ s.he t.az.toNat
          · rw [if_pos e2] at h; exact absurd h (by simp)
          · rw [if_neg e2]
            have hm : amT t ≤ s.he t.az.toNat := Decidable.not_not.1 fun x => e2 (.inr x)
            have hg : (giveB s.pu t.fr t.az (amT t)).2 = 0 := Decidable.not_not.1 fun x => e2 (.inl x)
            exact ⟨⟨⟨hs.t0, hs.t1, hs.d, okK_give hs.p _ _ _, okK_take hs.v _ _ _, he_upd hs.h _ _ (by omega), hs.b⟩, fun r hr => by
              have q1 := give_all hg hr
              have q2 := held_down (r := r) az.1 hm
              show sumB (giveB s.pu t.fr t.az (amT t)).1 r + updB s.he t.az.toNat (s.he t.az.toNat - amT t) r = _
              omega, rfl, rfl, rfl, rfl⟩, .inl rfl⟩
theorem prep_step {o : Orc} {s : Es} {t : Tr} (hs : OkE s) (ht : errF t = 0) (h : (prepE o s t).2 = 0) : StepE s (prepE o s t).1 ∧ LkE s.lk (prepE o s t).1.lk := by
  obtain ⟨⟨_, _, _, se, re, _⟩, _, _⟩ := errF_all ht
  have hz := okE_he hs se.1 se.2
  unfold prepE at h ⊢
  by_cases e1 : (placeE s.lk (o.ke t.iv)).isSome
  · rw [if_pos e1] at h; exact absurd h (by simp)
  · rw [if_neg e1] at h ⊢
    by_cases e2 : t.vr.x ≤ s.tm ∨ s.tm + 1024 < t.vr.x
    · rw [if_pos e2] at h; exact absurd h (by simp)
    · rw [if_neg e2] at h ⊢
      by_cases e3 : s.sd = 1
      · rw [if_pos e3] at h ⊢
        by_cases e4 : t.fr ≠ t.iv.ro
        · rw [if_pos e4] at h; exact absurd h (by simp)
        · rw [if_neg e4] at h ⊢
          by_cases e5 : (takeB s.va t.fr t.iv.re (amV t)).2 ≠ 0
          · rw [if_pos e5] at h; exact absurd h (by simp)
          · rw [if_neg e5]
            exact ⟨⟨⟨hs.t0, hs.t1, hs.d, hs.p, okK_take hs.v _ _ _, hs.h, hs.b⟩, fun r hr => rfl, rfl, rfl, rfl, rfl⟩, .inr (.inl ⟨_, rfl, rfl⟩)⟩
      · rw [if_neg e3] at h ⊢
        by_cases e4 : t.fr ≠ t.iv.us
        · rw [if_pos e4] at h; exact absurd h (by simp)
        · rw [if_neg e4] at h ⊢
          by_cases e5 : (takeB s.pu t.fr t.iv.se (amV t)).2 ≠ 0
          · rw [if_pos e5] at h; exact absurd h (by simp)
          · rw [if_neg e5] at h ⊢
            by_cases e6 : ¬ s.he t.iv.se.toNat + amV t < M4
            · rw [if_pos e6] at h; exact absurd h (by simp)
            · rw [if_neg e6]
              exact ⟨⟨⟨hs.t0, hs.t1, hs.d, okK_take hs.p _ _ _, hs.v, he_upd hs.h _ _ (Decidable.not_not.1 e6), hs.b⟩, fun r hr => by
                have q1 := take_all (Decidable.not_not.1 e5) hr
                have q2 := held_up (h := s.he) (n := amV t) (r := r) se.1
                show sumB (takeB s.pu t.fr t.iv.se (amV t)).1 r + updB s.he t.iv.se.toNat (s.he t.iv.se.toNat + amV t) r = _
                omega, rfl, rfl, rfl, rfl⟩, .inr (.inl ⟨_, rfl, rfl⟩)⟩
theorem open_at {o : Orc} {s : Es} {t : Tr} (h : (openE o s t).2 = 0) : ∃ x : Lk, s.lk[(openE o s t).1]? = some x ∧ x.st = 1 := by
  unfold openE at h ⊢
  cases hp : placeE s.lk (o.ke t.iv) with
  | none => rw [hp] at h; exact absurd h (by simp)
  | some i =>
    simp only [hp] at h ⊢
    cases hx : s.lk[i]? with
    | none => rw [hx] at h; exact absurd h (by simp)
    | some x =>
      simp only [hx] at h ⊢
      by_cases e1 : x.st ≠ 1
      · rw [if_pos e1] at h; exact absurd h (by simp)
      · rw [if_neg e1] at h ⊢
        by_cases e2 : x.dg ≠ o.dg t.iv t.vr
        · rw [if_pos e2] at h; exact absurd h (by simp)
        · rw [if_neg e2]
          exact ⟨x, hx, Decidable.not_not.1 e1⟩
theorem ful_step {o : Orc} {s : Es} {t : Tr} (hs : OkE s) (ht : errF t = 0) (h : (fulE o s t).2 = 0) : StepE s (fulE o s t).1 ∧ LkE s.lk (fulE o s t).1.lk := by
  obtain ⟨⟨_, _, _, se, re, _⟩, _, _⟩ := errF_all ht
  have hz := okE_he hs re.1 re.2
  unfold fulE at h ⊢
  by_cases e1 : (openE o s t).2 ≠ 0
  · rw [if_pos e1] at h; exact absurd h e1
  · rw [if_neg e1] at h ⊢
    obtain ⟨x, hx, hx1⟩ := open_at (Decidable.not_not.1 e1)
    by_cases e2 : t.vr.x ≤ s.tm
    · rw [if_pos e2] at h; exact absurd h (by simp)
    · rw [if_neg e2] at h ⊢
      by_cases e3 : ¬ feT t ≤ amV t
      · rw [if_pos e3] at h; exact absurd h (by simp)
      · rw [if_neg e3] at h ⊢
        by_cases e4 : o.sg t 1 = false
        · rw [if_pos e4] at h; exact absurd h (by simp)
        · rw [if_neg e4] at h ⊢
          by_cases e5 : s.sd = 1
          · rw [if_pos e5] at h ⊢
            by_cases e6 : (giveB s.pu t.iv.to t.iv.re (amV t - feT t)).2 ≠ 0 ∨ (giveB (giveB s.pu t.iv.to t.iv.re (amV t - feT t)).1 t.fr t.iv.re (feT t)).2 ≠ 0 ∨ ¬ amV t ≤ s.he t.iv.re.toNat
            · rw [if_pos e6] at h; exact absurd h (by simp)
            · rw [if_neg e6]
              have g1 : (giveB s.pu t.iv.to t.iv.re (amV t - feT t)).2 = 0 := Decidable.not_not.1 fun x => e6 (.inl x)
              have g2 : (giveB (giveB s.pu t.iv.to t.iv.re (amV t - feT t)).1 t.fr t.iv.re (feT t)).2 = 0 := Decidable.not_not.1 fun x => e6 (.inr (.inl x))
              have g3 : amV t ≤ s.he t.iv.re.toNat := Decidable.not_not.1 fun x => e6 (.inr (.inr x))
              have g4 : feT t ≤ amV t := Decidable.not_not.1 e3
              exact ⟨⟨⟨hs.t0, hs.t1, hs.d, okK_give (okK_give hs.p _ _ _) _ _ _, hs.v, he_upd hs.h _ _ (by omega), hs.b⟩, fun r hr => by
                have q1 := give_all g1 hr
                have q2 := give_all g2 hr
                have q3 := held_down (r := r) re.1 g3
                have q4 : ofA t.iv.re (amV t - feT t) r + ofA t.iv.re (feT t) r = ofA t.iv.re (amV t) r := by
                  unfold ofA; split <;> omega
                show sumB (giveB (giveB s.pu t.iv.to t.iv.re (amV t - feT t)).1 t.fr t.iv.re (feT t)).1 r + updB s.he t.iv.re.toNat (s.he t.iv.re.toNat - amV t) r = _
                omega, rfl, rfl, rfl, rfl⟩, .inr (.inr ⟨_, x, 2, hx, hx1, .inl rfl, rfl⟩)⟩
          · rw [if_neg e5] at h ⊢
            by_cases e6 : (giveB s.va t.iv.ro t.iv.se (amV t)).2 ≠ 0
            · rw [if_pos e6] at h; exact absurd h (by simp)
            · rw [if_neg e6]
              exact ⟨⟨⟨hs.t0, hs.t1, hs.d, hs.p, okK_give hs.v _ _ _, hs.h, hs.b⟩, fun r hr => rfl, rfl, rfl, rfl, rfl⟩, .inr (.inr ⟨_, x, 2, hx, hx1, .inl rfl, rfl⟩)⟩
theorem can_step {o : Orc} {s : Es} {t : Tr} (hs : OkE s) (ht : errF t = 0) (h : (canE o s t).2 = 0) : StepE s (canE o s t).1 ∧ LkE s.lk (canE o s t).1.lk := by
  obtain ⟨⟨_, _, _, se, re, _⟩, _, _⟩ := errF_all ht
  have hz := okE_he hs se.1 se.2
  unfold canE at h ⊢
  by_cases e1 : (openE o s t).2 ≠ 0
  · rw [if_pos e1] at h; exact absurd h e1
  · rw [if_neg e1] at h ⊢
    obtain ⟨x, hx, hx1⟩ := open_at (Decidable.not_not.1 e1)
    by_cases e2 : s.tm < t.vr.x ∧ s.sd = 1 ∧ o.sg t 2 = false
    · rw [if_pos e2] at h; exact absurd h (by simp)
    · rw [if_neg e2] at h ⊢
      by_cases e3 : s.tm < t.vr.x ∧ s.sd ≠ 1 ∧ t.fr ≠ t.iv.ro
      · rw [if_pos e3] at h; exact absurd h (by simp)
      · rw [if_neg e3] at h ⊢
        by_cases e5 : s.sd = 1
        · rw [if_pos e5] at h ⊢
          by_cases e6 : (giveB s.va t.iv.ro t.iv.re (amV t)).2 ≠ 0
          · rw [if_pos e6] at h; exact absurd h (by simp)
          · rw [if_neg e6]
            exact ⟨⟨⟨hs.t0, hs.t1, hs.d, hs.p, okK_give hs.v _ _ _, hs.h, hs.b⟩, fun r hr => rfl, rfl, rfl, rfl, rfl⟩, .inr (.inr ⟨_, x, 3, hx, hx1, .inr rfl, rfl⟩)⟩
        · rw [if_neg e5] at h ⊢
          by_cases e6 : (giveB s.pu t.iv.us t.iv.se (amV t)).2 ≠ 0 ∨ ¬ amV t ≤ s.he t.iv.se.toNat
          · rw [if_pos e6] at h; exact absurd h (by simp)
          · rw [if_neg e6]
            have g1 : (giveB s.pu t.iv.us t.iv.se (amV t)).2 = 0 := Decidable.not_not.1 fun x => e6 (.inl x)
            have g2 : amV t ≤ s.he t.iv.se.toNat := Decidable.not_not.1 fun x => e6 (.inr x)
            exact ⟨⟨⟨hs.t0, hs.t1, hs.d, okK_give hs.p _ _ _, hs.v, he_upd hs.h _ _ (by omega), hs.b⟩, fun r hr => by
              have q1 := give_all g1 hr
              have q3 := held_down (r := r) se.1 g2
              show sumB (giveB s.pu t.iv.us t.iv.se (amV t)).1 r + updB s.he t.iv.se.toNat (s.he t.iv.se.toNat - amV t) r = _
              omega, rfl, rfl, rfl, rfl⟩, .inr (.inr ⟨_, x, 3, hx, hx1, .inr rfl, rfl⟩)⟩
theorem done_step {o : Orc} {s : Es} {t : Tr} (hs : OkE s) (ht : errT t = 0) (h : (doneE o s t).2 = 0) : StepE s (doneE o s t).1 ∧ LkE s.lk (doneE o s t).1.lk := by
  obtain ⟨k, _, _, _, _, hf⟩ := errT_all ht
  unfold doneE at h ⊢
  by_cases k4 : t.kd = 4
  · rw [if_pos k4] at h ⊢; exact prep_step hs (hf (by omega)) h
  · rw [if_neg k4] at h ⊢
    by_cases k5 : t.kd = 5
    · rw [if_pos k5] at h ⊢; exact ful_step hs (hf (by omega)) h
    · rw [if_neg k5] at h ⊢
      by_cases k6 : t.kd = 6
      · rw [if_pos k6] at h ⊢; exact can_step hs (hf (by omega)) h
      · rw [if_neg k6] at h ⊢; exact plain_step hs ht h
def takenE (s : Es) (t : Tr) : Prop := errT t = 0 ∧ t.no = s.no t.fr.toNat ∧ 1 ≤ s.pu (2 * t.fr.toNat) ∧ s.bu + 1 < M4
theorem apply_no {o : Orc} {s : Es} {t : Tr} (h : (applyE o s t).2.2 = false) : (applyE o s t).1 = s ∧ (applyE o s t).2.1 ≠ 0 := by
  unfold applyE at h ⊢
  by_cases e1 : errT t ≠ 0
  · rw [if_pos e1]; exact ⟨rfl, e1⟩
  · rw [if_neg e1] at h ⊢
    by_cases e2 : t.no ≠ s.no t.fr.toNat
    · rw [if_pos e2]; exact ⟨rfl, by simp⟩
    · rw [if_neg e2] at h ⊢
      by_cases e3 : ¬ 1 ≤ s.pu (2 * t.fr.toNat) ∨ ¬ s.bu + 1 < M4
      · rw [if_pos e3]; exact ⟨rfl, by simp⟩
      · rw [if_neg e3] at h ⊢
        by_cases e4 : (doneE o (paidE s t) t).2 ≠ 0
        · rw [if_pos e4] at h; exact absurd h (by simp)
        · rw [if_neg e4] at h; exact absurd h (by simp)
theorem apply_yes {o : Orc} {s : Es} {t : Tr} (h : (applyE o s t).2.2 = true) : takenE s t ∧
    ((applyE o s t).2.1 ≠ 0 ∧ (applyE o s t).1 = paidE s t ∨ (applyE o s t).2.1 = 0 ∧ (doneE o (paidE s t) t).2 = 0 ∧ (applyE o s t).1 = (doneE o (paidE s t) t).1) := by
  unfold applyE at h ⊢
  by_cases e1 : errT t ≠ 0
  · rw [if_pos e1] at h; exact absurd h (by simp)
  · rw [if_neg e1] at h ⊢
    by_cases e2 : t.no ≠ s.no t.fr.toNat
    · rw [if_pos e2] at h; exact absurd h (by simp)
    · rw [if_neg e2] at h ⊢
      by_cases e3 : ¬ 1 ≤ s.pu (2 * t.fr.toNat) ∨ ¬ s.bu + 1 < M4
      · rw [if_pos e3] at h; exact absurd h (by simp)
      · rw [if_neg e3] at h ⊢
        refine ⟨⟨Decidable.not_not.1 e1, Decidable.not_not.1 e2, Decidable.not_not.1 fun x => e3 (.inl x), Decidable.not_not.1 fun x => e3 (.inr x)⟩, ?_⟩
        by_cases e4 : (doneE o (paidE s t) t).2 ≠ 0
        · rw [if_pos e4]; exact .inl ⟨e4, rfl⟩
        · rw [if_neg e4]; exact .inr ⟨rfl, Decidable.not_not.1 e4, rfl⟩
theorem paid_ok {s : Es} {t : Tr} (hs : OkE s) (h : takenE s t) : OkE (paidE s t) :=
  ⟨hs.t0, hs.t1, hs.d, okK_upd hs.p _ (by
    obtain ⟨_, fr, _⟩ := errT_all h.1
    have := hs.p (2 * t.fr.toNat) (by omega)
    omega), hs.v, hs.h, h.2.2.2⟩
theorem paid_sum {s : Es} {t : Tr} (h : takenE s t) {r : Nat} (hr : r < 2) : sumB (paidE s t).pu r + (if r = 0 then 1 else 0) = sumB s.pu r := by
  obtain ⟨_, fr, _⟩ := errT_all h.1
  have hc := h.2.2.1
  unfold paidE
  show sumB (updB s.pu (2 * t.fr.toNat) (s.pu (2 * t.fr.toNat) - 1)) r + _ = _
  by_cases e : r = 0
  · subst e
    have := sum_upd (b := s.pu) (a := t.fr.toNat) (s := 0) (s.pu (2 * t.fr.toNat) - 1) (by omega)
    rw [Nat.add_zero] at this
    rw [if_pos rfl]
    omega
  · have := sum_other (b := s.pu) (a := t.fr.toNat) (s := 0) (r := r) (s.pu (2 * t.fr.toNat) - 1) (by omega) hr e
    rw [Nat.add_zero] at this
    rw [if_neg e, this, Nat.add_zero]
def sumE (s : Es) (r : Nat) : Nat := sumB s.pu r + s.he r + if r = 0 then s.bu else 0
theorem apply_ok {o : Orc} {s : Es} {t : Tr} (hs : OkE s) : OkE (applyE o s t).1 ∧ (∀ r, r < 2 → sumE (applyE o s t).1 r = sumE s r) ∧ (applyE o s t).1.sd = s.sd ∧ (applyE o s t).1.tm = s.tm ∧ LkE s.lk (applyE o s t).1.lk := by
  cases h : (applyE o s t).2.2 with
  | false =>
    rw [(apply_no h).1]
    exact ⟨hs, fun _ _ => rfl, rfl, rfl, .inl rfl⟩
  | true =>
    obtain ⟨ht, h1 | h1⟩ := apply_yes h
    · rw [h1.2]
      refine ⟨paid_ok hs ht, fun r hr => ?_, rfl, rfl, .inl rfl⟩
      have := paid_sum ht hr
      unfold sumE
      show sumB (paidE s t).pu r + s.he r + (if r = 0 then s.bu + 1 else 0) = _
      split at this <;> simp_all <;> omega
    · rw [h1.2.2]
      obtain ⟨st, lk⟩ := done_step (paid_ok hs ht) ht.1 h1.2.1
      refine ⟨st.ok, fun r hr => ?_, st.sd, st.tm, lk⟩
      have q1 := paid_sum ht hr
      have q2 := st.su r hr
      have q3 : (paidE s t).he = s.he := rfl
      have q4 : (paidE s t).bu = s.bu + 1 := rfl
      unfold sumE
      rw [st.bu, q4]
      rw [q3] at q2
      split at q1 <;> simp_all <;> omega
theorem gen_ok (a z : Int) : OkE (genE a z) := by
  have h0 : (0 : Nat) < M4 := by unfold M4 M; decide
  have h1 : (1000 : Nat) < M4 := by unfold M4 M; decide
  refine ⟨?_, ?_, ?_, fun _ _ => h1, fun _ _ => h0, ⟨h0, h0⟩, h0⟩
  · show 0 ≤ (if z < 0 then 0 else if 1099511627776 < z then 1099511627776 else z)
    split
    · exact Int.le_refl _
    · split <;> omega
  · show (if z < 0 then 0 else if 1099511627776 < z then 1099511627776 else z) ≤ 1099511627776
    split
    · omega
    · split <;> omega
  · show (if a ≤ 0 then (0 : Int) else 1) = 0 ∨ (if a ≤ 0 then (0 : Int) else 1) = 1
    split
    · exact .inl rfl
    · exact .inr rfl
end Go.Proofs.YtfoemkmoambagaaGreat
namespace Go.Proofs.YtfoemkmoambagaaGreat
open Go.RowKit Go.Shelf
theorem Mem.sub {w W : World} {row : Option Nat} {l l' : List MB} (h : Mem w row l W) (hs : l'.Sublist l) : Mem w row l' W := ⟨fun x hx => h.1 x (hs.mem hx), h.2.1.sublist hs, h.2.2⟩
section
variable {W : World} {B : Nat} {T : TypeId} {s : Es} {v : Value}
theorem ld_no (h : Blk W B T (stc s v)) {i : Nat} (hi : i < 8) : (Instr.loadAt 3 (.pointer (some ⟨B, 130 + i, none⟩))).run Tryz.prog W = .ok (.int .i64 (s.no i)) W := ld_int h (130 + i) (st_noS s v hi)
theorem ld_heO (h : Blk W B T (stc s v)) {a : Nat} (ha : a < 2) : (Instr.loadAt 28 (.pointer (some ⟨B, 138 + a * 4, none⟩))).run Tryz.prog W = .ok (wn (s.he a)) W := ld_he h ha (by omega)
theorem sto_part {vs : List Value} (us : List Value) (h : Blk W B T vs) (o : Nat) (ty : TypeId) (x : Value) (ns : List Value) (hx : x.cells.toList = ns) (hi : (Tryz.prog.info? ty).map (·.size) = some ns.length) (hle : o + ns.length ≤ vs.length) (h1 : ns.all (·.oneCell') = true) (hl : laid vs o ns = us) :
    (Instr.storeAt ty (.pointer (some ⟨B, o, none⟩)) x).run Tryz.prog W = .ok () (W.setRow B us.toArray) := by
  subst hx; subst hl
  exact run_store_part h o x ty (by simpa using hi) (by simpa using hle) (by rw [← Array.all_toList]; exact h1)
theorem laid_one (vs : List Value) (o : Nat) (v : Value) (h : o < vs.length) : laid vs o [v] = vs.set o v := by
  unfold laid
  rw [List.set_eq_take_append_cons_drop, if_pos h, List.length_singleton, List.append_assoc]
  rfl
theorem sto_pu (h : Blk W B T (stc s v)) (b : Bk) : (Instr.storeAt 31 (.pointer (some ⟨B, 2, none⟩)) (bkv b)).run Tryz.prog W = .ok () (W.setRow B (stc { s with pu := b } v).toArray) :=
  sto_part _ h 2 _ _ (bkc b) rfl (by rw [bkc_len]; exact info_book) (by rw [bkc_len, stc_len]; omega) (one_book b) (set_pu s v b)
theorem sto_va (h : Blk W B T (stc s v)) (b : Bk) : (Instr.storeAt 31 (.pointer (some ⟨B, 66, none⟩)) (bkv b)).run Tryz.prog W = .ok () (W.setRow B (stc { s with va := b } v).toArray) :=
  sto_part _ h 66 _ _ (bkc b) rfl (by rw [bkc_len]; exact info_book) (by rw [bkc_len, stc_len]; omega) (one_book b) (set_va s v b)
theorem sto_he (h : Blk W B T (stc s v)) {a : Nat} (ha : a < 2) (n : Nat) : (Instr.storeAt 28 (.pointer (some ⟨B, 138 + a * 4, none⟩)) (wn n)).run Tryz.prog W = .ok () (W.setRow B (stc { s with he := updB s.he a n } v).toArray) :=
  sto_part _ h (138 + a * 4) _ _ (ws (nw n)) rfl (by rw [ws_len]; exact info_wide) (by rw [ws_len, stc_len]; omega) rfl (set_heO s v n ha (by omega))
theorem sto_bu (h : Blk W B T (stc s v)) (n : Nat) : (Instr.storeAt 28 (.pointer (some ⟨B, 146, none⟩)) (wn n)).run Tryz.prog W = .ok () (W.setRow B (stc { s with bu := n } v).toArray) :=
  sto_part _ h 146 _ _ (ws (nw n)) rfl (by rw [ws_len]; exact info_wide) (by rw [ws_len, stc_len]; omega) rfl (set_bu s v n)
theorem sto_no (h : Blk W B T (stc s v)) {i : Nat} (hi : i < 8) (z : Int) : (Instr.storeAt 3 (.pointer (some ⟨B, 130 + i, none⟩)) (.int .i64 z)).run Tryz.prog W = .ok () (W.setRow B (stc { s with no := updNo s.no i z } v).toArray) :=
  sto_part _ h (130 + i) _ _ [.int .i64 z] rfl (by kernel_rfl) (by rw [stc_len]; simp; omega) rfl (by rw [laid_one _ _ _ (by rw [stc_len]; omega)]; exact set_noS s v z hi)
theorem sto_tm (h : Blk W B T (stc s v)) (z : Int) : (Instr.storeAt 3 (.pointer (some ⟨B, 1, none⟩)) (.int .i64 z)).run Tryz.prog W = .ok () (W.setRow B (stc { s with tm := z } v).toArray) :=
  sto_part _ h 1 _ _ [.int .i64 z] rfl (by kernel_rfl) (by rw [stc_len]; simp) rfl (by rw [laid_one _ _ _ (by rw [stc_len]; omega)]; exact set_tm s v z)
theorem sto_lk (h : Blk W B T (stc s v)) {u : Value} (hu : u.oneCell' = true) (hc : u.cells.toList = [u]) : (Instr.storeAt 33 (.pointer (some ⟨B, 150, none⟩)) u).run Tryz.prog W = .ok () (W.setRow B (stc s u).toArray) :=
  sto_part _ h 150 _ _ [u] hc (by kernel_rfl) (by rw [stc_len]; simp) (by simp [hu]) (by rw [laid_one _ _ _ (by rw [stc_len]; omega)]; exact set_lk s v u)
theorem sto_st {vs : List Value} (h : Blk W B T vs) (hv : vs.length = 151) (s : Es) {u : Value} (hu : u.oneCell' = true) : (Instr.storeAt 35 (.pointer (some ⟨B, 0, none⟩)) (stv s u)).run Tryz.prog W = .ok () (W.setRow B (stc s u).toArray) :=
  sto_part _ h 0 _ _ (stc s u) rfl (by rw [stc_len]; exact info_st) (by rw [stc_len, hv]; exact Nat.le_refl _) (stc_one s u hu) (by unfold laid; rw [List.take_zero, List.nil_append, List.drop_of_length_le (by rw [stc_len, hv]; exact Nat.le_refl _), List.append_nil])
theorem sto_wn {m : Nat} (h : Blk W B T (ws (nw m))) (n : Nat) : (Instr.storeAt 28 (.pointer (some ⟨B, 0, none⟩)) (wn n)).run Tryz.prog W = .ok () (W.setRow B (ws (nw n)).toArray) :=
  sto_part _ h 0 _ _ (ws (nw n)) rfl (by rw [ws_len]; exact info_wide) (Nat.le_refl _) rfl (row_wn n m)
theorem sto_bk {c : Bk} (h : Blk W B T (bkc c)) (b : Bk) : (Instr.storeAt 31 (.pointer (some ⟨B, 0, none⟩)) (bkv b)).run Tryz.prog W = .ok () (W.setRow B (bkc b).toArray) :=
  sto_part _ h 0 _ _ (bkc b) rfl (by rw [bkc_len]; exact info_book) (by rw [bkc_len, bkc_len]; exact Nat.le_refl _) (one_book b) (row_book b (bkc_len c))
end
section
variable {W : World} {B : Nat} {T : TypeId} {t : Tr}
theorem wn_am (h : OkT t) : wv t.a0 t.a1 t.a2 t.a3 = wn (amT t) := wn_of h.a rfl
theorem wn_av (h : OkT t) : wv t.vr.a0 t.vr.a1 t.vr.a2 t.vr.a3 = wn (amV t) := wn_of h.v rfl
theorem wn_fe (h : OkT t) : wv t.f0 t.f1 t.f2 t.f3 = wn (feT t) := wn_of h.f rfl
theorem ld_am (h : Blk W B T (txc t)) (ht : OkT t) : (Instr.loadAt 28 (.pointer (some ⟨B, 4, none⟩))).run Tryz.prog W = .ok (wn (amT t)) W := by
  rw [← wn_am ht]; exact load_part h 4 [.int .u64 (t.a0 : Nat), .int .u64 (t.a1 : Nat), .int .u64 (t.a2 : Nat), .int .u64 (t.a3 : Nat)] rfl _ _ Tryz.underlying28 rfl (by kernel_rfl)
theorem ld_av (h : Blk W B T (txc t)) (ht : OkT t) : (Instr.loadAt 28 (.pointer (some ⟨B, 15, none⟩))).run Tryz.prog W = .ok (wn (amV t)) W := by
  rw [← wn_av ht]; exact load_part h 15 [.int .u64 (t.vr.a0 : Nat), .int .u64 (t.vr.a1 : Nat), .int .u64 (t.vr.a2 : Nat), .int .u64 (t.vr.a3 : Nat)] rfl _ _ Tryz.underlying28 rfl (by kernel_rfl)
theorem ld_fe (h : Blk W B T (txc t)) (ht : OkT t) : (Instr.loadAt 28 (.pointer (some ⟨B, 20, none⟩))).run Tryz.prog W = .ok (wn (feT t)) W := by
  rw [← wn_fe ht]; exact load_part h 20 [.int .u64 (t.f0 : Nat), .int .u64 (t.f1 : Nat), .int .u64 (t.f2 : Nat), .int .u64 (t.f3 : Nat)] rfl _ _ Tryz.underlying28 rfl (by kernel_rfl)
theorem ld_iv (h : Blk W B T (txc t)) : (Instr.loadAt 40 (.pointer (some ⟨B, 8, none⟩))).run Tryz.prog W = .ok (ivv t.iv) W := load_part h 8 (ivc t.iv) rfl _ _ Tryz.underlying40 rfl (by kernel_rfl)
theorem ld_vr (h : Blk W B T (txc t)) : (Instr.loadAt 42 (.pointer (some ⟨B, 15, none⟩))).run Tryz.prog W = .ok (svv t.vr) W := load_part h 15 (svc t.vr) rfl _ _ Tryz.underlying42 rfl (by kernel_rfl)
theorem ld_tx (h : Blk W B T (txc t)) : (Instr.loadAt 44 (.pointer (some ⟨B, 0, none⟩))).run Tryz.prog W = .ok (txv t) W := load_part h 0 (txc t) rfl _ _ Tryz.underlying44 rfl (by kernel_rfl)
end
theorem idx_arr {W : World} {ty : TypeId} {n e c : Nat} (hu : Tryz.prog.underlying ty = some (.array n e)) (hs : (sizeOf e).run Tryz.prog W = .ok c W) {B o : Nat} {k : Nat} (hk : k < n) :
    (Instr.indexAt ty (.pointer (some ⟨B, o, none⟩)) (.int .i64 (k : Int))).run Tryz.prog W = .ok (.pointer (some ⟨B, o + k * c, none⟩)) W := by
  have h1 : (0 : Int) ≤ (k : Int) ∧ (k : Int) < n := ⟨by omega, by omega⟩
  simp [Instr.indexAt, run_underlying hu, asIntOf, h1, hs, go_sem]
  intro h
  omega
theorem idx_no {W : World} {B o k : Nat} (hk : k < 8) : (Instr.indexAt 32 (.pointer (some ⟨B, o, none⟩)) (.int .i64 (k : Int))).run Tryz.prog W = .ok (.pointer (some ⟨B, o + k, none⟩)) W := by
  have h := idx_arr (W := W) (B := B) (o := o) (c := 1) Tryz.underlying32 (by kernel_rfl) hk
  rw [Nat.mul_one] at h; exact h
theorem idx_he {W : World} {B o k : Nat} (hk : k < 2) : (Instr.indexAt 29 (.pointer (some ⟨B, o, none⟩)) (.int .i64 (k : Int))).run Tryz.prog W = .ok (.pointer (some ⟨B, o + k * 4, none⟩)) W :=
  idx_arr Tryz.underlying29 (by kernel_rfl) hk
theorem idx_noI {W : World} {B o : Nat} {z : Int} (h : 0 ≤ z ∧ z ≤ 7) : (Instr.indexAt 32 (.pointer (some ⟨B, o, none⟩)) (.int .i64 z)).run Tryz.prog W = .ok (.pointer (some ⟨B, o + z.toNat, none⟩)) W := by
  obtain ⟨k, rfl⟩ : ∃ k : Nat, z = k := ⟨z.toNat, by omega⟩
  exact idx_no (by omega)
def BlkN (W : World) (B : Nat) : Prop := ∃ vs : List Value, vs.length = 151 ∧ Blk W B 35 vs
theorem BlkN.of {W : World} {B : Nat} {s : Es} {v : Value} (h : Blk W B 35 (stc s v)) : BlkN W B := ⟨_, stc_len s v, h⟩
def EndE (w : World) (B : Nat) (v : Value) (p : Es × Int) (e : Ending) (W' : World) : Prop :=
  w.grownBy W' (some B) ∧ ((p.2 = 0 ∧ e = .returned (.tuple #[]) ∧ Blk W' B 35 (stc p.1 v)) ∨ (p.2 ≠ 0 ∧ Pan p.2 e ∧ BlkN W' B))
theorem grownBy_trans {w W W' : World} {row : Option Nat} (h : w.grownBy W row) (h' : W.grownBy W' row) : w.grownBy W' row :=
  ⟨h'.os.trans h.os, h'.tape.trans h.tape, h'.output.trans h.output, Nat.le_trans h.size h'.size, fun k hk hr => (h'.block k (Nat.lt_of_lt_of_le hk h.size) hr).trans (h.block k hk hr)⟩
theorem EndE.fail {w W W' : World} {B : Nat} {v : Value} {p q : Es × Int} {e : Ending} (hg : w.grownBy W (some B)) (h : EndE W B v q e W') (hq : q.2 ≠ 0) (hp : p.2 = q.2) : EndE w B v p e W' := by
  obtain ⟨h1, h2⟩ := h
  refine ⟨grownBy_trans hg h1, .inr ?_⟩
  rw [hp]
  rcases h2 with ⟨h0, _⟩ | h2
  · exact absurd h0 hq
  · exact h2
theorem EndE.last {w W W' : World} {B : Nat} {v : Value} {p q : Es × Int} {e : Ending} (hg : w.grownBy W (some B)) (h : EndE W B v q e W') (hp : p = q) : EndE w B v p e W' := by
  subst hp
  exact ⟨grownBy_trans hg h.1, h.2⟩
theorem EndE.pan {w W : World} {B : Nat} {v : Value} {p : Es × Int} {e : Ending} {c : Int} (hg : w.grownBy W (some B)) (hc : c ≠ 0) (hp : p.2 = c) (he : Pan c e) (hB : BlkN W B) : EndE w B v p e W := ⟨hg, .inr ⟨by rw [hp]; exact hc, by rw [hp]; exact he, hB⟩⟩
theorem EndE.ok {w W : World} {B : Nat} {v : Value} {p : Es × Int} {s : Es} (hg : w.grownBy W (some B)) (hp : p = (s, 0)) (hB : Blk W B 35 (stc s v)) : EndE w B v p (.returned (.tuple #[])) W := by
  subst hp
  exact ⟨hg, .inl ⟨rfl, rfl, hB⟩⟩
theorem EndE.two {w W : World} {B : Nat} {v : Value} {p : Es × Int} {e : Ending} (h : EndE w B v p e W) : (p.2 = 0 ∧ e = .returned (.tuple #[]) ∧ w.grownBy W (some B) ∧ Blk W B 35 (stc p.1 v)) ∨ (p.2 ≠ 0 ∧ e = .panicked [{ v := .iface 103 (.int .i64 p.2), recovered := false }] ∧ EndE w B v p e W) := by
  rcases h.2 with ⟨h0, he, hB⟩ | ⟨h0, he, _⟩
  · exact .inl ⟨h0, he, h.1, hB⟩
  · exact .inr ⟨h0, he, h⟩
theorem must_two (b : Bk) (c : Int) (w : World) : Calls Tryz.prog 60 #[bkv b, .int .i64 c] w fun e W' => (c = 0 ∧ e = .returned (bkv b) ∧ Below w.heap.size w W') ∨ (c ≠ 0 ∧ e = .panicked [{ v := .iface 103 (.int .i64 c), recovered := false }] ∧ Below w.heap.size w W') :=
  (must_any b c w).mono fun e W' h => by
    rcases h with ⟨⟨h1, h2⟩ | ⟨h1, h2⟩, h3⟩
    · exact .inl ⟨h1, h2, h3⟩
    · exact .inr ⟨h1, h2, h3⟩
theorem demand_any (b : Bool) (c : Int) (w : World) : Calls Tryz.prog 57 #[.bool b, .int .i64 c] w fun e W' => (b = true ∧ e = .returned (.tuple #[]) ∧ W' = w) ∨ (b = false ∧ e = .panicked [{ v := .iface 103 (.int .i64 c), recovered := false }] ∧ W' = w) := by
  cases b
  · exact (demand_no c w).mono fun e W' h => .inr ⟨rfl, h.1, h.2⟩
  · exact (demand_yes c w).mono fun e W' h => .inl ⟨rfl, h.1, h.2⟩
end Go.Proofs.YtfoemkmoambagaaGreat
namespace Go.Proofs.YtfoemkmoambagaaGreat
open Go.RowKit Go.Shelf
theorem place_some {l : List Lk} {k : ByteArray} {i : Nat} (h : placeE l k = some i) : i < l.length ∧ (∃ x : Lk, l[i]? = some x ∧ x.ke = k) ∧ ∀ (j : Nat) (y : Lk), j < i → l[j]? = some y → y.ke ≠ k := by
  unfold placeE at h
  obtain ⟨hi, h1, h2⟩ := List.findIdx?_eq_some_iff_getElem.1 h
  refine ⟨hi, ⟨_, List.getElem?_eq_getElem hi, of_decide_eq_true h1⟩, fun j y hj hy => ?_⟩
  obtain ⟨hjl, rfl⟩ := List.getElem?_eq_some_iff.1 hy
  have := h2 j hj
  exact fun e => this (decide_eq_true e)
theorem place_none {l : List Lk} {k : ByteArray} (h : placeE l k = none) : ∀ (j : Nat) (y : Lk), l[j]? = some y → y.ke ≠ k := by
  unfold placeE at h
  intro j y hy
  have := List.findIdx?_eq_none_iff.1 h y (List.mem_of_getElem? hy)
  exact of_decide_eq_false this
theorem place_at {l : List Lk} {k : ByteArray} {i : Nat} {x : Lk} (hx : l[i]? = some x) (hk : x.ke = k) (h : ∀ (j : Nat) (y : Lk), j < i → l[j]? = some y → y.ke ≠ k) : placeE l k = some i := by
  cases hp : placeE l k with
  | none => exact absurd hk (place_none hp i x hx)
  | some j =>
    obtain ⟨_, ⟨y, hy, hky⟩, hl⟩ := place_some hp
    rcases Nat.lt_trichotomy j i with hlt | heq | hgt
    · exact absurd hky (h j y hlt hy)
    · rw [heq]
    · exact absurd hk (hl i x hgt hx)
theorem place_not {l : List Lk} {k : ByteArray} (h : ∀ (j : Nat) (y : Lk), l[j]? = some y → y.ke ≠ k) : placeE l k = none := by
  cases hp : placeE l k with
  | none => rfl
  | some i =>
    obtain ⟨_, ⟨y, hy, hky⟩, _⟩ := place_some hp
    exact absurd hky (h i y hy)
theorem end_len (l : List Lk) (i : Nat) (st : Int) : (endE l i st).length = l.length := by unfold endE; rw [List.length_modify]
theorem end_at {l : List Lk} {i : Nat} {x : Lk} (h : l[i]? = some x) (st : Int) : endE l i st = l.set i { x with st := st } := by
  unfold endE
  apply List.ext_getElem?
  intro j
  rw [List.getElem?_modify, List.getElem?_set]
  by_cases e : i = j
  · subst e
    obtain ⟨hl, rfl⟩ := List.getElem?_eq_some_iff.1 h
    simp [hl]
  · simp [e]
theorem lk_stays {l l' : List Lk} (h : LkE l l') : l.length ≤ l'.length ∧ l'.length ≤ l.length + 1 ∧ ∀ (i : Nat) (x : Lk), l[i]? = some x → ∃ y : Lk, l'[i]? = some y ∧ y.ke = x.ke ∧ y.dg = x.dg ∧ (y.st = x.st ∨ x.st = 1) := by
  rcases h with rfl | ⟨z, _, rfl⟩ | ⟨j, z, st, hz, hz1, _, rfl⟩
  · exact ⟨Nat.le_refl _, Nat.le_add_right _ _, fun i x hx => ⟨x, hx, rfl, rfl, .inl rfl⟩⟩
  · refine ⟨by simp, by simp, fun i x hx => ⟨x, ?_, rfl, rfl, .inl rfl⟩⟩
    rw [List.getElem?_append_left (List.getElem?_eq_some_iff.1 hx).1]
    exact hx
  · refine ⟨by rw [end_len]; exact Nat.le_refl _, by rw [end_len]; omega, fun i x hx => ?_⟩
    rw [end_at hz]
    by_cases e : j = i
    · subst e
      obtain rfl : z = x := by rw [hz] at hx; exact Option.some.inj hx
      exact ⟨{ z with st := st }, by rw [List.getElem?_set_self (List.getElem?_eq_some_iff.1 hx).1], rfl, rfl, .inr hz1⟩
    · exact ⟨x, by rw [List.getElem?_set_ne e]; exact hx, rfl, rfl, .inl rfl⟩
end Go.Proofs.YtfoemkmoambagaaGreat
namespace Go.Proofs.YtfoemkmoambagaaGreat
open Go.RowKit Go.Shelf
abbrev iv (x : Int) : Value := .int .i64 x
abbrev tv (s : ByteArray) : Value := .string s
def Row (W : World) (b off : Nat) (vs : List Value) : Prop := ∀ k v, vs[k]? = some v → W.cell? ⟨b, off + k, none⟩ = some v
theorem Row.below {W W' : World} {n b off : Nat} {vs : List Value} (h : Row W b off vs) (hb : Below n W W') (hlt : b < n) : Row W' b off vs := fun k x hx => (hb.cell (p := ⟨b, _, none⟩) hlt).trans (h k x hx)
theorem Row.kept {W W' : World} {row : Option Nat} {b off : Nat} {vs : List Value} (h : Row W b off vs) (hb : b < W.heap.size) (hg : W.grownBy W' row) (hne : some b ≠ row) : Row W' b off vs := fun k x hx =>
  (World.cell?_of_block (a := ⟨b, _, none⟩) (hg.block b hb hne)).trans (h k x hx)
theorem Row.own {W W' : World} {row : Option Nat} {b off : Nat} {vs : List Value} (h : Row W b off vs) (hb : b < W.heap.size) (hg : W.grownBy W' row) (hr : ∀ r, row = some r → ∃ o : Obj, W.heap[r]? = some o ∧ o.isCells = false) : Row W' b off vs := fun k x hx => by
  have hc := h k x hx
  refine (World.cell?_of_block (a := ⟨b, _, none⟩) (hg.block b hb (fun e => ?_))).trans hc
  obtain ⟨o, ho, hoc⟩ := hr b e.symm
  simp only [World.cell?, ho] at hc
  cases o <;> first | (cases hoc; done) | (simp at hc)
def VSl (lo hi : Nat) (W : World) (sv : Value) (vs : List Value) : Prop :=
  ∃ a cap, sv = .slice a vs.length cap ∧ vs.length ≤ cap ∧ (vs = [] ∨ ∃ b off, a = some ⟨b, off, none⟩ ∧ lo ≤ b ∧ b < hi ∧ Row W b off vs)
theorem VSl.mono {lo hi lo' hi' : Nat} {W : World} {sv : Value} {vs : List Value} (h : VSl lo hi W sv vs) (h1 : lo' ≤ lo) (h2 : hi ≤ hi') : VSl lo' hi' W sv vs := by
  obtain ⟨a, cap, e, hc, h0 | ⟨b, off, ha, hl, hh, ho⟩⟩ := h
  · exact ⟨a, cap, e, hc, .inl h0⟩
  · exact ⟨a, cap, e, hc, .inr ⟨b, off, ha, by omega, by omega, ho⟩⟩
theorem VSl.below {lo hi m : Nat} {W W' : World} {sv : Value} {vs : List Value} (h : VSl lo hi W sv vs) (hb : Below m W W') (hm : hi ≤ m) : VSl lo hi W' sv vs := by
  obtain ⟨a, cap, e, hc, h0 | ⟨b, off, ha, hl, hh, ho⟩⟩ := h
  · exact ⟨a, cap, e, hc, .inl h0⟩
  · exact ⟨a, cap, e, hc, .inr ⟨b, off, ha, hl, hh, ho.below hb (by omega)⟩⟩
theorem VSl.nil (lo hi : Nat) (W : World) : VSl lo hi W (.slice none 0 0) [] := ⟨none, 0, rfl, Nat.le_refl _, .inl rfl⟩
theorem VSl.of_own {W : World} {lo : Nat} {e : TypeId} {v : Value} {vs : List Value} (h : W.ownsRow lo e 1 v vs.length vs) : VSl lo W.heap.size W v vs := by
  rcases Nat.eq_zero_or_pos vs.length with h0 | h0
  · have hl : vs = [] := List.eq_nil_of_length_eq_zero h0
    subst hl
    rcases h.2 with ⟨rfl, _⟩ | ⟨g, cap, cur, rfl, _, _, hnc, _⟩
    · exact VSl.nil _ _ _
    · exact ⟨_, cap, rfl, hnc, .inl rfl⟩
  · obtain ⟨hl, ⟨_, h1⟩ | ⟨g, cap, cur, rfl, hg, hb, hnc, hcm, hsz, htake⟩⟩ := h
    · omega
    · refine ⟨_, cap, rfl, hnc, .inr ⟨g, 0, rfl, hg, (Array.getElem?_eq_some_iff.1 hb).1, fun k x hk => ?_⟩⟩
      have hkl : k < vs.length := (List.getElem?_eq_some_iff.1 hk).1
      have e' : cur[k]? = (cur.toList.take (vs.length * 1))[k]? := by
        rw [List.getElem?_take_of_lt (by omega)]
        simp
      simp only [World.cell?, hb, Nat.zero_add]
      rw [show (if (none : Option Nat).isSome = true then (none : Option Value) else cur[k]?) = cur[k]? from rfl, e', htake]
      exact hk
theorem VSl.slice {lo hi : Nat} {W : World} {sv : Value} {vs : List Value} (h : VSl lo hi W sv vs) : ∃ a c, sv = .slice a vs.length c := by
  obtain ⟨a, c, e, _⟩ := h
  exact ⟨a, c, e⟩
theorem own_ne {W : World} {base : Nat} {e t : TypeId} {v x : Value} {n : Nat} {xs : List Value} {B : Nat} (h : W.ownsRow base e 1 v n xs) (hb : Boxed W B t x) (hne : B < base ∨ 2 ≤ n) : some B ≠ v.ownBlock := fun e' => by
  rcases h.2 with ⟨rfl, _⟩ | ⟨g, cap, cur, rfl, hg, hc, hnc, _, hsz, _⟩
  · simp [Value.ownBlock] at e'
  · obtain rfl : B = g := by simpa [Value.ownBlock] using e'
    rw [show W.heap[B]? = _ from hb] at hc
    cases hc
    simp at hsz
    omega
end Go.Proofs.YtfoemkmoambagaaGreat
namespace Go.Proofs.YtfoemkmoambagaaGreat
open Go.RowKit Go.Shelf
section
variable {α : Type} {f : α → List Value} {n : Nat}
def flatR (f : α → List Value) (l : List α) : List Value := l.flatMap f
theorem flat_nil : flatR f [] = [] := rfl
theorem flat_cons (x : α) (l : List α) : flatR f (x :: l) = f x ++ flatR f l := rfl
theorem flat_app (l m : List α) : flatR f (l ++ m) = flatR f l ++ flatR f m := List.flatMap_append
theorem flat_one (x : α) : flatR f [x] = f x := by rw [flat_cons, flat_nil, List.append_nil]
theorem flat_len (hn : ∀ x, (f x).length = n) (l : List α) : (flatR f l).length = l.length * n := by
  induction l with
  | nil => simp [flatR]
  | cons x l ih => rw [flat_cons, List.length_append, ih, hn, List.length_cons, Nat.succ_mul]; omega
theorem flat_drop (hn : ∀ x, (f x).length = n) (l : List α) (k : Nat) : (flatR f l).drop (k * n) = flatR f (l.drop k) := by
  induction l generalizing k with
  | nil => simp [flatR]
  | cons x l ih =>
    cases k with
    | zero => simp
    | succ k => rw [flat_cons, Nat.succ_mul, Nat.add_comm, ← List.drop_drop, List.drop_left' (hn x), ih, List.drop_succ_cons]
theorem flat_at (hn : ∀ x, (f x).length = n) {l : List α} {k : Nat} {x : α} (hx : l[k]? = some x) : ((flatR f l).drop (k * n)).take n = f x := by
  obtain ⟨hk, rfl⟩ := List.getElem?_eq_some_iff.1 hx
  rw [flat_drop hn, ← List.getElem_cons_drop hk, flat_cons, List.take_left' (hn _)]
theorem flat_cell (hn : ∀ x, (f x).length = n) {l : List α} {k j : Nat} {x : α} (hx : l[k]? = some x) (hj : j < n) : (flatR f l)[k * n + j]? = (f x)[j]? := by
  rw [← flat_at hn hx, List.getElem?_take_of_lt hj, List.getElem?_drop]
theorem flat_set (hn : ∀ x, (f x).length = n) {l : List α} {k j : Nat} {x y : α} {v : Value} (hx : l[k]? = some x) (hj : j < n) (hy : f y = (f x).set j v) : (flatR f l).set (k * n + j) v = flatR f (l.set k y) := by
  induction l generalizing k with
  | nil => simp at hx
  | cons z l ih =>
    cases k with
    | zero =>
      obtain rfl : z = x := by simpa using hx
      rw [Nat.zero_mul, Nat.zero_add, flat_cons, List.set_cons_zero, flat_cons, hy, List.set_append_left _ _ (by rw [hn]; exact hj)]
    | succ k =>
      rw [flat_cons, List.set_cons_succ, flat_cons, ← ih (by simpa using hx), List.set_append_right _ _ (by rw [hn, Nat.succ_mul]; omega), hn]
      congr 2
      rw [Nat.succ_mul]
      omega
def RSl (f : α → List Value) (lo hi : Nat) (W : World) (sv : Value) (l : List α) : Prop :=
  ∃ a cap, sv = .slice a l.length cap ∧ l.length ≤ cap ∧ cap ≤ maxLen ∧ (l = [] ∨ ∃ b off, a = some ⟨b, off, none⟩ ∧ lo ≤ b ∧ b < hi ∧ Row W b off (flatR f l))
theorem RSl.mono {lo hi lo' hi' : Nat} {W : World} {sv : Value} {l : List α} (h : RSl f lo hi W sv l) (h1 : lo' ≤ lo) (h2 : hi ≤ hi') : RSl f lo' hi' W sv l := by
  obtain ⟨a, cap, e, hc, hm, h0 | ⟨b, off, ha, hl, hh, ho⟩⟩ := h
  · exact ⟨a, cap, e, hc, hm, .inl h0⟩
  · exact ⟨a, cap, e, hc, hm, .inr ⟨b, off, ha, by omega, by omega, ho⟩⟩
theorem RSl.below {lo hi m : Nat} {W W' : World} {sv : Value} {l : List α} (h : RSl f lo hi W sv l) (hb : Below m W W') (hm : hi ≤ m) : RSl f lo hi W' sv l := by
  obtain ⟨a, cap, e, hc, hx, h0 | ⟨b, off, ha, hl, hh, ho⟩⟩ := h
  · exact ⟨a, cap, e, hc, hx, .inl h0⟩
  · exact ⟨a, cap, e, hc, hx, .inr ⟨b, off, ha, hl, hh, ho.below hb (by omega)⟩⟩
theorem RSl.up {W W' : World} {sv : Value} {l : List α} (h : RSl f 0 W.heap.size W sv l) (hb : Below W.heap.size W W') : RSl f 0 W'.heap.size W' sv l := (h.below hb (Nat.le_refl _)).mono (Nat.le_refl _) hb.size
theorem RSl.kept {lo hi : Nat} {W W' : World} {row : Option Nat} {sv : Value} {l : List α} (h : RSl f lo hi W sv l) (hi' : hi ≤ W.heap.size) (hg : W.grownBy W' row) (hne : ∀ r, row = some r → r < lo ∨ hi ≤ r) : RSl f lo hi W' sv l := by
  obtain ⟨a, cap, e, hc, hx, h0 | ⟨b, off, ha, hl, hh, ho⟩⟩ := h
  · exact ⟨a, cap, e, hc, hx, .inl h0⟩
  · exact ⟨a, cap, e, hc, hx, .inr ⟨b, off, ha, hl, hh, ho.kept (by omega) hg (fun e => by have := hne b e.symm; omega)⟩⟩
theorem RSl.nil (lo hi : Nat) (W : World) : RSl f lo hi W (.slice none 0 0) [] := ⟨none, 0, rfl, Nat.le_refl _, Nat.zero_le _, .inl rfl⟩
theorem RSl.slice {lo hi : Nat} {W : World} {sv : Value} {l : List α} (h : RSl f lo hi W sv l) : ∃ a c, sv = .slice a l.length c := by
  obtain ⟨a, c, e, _⟩ := h
  exact ⟨a, c, e⟩
theorem RSl.len {lo hi : Nat} {W : World} {sv : Value} {l : List α} (h : RSl f lo hi W sv l) : l.length ≤ maxLen := by
  obtain ⟨a, c, _, h1, h2, _⟩ := h
  exact Nat.le_trans h1 h2
theorem RSl.at {lo hi : Nat} {W : World} {a : Option Addr} {len cap : Nat} {l : List α} (h : RSl f lo hi W (.slice a len cap) l) (hl : l ≠ []) : len = l.length ∧ len ≤ cap ∧ ∃ b off, a = some ⟨b, off, none⟩ ∧ lo ≤ b ∧ b < hi ∧ Row W b off (flatR f l) := by
  obtain ⟨a', c', e, hc, _, h0 | ⟨b, off, ha, h1, h2, h3⟩⟩ := h
  · exact absurd h0 hl
  · cases e
    exact ⟨rfl, hc, b, off, ha, h1, h2, h3⟩
theorem Row.elem {W : World} {b off : Nat} {l : List α} (h : Row W b off (flatR f l)) (hn : ∀ x, (f x).length = n) {k j : Nat} {x : α} (hx : l[k]? = some x) (hj : j < n) : W.cell? ⟨b, off + k * n + j, none⟩ = (f x)[j]? := by
  have hl : j < (f x).length := by rw [hn]; exact hj
  have h1 := flat_cell hn hx hj
  rw [List.getElem?_eq_getElem hl] at h1 ⊢
  rw [Nat.add_assoc]
  exact h _ _ h1
theorem load_elem {W : World} {b off : Nat} {l : List α} (h : Row W b off (flatR f l)) (hn : ∀ x, (f x).length = n) {k : Nat} {x : α} (hx : l[k]? = some x) (ty : TypeId) (d : TypeDesc) (hu : Tryz.prog.underlying ty = some d)
    (hd : (match d with | .struct _ | .array _ _ => true | _ => false) = true) (hi : (Tryz.prog.info? ty).map (·.size) = some n) :
    (Instr.loadAt ty (.pointer (some ⟨b, off + k * n, none⟩))).run Tryz.prog W = .ok (.agg (f x).toArray) W := by
  have hl : (loadCells ⟨b, off + k * n, none⟩ (f x).length).run Tryz.prog W = .ok (f x).toArray W :=
    run_loadCells_list (P := Tryz.prog) W ⟨b, off + k * n, none⟩ (f x) (fun j v hv => by
      have hj : j < n := by have := (List.getElem?_eq_some_iff.1 hv).1; rwa [hn] at this
      rw [addr_add, h.elem hn hx hj]
      exact hv)
  cases hq : Tryz.prog.info? ty with
  | none => simp [hq] at hi
  | some i =>
    have hs : i.size = (f x).length := by rw [hn]; simpa [hq] using hi
    have hagg : (isAgg ty).run Tryz.prog W = .ok true W := by
      unfold isAgg
      rw [Sem.run_bind, run_underlying hu W]
      cases d <;> simp_all
    simp [Instr.loadAt, Instr.sureAddr, loadVar, Sem.run_bind, hagg, sizeOf, typeInfo, hq, hs, hl]
theorem RSl.of_own {W : World} {lo : Nat} {e : TypeId} {v : Value} {l : List α} (hn : ∀ x, (f x).length = n) (h : W.ownsRow lo e n v l.length (flatR f l)) : RSl f lo W.heap.size W v l := by
  rcases h.2 with ⟨rfl, h0⟩ | ⟨g, cap, cur, rfl, hg, hb, hnc, hcm, hsz, htake⟩
  · have hl : l = [] := List.eq_nil_of_length_eq_zero h0
    subst hl
    exact RSl.nil _ _ _
  · refine ⟨_, cap, rfl, hnc, hcm, .inr ⟨g, 0, rfl, hg, (Array.getElem?_eq_some_iff.1 hb).1, fun k x hk => ?_⟩⟩
    have hkl : k < (flatR f l).length := (List.getElem?_eq_some_iff.1 hk).1
    rw [flat_len hn] at hkl
    have e' : cur[k]? = (cur.toList.take (l.length * n))[k]? := by
      rw [List.getElem?_take_of_lt hkl]
      simp
    simp only [World.cell?, hb, Nat.zero_add]
    rw [show (if (none : Option Nat).isSome = true then (none : Option Value) else cur[k]?) = cur[k]? from rfl, e', htake]
    exact hk
theorem RSl.cells {lo hi : Nat} {W : World} {a : Addr} {len cap : Nat} {l : List α} (h : RSl f lo hi W (.slice (some a) len cap) l) : ∀ j u, (flatR f l)[j]? = some u → W.cell? (a.add j) = some u := by
  obtain ⟨a', c', e, _, _, h0 | ⟨b, off, ha, _, _, hr⟩⟩ := h
  · subst h0; intro j u hj; simp [flatR] at hj
  · cases e
    obtain rfl := Option.some.inj ha
    intro j u hj
    rw [addr_add]
    exact hr j u hj
end
end Go.Proofs.YtfoemkmoambagaaGreat
namespace Go.Proofs.YtfoemkmoambagaaGreat
open Go.RowKit Go.Shelf
def lkc (x : Lk) : List Value := [.string x.ke, .string x.dg, .int .i64 x.st]
abbrev lkv (x : Lk) : Value := .agg (lkc x).toArray
theorem lkc_len (x : Lk) : (lkc x).length = 3 := rfl
theorem idx_sl {W : World} {ty e c : Nat} (hu : Tryz.prog.underlying ty = some (.slice e)) (hs : (sizeOf e).run Tryz.prog W = .ok c W) {b off len cap : Nat} {k : Nat} (hk : k < len) :
    (Instr.indexAt ty (.slice (some ⟨b, off, none⟩) len cap) (.int .i64 (k : Int))).run Tryz.prog W = .ok (.pointer (some ⟨b, off + k * c, none⟩)) W := by
  have h1 : (0 : Int) ≤ (k : Int) ∧ (k : Int) < len := ⟨by omega, by omega⟩
  simp [Instr.indexAt, run_underlying hu, asIntOf, h1, hs, go_sem]
  intro h
  omega
theorem beqB (a b : ByteArray) : (a.toList == b.toList) = decide (a = b) := by
  by_cases h : a = b
  · subst h; simp
  · rw [decide_eq_false h]
    have h1 : ¬ a.toList = b.toList := fun e => h (by
      rw [ByteArray.toList_eq, ByteArray.toList_eq] at e
      exact ByteArray.ext (Array.toList_inj.1 e))
    simpa using h1
theorem RSl.elem {α : Type} {f : α → List Value} {n lo hi : Nat} {W : World} {v : Value} {l : List α} (h : RSl f lo hi W v l) (hn : ∀ x, (f x).length = n) {k : Nat} {x : α} (hx : l[k]? = some x) {ty e : TypeId} (hu : Tryz.prog.underlying ty = some (.slice e)) (hs : ∀ W, (sizeOf e).run Tryz.prog W = .ok n W) :
    ∃ b o, lo ≤ b ∧ b < hi ∧ (∀ W', (Instr.indexAt ty v (.int .i64 (k : Int))).run Tryz.prog W' = .ok (.pointer (some ⟨b, o, none⟩)) W') ∧ ∀ W', RSl f lo hi W' v l → ∀ j u, (f x)[j]? = some u → W'.cell? ⟨b, o + j, none⟩ = some u := by
  have hk : k < l.length := (List.getElem?_eq_some_iff.1 hx).1
  have hne : l ≠ [] := fun e => by subst e; simp at hk
  obtain ⟨a, cap, rfl, _, _, h0 | ⟨b, off, rfl, h1, h2, h3⟩⟩ := h
  · exact absurd h0 hne
  · refine ⟨b, off + k * n, h1, h2, fun W' => idx_sl hu (hs W') hk, fun W' h' j u hj => ?_⟩
    obtain ⟨_, _, b', off', e, _, _, hr⟩ := h'.at hne
    cases e
    have hj' : j < n := by have := (List.getElem?_eq_some_iff.1 hj).1; rwa [hn] at this
    rw [hr.elem hn hx hj', hj]
theorem ld_cell {W : World} {b o : Nat} (ty : TypeId) (d : TypeDesc) (hu : Tryz.prog.underlying ty = some d) (hd : (match d with | .struct _ | .array _ _ => false | _ => true) = true) {v : Value} (hc : W.cell? ⟨b, o, none⟩ = some v) :
    (Instr.loadAt ty (.pointer (some ⟨b, o, none⟩))).run Tryz.prog W = .ok v W := by
  have hagg : (isAgg ty).run Tryz.prog W = .ok false W := by
    unfold isAgg
    rw [Sem.run_bind, run_underlying hu W]
    cases d <;> simp_all
  simp [Instr.loadAt, Instr.sureAddr, loadVar, Sem.run_bind, hagg, hc]
theorem ld_cells {W : World} {b o : Nat} (ns : List Value) (ty : TypeId) (d : TypeDesc) (hu : Tryz.prog.underlying ty = some d) (hd : (match d with | .struct _ | .array _ _ => true | _ => false) = true) (hi : (Tryz.prog.info? ty).map (·.size) = some ns.length) (hc : ∀ j u, ns[j]? = some u → W.cell? ⟨b, o + j, none⟩ = some u) :
    (Instr.loadAt ty (.pointer (some ⟨b, o, none⟩))).run Tryz.prog W = .ok (.agg ns.toArray) W := by
  have hl : (loadCells ⟨b, o, none⟩ ns.length).run Tryz.prog W = .ok ns.toArray W :=
    run_loadCells_list (P := Tryz.prog) W ⟨b, o, none⟩ ns (fun j v hv => by rw [addr_add]; exact hc j v hv)
  cases hq : Tryz.prog.info? ty with
  | none => simp [hq] at hi
  | some i =>
    have hs : i.size = ns.length := by simpa [hq] using hi
    have hagg : (isAgg ty).run Tryz.prog W = .ok true W := by
      unfold isAgg
      rw [Sem.run_bind, run_underlying hu W]
      cases d <;> simp_all
    simp [Instr.loadAt, Instr.sureAddr, loadVar, Sem.run_bind, hagg, sizeOf, typeInfo, hq, hs, hl]
theorem RSl.mem {α : Type} {f : α → List Value} {lo : Nat} {w W : World} {v : Value} {l : List α} {B : Nat} {m : List MB} (h : RSl f lo w.heap.size w v l) (hB : B < lo) (hM : Mem w (some B) m W) : RSl f lo w.heap.size W v l :=
  h.kept (Nat.le_refl _) hM.g (fun r hr => .inl (by cases hr; exact hB))
theorem RSl.wide {α : Type} {f : α → List Value} {lo hi : Nat} {W : World} {v : Value} {l : List α} (h : RSl f lo hi W v l) (hi' : hi ≤ W.heap.size) : RSl f lo W.heap.size W v l := h.mono (Nat.le_refl _) hi'
end Go.Proofs.YtfoemkmoambagaaGreat
namespace Go.Proofs.YtfoemkmoambagaaGreat
open Go.RowKit Go.Shelf
def growE (s : Es) (a n : Nat) : Es × Int := if s.he a + n < M4 then ({ s with he := updB s.he a (s.he a + n) }, 0) else (s, 38)
def shrinkE (s : Es) (a n : Nat) : Es × Int := if n ≤ s.he a then ({ s with he := updB s.he a (s.he a - n) }, 0) else (s, 38)
set_option maxRecDepth 100000 in
set_option maxHeartbeats 4000000 in
theorem esc_grow_any (s : Es) (v : Value) {a : Nat} (ha : a < 2) (hh : s.he a < M4) {n : Nat} (hn : n < M4) {B : Nat} (w : World) (hB : Blk w B 35 (stc s v)) :
    Calls Tryz.prog 81 #[.pointer (some ⟨B, 0, none⟩), .int .i64 (a : Int), wn n] w (EndE w B v (growE s a n)) := by
  have hmx : Tryz.prog.follows .mixedOrders = true := by kernel_rfl
  have hM := (Mem.startB hB).allocN rfl 28 (ws (nw n))
  have HC := Lib.hid (fun W => addN_any hh hn W)
  clear hh hB
  go_enter Tryz.func81, Tryz.ntmps81
  go_upto_region 1 with fail
  go_cut [6, 7] (fun p f wc => ∃ N, p = .pointer (some ⟨N, 0, none⟩) ∧ f = .bool (fitB (s.he a) n) ∧ Mem w (some B) [(N, 28, ws (nw (addN (s.he a) n))), (w.heap.size, 28, ws (nw n)), (B, 35, stc s v)] wc)
  case first =>
    refine wp_region_M (fun W => Mem w (some B) [(w.heap.size, 28, ws (nw n)), (B, 35, stc s v)] W) (fun W => Mem w (some B) [(w.heap.size, 28, ws (nw n)), (B, 35, stc s v)] W) hmx hM.drew ?_
    clear hM
    rintro Y1 hM
    have hS := hM.sub (.cons_cons _ (.cons_cons _ .slnil))
    refine tD 7 [.val 0 (some 9) (pt B 0), .val 1 (some 10) (.int .i64 (a : Int)), .val 2 (some 11) (pt B 0), .val 3 (some 12) (pt B 138), .idx 4 (some 13) 29 (pt B 138) (.int .i64 (a : Int)) (pt B (138 + a * 4)), .load 5 (some 14) 28 (pt B (138 + a * 4)) (wn (s.he a)), .load 6 (some 15) 28 (pt w.heap.size 0) (wn (n))] ⟨fun W h => idx_he (by omega), fun W h => ld_heO (s := s) (h.at 1 rfl) (by omega), fun W h => load_wn (h.at 0 rfl), trivial⟩ hS ?_
    refine oT 7 11 6 ?_ ?_
    · refine cD (some 16) 59 #[wn (s.he a), wn (n)] ((HC.out _).mono ?_)
      rintro e W1 ⟨rfl, hb⟩
      refine And.intro (hS.below hb) ?_
      replace hS := hS.below hb
      replace hM := hM.below hb
      clear hb
      refine tD 3 [.val 8 (some 8) (.tuple #[wn (addN (s.he a) n), .bool (fitB (s.he a) n)]), .val 9 (some 17) (wn (addN (s.he a) n)), .val 10 (some 18) (.bool (fitB (s.he a) n))] trivial hS ?_
      refine oD 11 2 (rD (some 6) (pt W1.heap.size 0) (W1.alloc (.cells (ws (nw 0)).toArray 28)) (hS.other _) ?_)
      replace hS := hS.other (.cells (ws (nw 0)).toArray 28)
      replace hM := hM.alloc 28 (ws (nw 0))
      generalize World.alloc _ _ = Z at *
      generalize W1.heap.size = N at *
      have hM1 := hM.set 0 (cs' := ws (nw (addN (s.he a) n))) rfl rfl
      refine oD 12 1 (sD 28 (pt N 0) (wn (addN (s.he a) n)) (sto_wn (hM.at 0 rfl) _) (hM1.sub (.cons _ (.cons_cons _ (.cons_cons _ .slnil)))) ?_)
      replace hS := hM1.sub (.cons _ (.cons_cons _ (.cons_cons _ .slnil)))
      replace hM := hM1
      clear hM1
      generalize World.setRow _ _ _ = Y2 at *
      refine tD 0 [.val 13 (some 7) (.bool (fitB (s.he a) n))] trivial hS ?_
      refine dD ?_
      try simp only [puts, Tk.put, Act.put, List.setIfInBounds_toArray, List.set_cons_zero, List.set_cons_succ]
      clear hS
      go_wp2_with fail
      go_meet
      exact ⟨_, rfl, rfl, hM⟩
    · refine rD (some 6) (pt Y1.heap.size 0) (Y1.alloc (.cells (ws (nw 0)).toArray 28)) (hS.other _) ?_
      replace hS := hS.other (.cells (ws (nw 0)).toArray 28)
      replace hM := hM.alloc 28 (ws (nw 0))
      generalize World.alloc _ _ = Z at *
      generalize Y1.heap.size = N at *
      refine oD 7 5 (cD (some 16) 59 #[wn (s.he a), wn (n)] ((HC.out _).mono ?_))
      rintro e W1 ⟨rfl, hb⟩
      refine And.intro (hS.below hb) ?_
      replace hS := hS.below hb
      replace hM := hM.below hb
      clear hb
      refine tD 2 [.val 8 (some 8) (.tuple #[wn (addN (s.he a) n), .bool (fitB (s.he a) n)]), .val 9 (some 17) (wn (addN (s.he a) n)), .val 10 (some 18) (.bool (fitB (s.he a) n))] trivial hS ?_
      have hM1 := hM.set 0 (cs' := ws (nw (addN (s.he a) n))) rfl rfl
      refine oD 12 1 (sD 28 (pt N 0) (wn (addN (s.he a) n)) (sto_wn (hM.at 0 rfl) _) (hM1.sub (.cons _ (.cons_cons _ (.cons_cons _ .slnil)))) ?_)
      replace hS := hM1.sub (.cons _ (.cons_cons _ (.cons_cons _ .slnil)))
      replace hM := hM1
      clear hM1
      generalize World.setRow _ _ _ = Y3 at *
      refine tD 0 [.val 13 (some 7) (.bool (fitB (s.he a) n))] trivial hS ?_
      refine dD ?_
      try simp only [puts, Tk.put, Act.put, List.setIfInBounds_toArray, List.set_cons_zero, List.set_cons_succ]
      clear hS
      go_wp2_with fail
      go_meet
      exact ⟨_, rfl, rfl, hM⟩
  case rest =>
    obtain ⟨N, rfl, rfl, hM⟩ := hcut
    go_upto_region 2 with fail
    refine wp_region_fromM (fun W => Mem w (some B) [(N, 28, ws (nw (addN (s.he a) n))), (w.heap.size, 28, ws (nw n)), (B, 35, stc s v)] W) hM ?_
    clear hM
    rintro Y4 hM
    refine tF 1 [.val 0 (some 19) (.bool (fitB (s.he a) n))] trivial ?_
    refine cF (some 20) 57 #[.bool (fitB (s.he a) n), .int .i64 38] ((demand_any _ _ _).mono ?_)
    rintro e W1 (⟨h, rfl, rfl⟩ | ⟨h, rfl, rfl⟩)
    case inr =>
      have hE : growE s a n = (s, 38) := if_neg (of_decide_eq_false h)
      refine And.intro rfl ?_
      rw [hE]
      exact ⟨hM.g, .inr ⟨(by decide : (38 : Int) ≠ 0), rfl, BlkN.of (hM.at 2 rfl)⟩⟩
    have h := of_decide_eq_true h
    rw [show addN (s.he a) n = s.he a + n from if_pos h] at hM
    refine dF ?_
    try simp only [puts, Tk.put, Act.put, List.setIfInBounds_toArray, List.set_cons_zero, List.set_cons_succ]
    go_upto_region 3 with fail
    refine wp_region_M (fun W => Mem w (some B) [(N, 28, ws (nw (s.he a + n))), (w.heap.size, 28, ws (nw n))] W) (fun W => Mem w (some B) [(N, 28, ws (nw (s.he a + n))), (w.heap.size, 28, ws (nw n)), (B, 35, stc s v)] W) hmx hM.drew ?_
    clear hM
    rintro Y5 hM
    have hS := hM.sub (.cons_cons _ (.cons_cons _ (.cons _ .slnil)))
    refine tD 1 [.val 0 (some 21) (pt B 0), .val 1 (some 22) (.int .i64 (a : Int)), .load 2 (some 23) 28 (pt N 0) (wn (s.he a + n)), .val 3 (some 24) (pt B 0), .val 4 (some 25) (pt B 138), .idx 5 (some 26) 29 (pt B 138) (.int .i64 (a : Int)) (pt B (138 + a * 4))] ⟨fun W h => load_wn (h.at 0 rfl), fun W h => idx_he (by omega), trivial⟩ hS ?_
    have hM1 := hM.set 2 (cs' := stc { s with he := updB s.he a (s.he a + n) } v) rfl rfl
    refine oD 6 0 (sD 28 (pt B (138 + a * 4)) (wn (s.he a + n)) (sto_he (hM.at 2 rfl) ha _) (hM1.sub (.cons_cons _ (.cons_cons _ (.cons _ .slnil)))) ?_)
    replace hS := hM1.sub (.cons_cons _ (.cons_cons _ (.cons _ .slnil)))
    replace hM := hM1
    clear hM1
    generalize World.setRow _ _ _ = Y6 at *
    refine dD ?_
    try simp only [puts, Tk.put, Act.put, List.setIfInBounds_toArray, List.set_cons_zero, List.set_cons_succ]
    clear hS
    go_wp2_with fail
    go_end0
    refine ⟨hM.g, .inl ?_⟩
    rw [show growE s a n = ({ s with he := updB s.he a (s.he a + n) }, 0) from if_pos h]
    exact ⟨rfl, rfl, hM.at 2 rfl⟩
set_option maxRecDepth 100000 in
set_option maxHeartbeats 4000000 in
theorem esc_shrink_any (s : Es) (v : Value) {a : Nat} (ha : a < 2) (hh : s.he a < M4) {n : Nat} (hn : n < M4) {B : Nat} (w : World) (hB : Blk w B 35 (stc s v)) :
    Calls Tryz.prog 83 #[.pointer (some ⟨B, 0, none⟩), .int .i64 (a : Int), wn n] w (EndE w B v (shrinkE s a n)) := by
  have hmx : Tryz.prog.follows .mixedOrders = true := by kernel_rfl
  have hM := (Mem.startB hB).allocN rfl 28 (ws (nw n))
  have HC := Lib.hid (fun W => subN_any hh hn W)
  clear hh hB
  go_enter Tryz.func83, Tryz.ntmps83
  go_upto_region 1 with fail
  go_cut [6, 7] (fun p f wc => ∃ N, p = .pointer (some ⟨N, 0, none⟩) ∧ f = .bool (lessB (s.he a) n) ∧ Mem w (some B) [(N, 28, ws (nw (s.he a - n))), (w.heap.size, 28, ws (nw n)), (B, 35, stc s v)] wc)
  case first =>
    refine wp_region_M (fun W => Mem w (some B) [(w.heap.size, 28, ws (nw n)), (B, 35, stc s v)] W) (fun W => Mem w (some B) [(w.heap.size, 28, ws (nw n)), (B, 35, stc s v)] W) hmx hM.drew ?_
    clear hM
    rintro Y1 hM
    have hS := hM.sub (.cons_cons _ (.cons_cons _ .slnil))
    refine tD 7 [.val 0 (some 9) (pt B 0), .val 1 (some 10) (.int .i64 (a : Int)), .val 2 (some 11) (pt B 0), .val 3 (some 12) (pt B 138), .idx 4 (some 13) 29 (pt B 138) (.int .i64 (a : Int)) (pt B (138 + a * 4)), .load 5 (some 14) 28 (pt B (138 + a * 4)) (wn (s.he a)), .load 6 (some 15) 28 (pt w.heap.size 0) (wn (n))] ⟨fun W h => idx_he (by omega), fun W h => ld_heO (s := s) (h.at 1 rfl) (by omega), fun W h => load_wn (h.at 0 rfl), trivial⟩ hS ?_
    refine oT 7 11 6 ?_ ?_
    · refine cD (some 16) 77 #[wn (s.he a), wn (n)] ((HC.out _).mono ?_)
      rintro e W1 ⟨rfl, hb⟩
      refine And.intro (hS.below hb) ?_
      replace hS := hS.below hb
      replace hM := hM.below hb
      clear hb
      refine tD 3 [.val 8 (some 8) (.tuple #[wn (s.he a - n), .bool (lessB (s.he a) n)]), .val 9 (some 17) (wn (s.he a - n)), .val 10 (some 18) (.bool (lessB (s.he a) n))] trivial hS ?_
      refine oD 11 2 (rD (some 6) (pt W1.heap.size 0) (W1.alloc (.cells (ws (nw 0)).toArray 28)) (hS.other _) ?_)
      replace hS := hS.other (.cells (ws (nw 0)).toArray 28)
      replace hM := hM.alloc 28 (ws (nw 0))
      generalize World.alloc _ _ = Z at *
      generalize W1.heap.size = N at *
      have hM1 := hM.set 0 (cs' := ws (nw (s.he a - n))) rfl rfl
      refine oD 12 1 (sD 28 (pt N 0) (wn (s.he a - n)) (sto_wn (hM.at 0 rfl) _) (hM1.sub (.cons _ (.cons_cons _ (.cons_cons _ .slnil)))) ?_)
      replace hS := hM1.sub (.cons _ (.cons_cons _ (.cons_cons _ .slnil)))
      replace hM := hM1
      clear hM1
      generalize World.setRow _ _ _ = Y2 at *
      refine tD 0 [.val 13 (some 7) (.bool (lessB (s.he a) n))] trivial hS ?_
      refine dD ?_
      try simp only [puts, Tk.put, Act.put, List.setIfInBounds_toArray, List.set_cons_zero, List.set_cons_succ]
      clear hS
      go_wp2_with fail
      go_meet
      exact ⟨_, rfl, rfl, hM⟩
    · refine rD (some 6) (pt Y1.heap.size 0) (Y1.alloc (.cells (ws (nw 0)).toArray 28)) (hS.other _) ?_
      replace hS := hS.other (.cells (ws (nw 0)).toArray 28)
      replace hM := hM.alloc 28 (ws (nw 0))
      generalize World.alloc _ _ = Z at *
      generalize Y1.heap.size = N at *
      refine oD 7 5 (cD (some 16) 77 #[wn (s.he a), wn (n)] ((HC.out _).mono ?_))
      rintro e W1 ⟨rfl, hb⟩
      refine And.intro (hS.below hb) ?_
      replace hS := hS.below hb
      replace hM := hM.below hb
      clear hb
      refine tD 2 [.val 8 (some 8) (.tuple #[wn (s.he a - n), .bool (lessB (s.he a) n)]), .val 9 (some 17) (wn (s.he a - n)), .val 10 (some 18) (.bool (lessB (s.he a) n))] trivial hS ?_
      have hM1 := hM.set 0 (cs' := ws (nw (s.he a - n))) rfl rfl
      refine oD 12 1 (sD 28 (pt N 0) (wn (s.he a - n)) (sto_wn (hM.at 0 rfl) _) (hM1.sub (.cons _ (.cons_cons _ (.cons_cons _ .slnil)))) ?_)
      replace hS := hM1.sub (.cons _ (.cons_cons _ (.cons_cons _ .slnil)))
      replace hM := hM1
      clear hM1
      generalize World.setRow _ _ _ = Y3 at *
      refine tD 0 [.val 13 (some 7) (.bool (lessB (s.he a) n))] trivial hS ?_
      refine dD ?_
      try simp only [puts, Tk.put, Act.put, List.setIfInBounds_toArray, List.set_cons_zero, List.set_cons_succ]
      clear hS
      go_wp2_with fail
      go_meet
      exact ⟨_, rfl, rfl, hM⟩
  case rest =>
    obtain ⟨N, rfl, rfl, hM⟩ := hcut
    go_upto_region 2 with fail
    refine wp_region_fromM (fun W => Mem w (some B) [(N, 28, ws (nw (s.he a - n))), (w.heap.size, 28, ws (nw n)), (B, 35, stc s v)] W) hM ?_
    clear hM
    rintro Y4 hM
    refine tF 1 [.val 0 (some 19) (.bool (lessB (s.he a) n))] trivial ?_
    refine cF (some 20) 57 #[.bool (lessB (s.he a) n), .int .i64 38] ((demand_any _ _ _).mono ?_)
    rintro e W1 (⟨h, rfl, rfl⟩ | ⟨h, rfl, rfl⟩)
    case inr =>
      have hE : shrinkE s a n = (s, 38) := if_neg (of_decide_eq_false h)
      refine And.intro rfl ?_
      rw [hE]
      exact ⟨hM.g, .inr ⟨(by decide : (38 : Int) ≠ 0), rfl, BlkN.of (hM.at 2 rfl)⟩⟩
    have h := of_decide_eq_true h
    rw [show s.he a - n = s.he a - n from rfl] at hM
    refine dF ?_
    try simp only [puts, Tk.put, Act.put, List.setIfInBounds_toArray, List.set_cons_zero, List.set_cons_succ]
    go_upto_region 3 with fail
    refine wp_region_M (fun W => Mem w (some B) [(N, 28, ws (nw (s.he a - n))), (w.heap.size, 28, ws (nw n))] W) (fun W => Mem w (some B) [(N, 28, ws (nw (s.he a - n))), (w.heap.size, 28, ws (nw n)), (B, 35, stc s v)] W) hmx hM.drew ?_
    clear hM
    rintro Y5 hM
    have hS := hM.sub (.cons_cons _ (.cons_cons _ (.cons _ .slnil)))
    refine tD 1 [.val 0 (some 21) (pt B 0), .val 1 (some 22) (.int .i64 (a : Int)), .load 2 (some 23) 28 (pt N 0) (wn (s.he a - n)), .val 3 (some 24) (pt B 0), .val 4 (some 25) (pt B 138), .idx 5 (some 26) 29 (pt B 138) (.int .i64 (a : Int)) (pt B (138 + a * 4))] ⟨fun W h => load_wn (h.at 0 rfl), fun W h => idx_he (by omega), trivial⟩ hS ?_
    have hM1 := hM.set 2 (cs' := stc { s with he := updB s.he a (s.he a - n) } v) rfl rfl
    refine oD 6 0 (sD 28 (pt B (138 + a * 4)) (wn (s.he a - n)) (sto_he (hM.at 2 rfl) ha _) (hM1.sub (.cons_cons _ (.cons_cons _ (.cons _ .slnil)))) ?_)
    replace hS := hM1.sub (.cons_cons _ (.cons_cons _ (.cons _ .slnil)))
    replace hM := hM1
    clear hM1
    generalize World.setRow _ _ _ = Y6 at *
    refine dD ?_
    try simp only [puts, Tk.put, Act.put, List.setIfInBounds_toArray, List.set_cons_zero, List.set_cons_succ]
    clear hS
    go_wp2_with fail
    go_end0
    refine ⟨hM.g, .inl ?_⟩
    rw [show shrinkE s a n = ({ s with he := updB s.he a (s.he a - n) }, 0) from if_pos h]
    exact ⟨rfl, rfl, hM.at 2 rfl⟩
end Go.Proofs.YtfoemkmoambagaaGreat
