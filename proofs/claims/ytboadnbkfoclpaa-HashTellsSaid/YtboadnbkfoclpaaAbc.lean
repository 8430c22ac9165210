/-
  The sum of "abc" begins as the law says.
-/
import Derived.Test.YtboadnbkfoclpaaRefSum
import Derived.Test.YtboadnbkfoclpaaSched
namespace Go.Proofs.Ytboadnbkfoclpaa
open Go.RowKit

def abcW : List Int := [1633837952, 0, 0, 0, 0, 0, 0, 0, 0, 0, 0, 0, 0, 0, 0, 24, 1633837952, 983040, 2108187653, 1610613702, 1050508152, 25426944, 316456923, 3806512014, 3357629466, 3073800610, 3854317833, 845560923, 2636160359, 3968280267, 1881225380, 3552024379, 2482346367, 996719219, 2952069057, 4043988066, 176896406, 1924104970, 2483675966, 610538786, 2672279444, 4037431130, 1042573945, 657669027, 206005234, 2215296807, 2049510749, 106709978, 4215179723, 3430291419, 3118885940, 2845390439, 2226839261, 3256115900, 344409900, 2987358873, 4015503821, 3957764664, 2682456414, 2025622859, 2755645205, 1720397816, 4004225740, 313650667]
def abcA : List Int := [2773480762, 1013904242, 3144134277, 1779033703, 1567288269, 1516951981, 3368241063, 3578852966, 71342698, 725748213, 3842179968, 2241887071, 2382687417, 2357671019, 1201185780, 4146054569, 2274437520, 3643992854, 3227803614, 2969183118, 567974555, 3271285201, 4269243327, 3790736435, 2647034723, 3261099373, 2812502591, 3319086477, 472655928, 3454534525, 3056518332, 2010346792, 909411017, 2684750640, 3935906338, 1941126133, 2564891911, 4267724277, 2846323596, 1705037796, 1101421745, 887035396, 1841658506, 2045405306, 3597076326, 3745932591, 397020670, 2638983059, 643991573, 1923828625, 2706117808, 1098003085, 91585771, 4045142696, 2047150241, 2288941602, 270520975, 4117770203, 1053056219, 952932627, 4241590395, 3227702383, 4290184306, 3064893439, 3093179625, 80891244, 3550093669, 1349398616]
def abcE : List Int := [1541459225, 528734635, 2600822924, 1359893119, 4197074466, 2026797449, 4180228587, 618661968, 1135452741, 1900175533, 2603066369, 207977081, 852110732, 482944406, 1131095016, 2171590377, 509051416, 1952073950, 194179596, 123276749, 2150900380, 2221859924, 3431569761, 2959311225, 2329577776, 3777329520, 1240797514, 2856829767, 673443729, 339230094, 3343672598, 3992961016, 1628611511, 2917635127, 17410874, 3126399250, 2631529974, 1495571923, 140458035, 4105175766, 124953195, 2768741693, 4034403272, 519815328, 641019235, 2206934801, 3737995029, 4255271982, 2819559920, 3077922209, 3581645993, 4274981830, 3178315832, 1851537676, 1391578359, 1227037726, 1386118400, 2672265155, 3842906959, 1422599787, 2606665836, 2118385806, 1837350854, 2988158269, 2518632596, 2492278198, 4212265488, 1593118500]
def wA (t : Nat) : Int := abcW.getD t 0
def st8 (n : Nat) : S8 := ⟨abcA.getD (n + 3) 0, abcA.getD (n + 2) 0, abcA.getD (n + 1) 0, abcA.getD n 0, abcE.getD (n + 3) 0, abcE.getD (n + 2) 0, abcE.getD (n + 1) 0, abcE.getD n 0⟩
def chkWords : Bool := (List.range 48).all fun k => nw wA (k + 16) == wA (k + 16)
def chkFirst : Bool := (List.range 16).all fun k => wd (blk (padL [97, 98, 99]) 0) k == wA k
def chkRounds : Bool := (List.range 64).all fun n => (tmp1 (st8 n) (cb n) (wA n) + tmp2 (st8 n)) % 4294967296 == abcA.getD (n + 4) 0 && ((st8 n).d + tmp1 (st8 n) (cb n) (wA n)) % 4294967296 == abcE.getD (n + 4) 0
theorem chkWords_ok : chkWords = true := by kernel_rfl
theorem chkFirst_ok : chkFirst = true := by kernel_rfl
theorem chkRounds_ok : chkRounds = true := by kernel_rfl

theorem all_range {n : Nat} {f : Nat → Bool} (h : (List.range n).all f = true) (k : Nat) (hk : k < n) : f k = true := List.all_eq_true.1 h k (List.mem_range.2 hk)
theorem nw_congr {f g : Nat → Int} {t : Nat} (h : ∀ k, k < t → f k = g k) (h16 : 16 ≤ t) : nw f t = nw g t := by
  unfold nw; rw [h _ (by omega), h _ (by omega), h _ (by omega), h _ (by omega)]
theorem abc_words : ∀ k, k ≤ 48 → ∀ t, t < 16 + k → sch (wd (blk (padL [97, 98, 99]) 0)) k t = wA t
  | 0, _, t, ht => by
    show (if t < 16 then wd (blk (padL [97, 98, 99]) 0) t else 0) = _
    rw [if_pos (by omega)]
    exact eq_of_beq (all_range chkFirst_ok t (by omega))
  | k + 1, hk, t, ht => by
    have ih := abc_words k (by omega)
    show updI (sch _ k) (k + 16) (nw (sch _ k) (k + 16)) t = _
    unfold updI
    by_cases e : t = k + 16
    · subst e
      rw [if_pos rfl, nw_congr (g := wA) (fun j hj => ih j (by omega)) (by omega)]
      exact eq_of_beq (all_range chkWords_ok k (by omega))
    · rw [if_neg e]
      exact ih t (by omega)
theorem abc_rounds : ∀ n, n ≤ 64 → rds cb (sch (wd (blk (padL [97, 98, 99]) 0)) 48) (s8 sq) n = st8 n
  | 0, _ => rfl
  | n + 1, hn => by
    show rnd (rds _ _ _ n) (cb n) (sch _ 48 n) = _
    rw [abc_rounds n (by omega), abc_words 48 (by omega) n (by omega)]
    have h := all_range chkRounds_ok n (by omega)
    rw [Bool.and_eq_true] at h
    have h1 := eq_of_beq h.1
    have h2 := eq_of_beq h.2
    unfold rnd
    rw [h1, h2]
    rfl
theorem sumTo_first (st : Nat → Int) : ∀ k, ∃ r, sumTo st (k + 1) = octs (two (wrap64 (st 0))) 4 ++ r
  | 0 => ⟨[], by simp [sumTo]⟩
  | k + 1 => by
    obtain ⟨r, h⟩ := sumTo_first st k
    exact ⟨r ++ octs (two (wrap64 (st (k + 1)))) 4, by rw [sumTo, h, List.append_assoc]⟩
theorem abc_len : (padL [97, 98, 99]).length / 64 = 1 := by rw [padL_length]; rfl
theorem abc_sum : ∃ r, sumL cb sq [97, 98, 99] = [186, 120, 22, 191] ++ r ∧ r.length = 28 := by
  obtain ⟨r, h⟩ := sumTo_first (sts cb (padL [97, 98, 99]) sq 1) 7
  have h0 : sts cb (padL [97, 98, 99]) sq 1 0 = 3128432319 := by
    show (sq 0 + (rds cb (sch (wd (blk (padL [97, 98, 99]) 0)) 48) (s8 sq) 64).at 0) % 4294967296 = _
    rw [abc_rounds 64 (by omega)]
    rfl
  rw [h0] at h
  have e : octs (two (wrap64 3128432319)) 4 = [186, 120, 22, 191] := by kernel_rfl
  rw [e] at h
  refine ⟨r, by unfold sumL; rw [abc_len]; exact h, ?_⟩
  have hl := sumTo_length (sts cb (padL [97, 98, 99]) sq 1) 8
  rw [h] at hl
  simp at hl
  omega
end Go.Proofs.Ytboadnbkfoclpaa
