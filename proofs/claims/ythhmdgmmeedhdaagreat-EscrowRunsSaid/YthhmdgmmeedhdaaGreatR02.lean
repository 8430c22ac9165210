/-
  A transaction as a plain thing; whether it may be; what is put of it, and read, as states of octets; what is left of it; A side's state as a plain thing, and what becomes of it behind a transaction: as the document's chapter of the contract tells; A side's state as a row of cells: its parts, and what becomes of the row when one is set; A transaction in memory: what is loaded of it; A book in memor
-/
import Derived.Deep.WholeRow
import Derived.RangeFuncNested
import Derived.RangeFuncBound
import Derived.RangeFuncCalls
import Derived.RangeFuncLeaves
import Derived.Shelf.Abstract
import Derived.Shelf.RegionOpen
import Derived.WalkKit
import Derived.OwnWalkIn
import Derived.TacticsInMore
import Derived.LoopNIn
import Derived.LoopIn
import Derived.Lib.Hide
import Derived.Shelf.Spec.BitsCarry
import Derived.Maps.AppendAt
import Derived.Test.YthhmdgmmeedhdaaGreatR01
namespace Go.Proofs.YthhmdgmmeedhdaaGreat
open Go.RowKit Go.Shelf
structure Tr where
 fr : Int
 no : Int
 kd : Int
 az : Int
 a0 : Nat
 a1 : Nat
 a2 : Nat
 a3 : Nat
 iv : Trf
 vr : Sid
 f0 : Nat
 f1 : Nat
 f2 : Nat
 f3 : Nat
 sg : ByteArray
abbrev txc (t : Tr) : List Value := [.int .i64 t.fr, .int .i64 t.no, .int .i64 t.kd, .int .i64 t.az, .int .u64 (t.a0 : Nat), .int .u64 (t.a1 : Nat), .int .u64 (t.a2 : Nat), .int .u64 (t.a3 : Nat), .int .i64 t.iv.us, .string t.iv.rt, .int .i64 t.iv.ro, .int .i64 t.iv.se, .int .i64 t.iv.re, .int .i64 t.iv.to, .string t.iv.id, .int .u64 (t.vr.a0 : Nat), .int .u64 (t.vr.a1 : Nat), .int .u64 (t.vr.a2 : Nat), .int .u64 (t.vr.a3 : Nat), .int .i64 t.vr.x, .int .u64 (t.f0 : Nat), .int .u64 (t.f1 : Nat), .int .u64 (t.f2 : Nat), .int .u64 (t.f3 : Nat), .string t.sg]
abbrev txv (t : Tr) : Value := .agg #[.int .i64 t.fr, .int .i64 t.no, .int .i64 t.kd, .int .i64 t.az, .int .u64 (t.a0 : Nat), .int .u64 (t.a1 : Nat), .int .u64 (t.a2 : Nat), .int .u64 (t.a3 : Nat), .int .i64 t.iv.us, .string t.iv.rt, .int .i64 t.iv.ro, .int .i64 t.iv.se, .int .i64 t.iv.re, .int .i64 t.iv.to, .string t.iv.id, .int .u64 (t.vr.a0 : Nat), .int .u64 (t.vr.a1 : Nat), .int .u64 (t.vr.a2 : Nat), .int .u64 (t.vr.a3 : Nat), .int .i64 t.vr.x, .int .u64 (t.f0 : Nat), .int .u64 (t.f1 : Nat), .int .u64 (t.f2 : Nat), .int .u64 (t.f3 : Nat), .string t.sg]
structure OkT (t : Tr) : Prop where
 a : Ok4 t.a0 t.a1 t.a2 t.a3
 v : Ok4 t.vr.a0 t.vr.a1 t.vr.a2 t.vr.a3
 f : Ok4 t.f0 t.f1 t.f2 t.f3
def zeroA (t : Tr) : Prop := t.a0 = 0 ∧ t.a1 = 0 ∧ t.a2 = 0 ∧ t.a3 = 0
instance (t : Tr) : Decidable (zeroA t) := by unfold zeroA; infer_instance
def errM (t : Tr) : Int :=
 if zeroA t then 36 else if t.kd = 1 then (if 0 ≤ t.iv.to ∧ t.iv.to ≤ 7 then 0 else 39) else if t.kd = 2 then (if 2 ≤ t.iv.ro ∧ t.iv.ro ≤ 3 then 0 else 39) else 0
def errF (t : Tr) : Int := if maybeI t.iv then (if maybeV t.vr then (if t.sg.size ≤ 1024 then 0 else 5) else 36) else 39
def errT (t : Tr) : Int :=
 if 1 ≤ t.kd ∧ t.kd ≤ 6 then (if (0 ≤ t.fr ∧ t.fr ≤ 7) ∧ (0 ≤ t.no ∧ t.no ≤ 1099511627776) ∧ (0 ≤ t.az ∧ t.az ≤ 1) then (if t.kd ≤ 3 then errM t else errF t) else 4) else 12
end Go.Proofs.YthhmdgmmeedhdaaGreat
namespace Go.Proofs.YthhmdgmmeedhdaaGreat
open Go.RowKit Go.Shelf
structure Lk where
 ke : ByteArray
 dg : ByteArray
 st : Int
structure Es where
 sd : Int
 tm : Int
 pu : Bk
 va : Bk
 no : Nat → Int
 he : Nat → Nat
 bu : Nat
 lk : List Lk
structure OkE (s : Es) : Prop where
 t0 : 0 ≤ s.tm
 t1 : s.tm ≤ 1099511627776
 d : s.sd = 0 ∨ s.sd = 1
 p : OkK s.pu
 v : OkK s.va
 h : s.he 0 < M4 ∧ s.he 1 < M4
 b : s.bu < M4
def amT (t : Tr) : Nat := val t.a0 t.a1 t.a2 t.a3
def amV (t : Tr) : Nat := val t.vr.a0 t.vr.a1 t.vr.a2 t.vr.a3
def feT (t : Tr) : Nat := val t.f0 t.f1 t.f2 t.f3
structure Orc where
 ke : Trf → ByteArray
 dg : Trf → Sid → ByteArray
 sg : Tr → Int → Bool
def placeE (l : List Lk) (k : ByteArray) : Option Nat := l.findIdx? fun x => decide (x.ke = k)
def statE (s : Es) (k : ByteArray) : Int := match placeE s.lk k with | none => 0 | some i => (s.lk[i]?.map (·.st)).getD 0
def endE (l : List Lk) (i : Nat) (st : Int) : List Lk := l.modify i fun x => { x with st := st }
def plainE (s : Es) (t : Tr) : Es × Int :=
 if t.kd = 1 then
  (if (takeB s.pu t.fr t.az (amT t)).2 ≠ 0 then (s, 30) else if (giveB (takeB s.pu t.fr t.az (amT t)).1 t.iv.to t.az (amT t)).2 ≠ 0 then (s, 38) else ({ s with pu := (giveB (takeB s.pu t.fr t.az (amT t)).1 t.iv.to t.az (amT t)).1 }, 0))
 else if t.kd = 2 then
  (if (takeB s.pu t.fr t.az (amT t)).2 ≠ 0 then (s, 30) else if (giveB s.va t.iv.ro t.az (amT t)).2 ≠ 0 ∨ ¬ s.he t.az.toNat + amT t < M4 then (s, 38)
   else ({ s with pu := (takeB s.pu t.fr t.az (amT t)).1, va := (giveB s.va t.iv.ro t.az (amT t)).1, he := updB s.he t.az.toNat (s.he t.az.toNat + amT t) }, 0))
 else
  (if ¬ (2 ≤ t.fr ∧ t.fr ≤ 3) then (s, 37) else if (takeB s.va t.fr t.az (amT t)).2 ≠ 0 then (s, 31) else if (giveB s.pu t.fr t.az (amT t)).2 ≠ 0 ∨ ¬ amT t ≤ s.he t.az.toNat then (s, 38)
   else ({ s with va := (takeB s.va t.fr t.az (amT t)).1, pu := (giveB s.pu t.fr t.az (amT t)).1, he := updB s.he t.az.toNat (s.he t.az.toNat - amT t) }, 0))
def prepE (o : Orc) (s : Es) (t : Tr) : Es × Int :=
 if (placeE s.lk (o.ke t.iv)).isSome then (s, 32) else if t.vr.x ≤ s.tm ∨ s.tm + 1024 < t.vr.x then (s, 34)
 else if s.sd = 1 then
  (if t.fr ≠ t.iv.ro then (s, 37) else if (takeB s.va t.fr t.iv.re (amV t)).2 ≠ 0 then (s, 31)
   else ({ s with va := (takeB s.va t.fr t.iv.re (amV t)).1, lk := s.lk ++ [⟨o.ke t.iv, o.dg t.iv t.vr, 1⟩] }, 0))
 else
  (if t.fr ≠ t.iv.us then (s, 37) else if (takeB s.pu t.fr t.iv.se (amV t)).2 ≠ 0 then (s, 30) else if ¬ s.he t.iv.se.toNat + amV t < M4 then (s, 38)
   else ({ s with pu := (takeB s.pu t.fr t.iv.se (amV t)).1, he := updB s.he t.iv.se.toNat (s.he t.iv.se.toNat + amV t), lk := s.lk ++ [⟨o.ke t.iv, o.dg t.iv t.vr, 1⟩] }, 0))
def openE (o : Orc) (s : Es) (t : Tr) : Nat × Int :=
 match placeE s.lk (o.ke t.iv) with
 | none => (0, 32)
 | some i => match s.lk[i]? with
  | none => (0, 32)
  | some x => if x.st ≠ 1 then (0, 32) else if x.dg ≠ o.dg t.iv t.vr then (0, 33) else (i, 0)
def fulE (o : Orc) (s : Es) (t : Tr) : Es × Int :=
 if (openE o s t).2 ≠ 0 then (s, (openE o s t).2) else if t.vr.x ≤ s.tm then (s, 34) else if ¬ feT t ≤ amV t then (s, 36) else if o.sg t 1 = false then (s, 35)
 else if s.sd = 1 then
  (if (giveB s.pu t.iv.to t.iv.re (amV t - feT t)).2 ≠ 0 ∨ (giveB (giveB s.pu t.iv.to t.iv.re (amV t - feT t)).1 t.fr t.iv.re (feT t)).2 ≠ 0 ∨ ¬ amV t ≤ s.he t.iv.re.toNat then (s, 38)
   else ({ s with pu := (giveB (giveB s.pu t.iv.to t.iv.re (amV t - feT t)).1 t.fr t.iv.re (feT t)).1, he := updB s.he t.iv.re.toNat (s.he t.iv.re.toNat - amV t), lk := endE s.lk (openE o s t).1 2 }, 0))
 else
  (if (giveB s.va t.iv.ro t.iv.se (amV t)).2 ≠ 0 then (s, 38) else ({ s with va := (giveB s.va t.iv.ro t.iv.se (amV t)).1, lk := endE s.lk (openE o s t).1 2 }, 0))
def canE (o : Orc) (s : Es) (t : Tr) : Es × Int :=
 if (openE o s t).2 ≠ 0 then (s, (openE o s t).2) else if s.tm < t.vr.x ∧ s.sd = 1 ∧ o.sg t 2 = false then (s, 35) else if s.tm < t.vr.x ∧ s.sd ≠ 1 ∧ t.fr ≠ t.iv.ro then (s, 37)
 else if s.sd = 1 then
  (if (giveB s.va t.iv.ro t.iv.re (amV t)).2 ≠ 0 then (s, 38) else ({ s with va := (giveB s.va t.iv.ro t.iv.re (amV t)).1, lk := endE s.lk (openE o s t).1 3 }, 0))
 else
  (if (giveB s.pu t.iv.us t.iv.se (amV t)).2 ≠ 0 ∨ ¬ amV t ≤ s.he t.iv.se.toNat then (s, 38)
   else ({ s with pu := (giveB s.pu t.iv.us t.iv.se (amV t)).1, he := updB s.he t.iv.se.toNat (s.he t.iv.se.toNat - amV t), lk := endE s.lk (openE o s t).1 3 }, 0))
def paidE (s : Es) (t : Tr) : Es := { s with pu := updB s.pu (2 * t.fr.toNat) (s.pu (2 * t.fr.toNat) - 1), bu := s.bu + 1, no := fun i => if i = t.fr.toNat then s.no i + 1 else s.no i }
def doneE (o : Orc) (s : Es) (t : Tr) : Es × Int := if t.kd = 4 then prepE o s t else if t.kd = 5 then fulE o s t else if t.kd = 6 then canE o s t else plainE s t
def applyE (o : Orc) (s : Es) (t : Tr) : Es × Int × Bool :=
 if errT t ≠ 0 then (s, errT t, false) else if t.no ≠ s.no t.fr.toNat then (s, 20, false) else if ¬ 1 ≤ s.pu (2 * t.fr.toNat) ∨ ¬ s.bu + 1 < M4 then (s, 21, false)
 else if (doneE o (paidE s t) t).2 ≠ 0 then (paidE s t, (doneE o (paidE s t) t).2, true) else ((doneE o (paidE s t) t).1, 0, true)
def genE (side time : Int) : Es := ⟨if side ≤ 0 then 0 else 1, if time < 0 then 0 else if 1099511627776 < time then 1099511627776 else time, fun _ => 1000, fun _ => 0, fun _ => 0, fun _ => 0, 0, []⟩
end Go.Proofs.YthhmdgmmeedhdaaGreat
namespace Go.Proofs.YthhmdgmmeedhdaaGreat
open Go.RowKit Go.Shelf
section
variable {A B C : List Value} {m : Nat}
theorem part_in (hA : A.length = m) (o n : Nat) (h : o + n ≤ B.length) : ((A ++ (B ++ C)).drop (m + o)).take n = (B.drop o).take n := by
 subst hA
 rw [List.drop_length_add_append, List.drop_append_of_le_length (by omega), List.take_append_of_le_length (by rw [List.length_drop]; omega)]
theorem part_at {n : Nat} (hA : A.length = m) (hB : B.length = n) : ((A ++ (B ++ C)).drop m).take n = B := by
 have := part_in (A := A) (B := B) (C := C) hA 0 n (by omega)
 rw [Nat.add_zero, List.drop_zero, List.take_of_length_le (l := B) (by omega)] at this
 exact this
theorem laid_in (hA : A.length = m) (ns : List Value) (o : Nat) (h : o + ns.length ≤ B.length) : laid (A ++ (B ++ C)) (m + o) ns = A ++ (laid B o ns ++ C) := by
 subst hA
 unfold laid
 rw [List.take_length_add_append, List.take_append_of_le_length (by omega), Nat.add_assoc, List.drop_length_add_append, List.drop_append_of_le_length (by omega)]
 simp only [List.append_assoc]
theorem laid_at (hA : A.length = m) {ns : List Value} (h : ns.length = B.length) : laid (A ++ (B ++ C)) m ns = A ++ (ns ++ C) := by
 have := laid_in (A := A) (B := B) (C := C) hA ns 0 (by omega)
 rw [Nat.add_zero] at this
 rw [this]
 unfold laid
 rw [List.take_zero, Nat.zero_add, h, List.drop_length, List.nil_append, List.append_nil]
theorem cell_in (hA : A.length = m) (i : Nat) (h : i < B.length) : (A ++ (B ++ C))[m + i]? = B[i]? := by
 subst hA
 rw [List.getElem?_append_right (by omega), Nat.add_sub_cancel_left, List.getElem?_append_left h]
theorem set_in (hA : A.length = m) (i : Nat) (v : Value) (h : i < B.length) : (A ++ (B ++ C)).set (m + i) v = A ++ (B.set i v ++ C) := by
 subst hA
 rw [List.set_append_right _ _ (by omega), Nat.add_sub_cancel_left, List.set_append_left _ _ h]
end
def noc (f : Nat → Int) : List Value := [.int .i64 (f 0), .int .i64 (f 1), .int .i64 (f 2), .int .i64 (f 3), .int .i64 (f 4), .int .i64 (f 5), .int .i64 (f 6), .int .i64 (f 7)]
theorem noc_len (f : Nat → Int) : (noc f).length = 8 := rfl
def updNo (f : Nat → Int) (i : Nat) (z : Int) : Nat → Int := fun k => if k = i then z else f k
theorem noc_at (f : Nat → Int) {i : Nat} (h : i < 8) : (noc f)[i]? = some (.int .i64 (f i)) := by
 match i, h with
 | 0, _ => rfl
 | 1, _ => rfl
 | 2, _ => rfl
 | 3, _ => rfl
 | 4, _ => rfl
 | 5, _ => rfl
 | 6, _ => rfl
 | 7, _ => rfl
theorem noc_set (f : Nat → Int) {i : Nat} (h : i < 8) (z : Int) : (noc f).set i (.int .i64 z) = noc (updNo f i z) := by
 match i, h with
 | 0, _ => rfl
 | 1, _ => rfl
 | 2, _ => rfl
 | 3, _ => rfl
 | 4, _ => rfl
 | 5, _ => rfl
 | 6, _ => rfl
 | 7, _ => rfl
def hec (h : Bk) : List Value := rowB h 0 2
theorem hec_len (h : Bk) : (hec h).length = 8 := rowB_len h 0 2
def stc (s : Es) (v : Value) : List Value := [.int .i64 s.sd, .int .i64 s.tm] ++ (bkc s.pu ++ (bkc s.va ++ (noc s.no ++ (hec s.he ++ (ws (nw s.bu) ++ [v])))))
theorem stc_len (s : Es) (v : Value) : (stc s v).length = 151 := by
 unfold stc
 simp only [List.length_append, bkc_len, noc_len, hec_len, ws_len, List.length_cons, List.length_nil]
abbrev stv (s : Es) (v : Value) : Value := .agg (stc s v).toArray
theorem stc_pu (s : Es) (v : Value) : stc s v = [.int .i64 s.sd, .int .i64 s.tm] ++ (bkc s.pu ++ (bkc s.va ++ (noc s.no ++ (hec s.he ++ (ws (nw s.bu) ++ [v]))))) := rfl
theorem stc_va (s : Es) (v : Value) : stc s v = ([.int .i64 s.sd, .int .i64 s.tm] ++ bkc s.pu) ++ (bkc s.va ++ (noc s.no ++ (hec s.he ++ (ws (nw s.bu) ++ [v])))) := by unfold stc; simp only [List.append_assoc]
theorem stc_no (s : Es) (v : Value) : stc s v = ([.int .i64 s.sd, .int .i64 s.tm] ++ (bkc s.pu ++ bkc s.va)) ++ (noc s.no ++ (hec s.he ++ (ws (nw s.bu) ++ [v]))) := by unfold stc; simp only [List.append_assoc]
theorem stc_he (s : Es) (v : Value) : stc s v = ([.int .i64 s.sd, .int .i64 s.tm] ++ (bkc s.pu ++ (bkc s.va ++ noc s.no))) ++ (hec s.he ++ (ws (nw s.bu) ++ [v])) := by unfold stc; simp only [List.append_assoc]
theorem stc_bu (s : Es) (v : Value) : stc s v = ([.int .i64 s.sd, .int .i64 s.tm] ++ (bkc s.pu ++ (bkc s.va ++ (noc s.no ++ hec s.he)))) ++ (ws (nw s.bu) ++ [v]) := by unfold stc; simp only [List.append_assoc]
theorem stc_lk (s : Es) (v : Value) : stc s v = ([.int .i64 s.sd, .int .i64 s.tm] ++ (bkc s.pu ++ (bkc s.va ++ (noc s.no ++ (hec s.he ++ ws (nw s.bu)))))) ++ ([v] ++ []) := by unfold stc; simp only [List.append_assoc, List.append_nil]
theorem len2 (s : Es) : ([.int .i64 s.sd, .int .i64 s.tm] : List Value).length = 2 := rfl
theorem len66 (s : Es) : ([.int .i64 s.sd, .int .i64 s.tm] ++ bkc s.pu : List Value).length = 66 := by simp only [List.length_append, bkc_len, List.length_cons, List.length_nil]
theorem len130 (s : Es) : ([.int .i64 s.sd, .int .i64 s.tm] ++ (bkc s.pu ++ bkc s.va) : List Value).length = 130 := by simp only [List.length_append, bkc_len, List.length_cons, List.length_nil]
theorem len138 (s : Es) : ([.int .i64 s.sd, .int .i64 s.tm] ++ (bkc s.pu ++ (bkc s.va ++ noc s.no)) : List Value).length = 138 := by simp only [List.length_append, bkc_len, noc_len, List.length_cons, List.length_nil]
theorem len146 (s : Es) : ([.int .i64 s.sd, .int .i64 s.tm] ++ (bkc s.pu ++ (bkc s.va ++ (noc s.no ++ hec s.he))) : List Value).length = 146 := by simp only [List.length_append, bkc_len, noc_len, hec_len, List.length_cons, List.length_nil]
theorem len150 (s : Es) : ([.int .i64 s.sd, .int .i64 s.tm] ++ (bkc s.pu ++ (bkc s.va ++ (noc s.no ++ (hec s.he ++ ws (nw s.bu))))) : List Value).length = 150 := by simp only [List.length_append, bkc_len, noc_len, hec_len, ws_len, List.length_cons, List.length_nil]
theorem st_all (s : Es) (v : Value) : ((stc s v).drop 0).take 151 = stc s v := by rw [List.drop_zero, List.take_of_length_le (by rw [stc_len]; exact Nat.le_refl _)]
theorem st_pu (s : Es) (v : Value) : ((stc s v).drop 2).take 64 = bkc s.pu := by rw [stc_pu]; exact part_at (len2 s) (bkc_len _)
theorem st_puS (s : Es) (v : Value) {j : Nat} (hj : j < 16) : ((stc s v).drop (2 + 4 * j)).take 4 = ws (nw (s.pu j)) := by
 rw [stc_pu, part_in (len2 s) (4 * j) 4 (by rw [bkc_len]; omega)]; exact bkc_part s.pu hj
theorem st_va (s : Es) (v : Value) : ((stc s v).drop 66).take 64 = bkc s.va := by rw [stc_va]; exact part_at (len66 s) (bkc_len _)
theorem st_vaS (s : Es) (v : Value) {j : Nat} (hj : j < 16) : ((stc s v).drop (66 + 4 * j)).take 4 = ws (nw (s.va j)) := by
 rw [stc_va, part_in (len66 s) (4 * j) 4 (by rw [bkc_len]; omega)]; exact bkc_part s.va hj
theorem st_no (s : Es) (v : Value) : ((stc s v).drop 130).take 8 = noc s.no := by rw [stc_no]; exact part_at (len130 s) (noc_len _)
theorem st_noS (s : Es) (v : Value) {i : Nat} (hi : i < 8) : (stc s v)[130 + i]? = some (.int .i64 (s.no i)) := by
 rw [stc_no, cell_in (len130 s) i (by rw [noc_len]; exact hi), noc_at _ hi]
theorem st_he (s : Es) (v : Value) : ((stc s v).drop 138).take 8 = hec s.he := by rw [stc_he]; exact part_at (len138 s) (hec_len _)
theorem hec_part (h : Bk) {a : Nat} (ha : a < 2) : ((hec h).drop (4 * a)).take 4 = ws (nw (h a)) := by
 unfold hec
 rw [rowB_drop h 0 2 (by omega), Nat.zero_add, show 4 = 4 * 1 from rfl, rowB_take h a (2 - a) (by omega), rowB, rowB, List.append_nil]
theorem st_heS (s : Es) (v : Value) {a : Nat} (ha : a < 2) : ((stc s v).drop (138 + 4 * a)).take 4 = ws (nw (s.he a)) := by
 rw [stc_he, part_in (len138 s) (4 * a) 4 (by rw [hec_len]; omega)]; exact hec_part _ ha
theorem st_bu (s : Es) (v : Value) : ((stc s v).drop 146).take 4 = ws (nw s.bu) := by rw [stc_bu]; exact part_at (len146 s) (ws_len _)
theorem st_lk (s : Es) (v : Value) : (stc s v)[150]? = some v := by rw [stc_lk]; exact cell_in (len150 s) 0 (by simp)
theorem set_tm (s : Es) (v : Value) (z : Int) : (stc s v).set 1 (.int .i64 z) = stc { s with tm := z } v := rfl
theorem set_pu (s : Es) (v : Value) (b : Bk) : laid (stc s v) 2 (bkc b) = stc { s with pu := b } v := by
 rw [stc_pu, stc_pu, laid_at (len2 s) (by rw [bkc_len, bkc_len])]
theorem set_puS (s : Es) (v : Value) (n : Nat) {j : Nat} (hj : j < 16) : laid (stc s v) (2 + 4 * j) (ws (nw n)) = stc { s with pu := updB s.pu j n } v := by
 rw [stc_pu, stc_pu, laid_in (len2 s) _ (4 * j) (by rw [bkc_len, ws_len]; omega), bkc_set _ _ hj]
theorem set_va (s : Es) (v : Value) (b : Bk) : laid (stc s v) 66 (bkc b) = stc { s with va := b } v := by
 rw [stc_va, stc_va, laid_at (len66 s) (by rw [bkc_len, bkc_len])]
theorem set_vaS (s : Es) (v : Value) (n : Nat) {j : Nat} (hj : j < 16) : laid (stc s v) (66 + 4 * j) (ws (nw n)) = stc { s with va := updB s.va j n } v := by
 rw [stc_va, stc_va, laid_in (len66 s) _ (4 * j) (by rw [bkc_len, ws_len]; omega), bkc_set _ _ hj]
theorem set_noS (s : Es) (v : Value) (z : Int) {i : Nat} (hi : i < 8) : (stc s v).set (130 + i) (.int .i64 z) = stc { s with no := updNo s.no i z } v := by
 rw [stc_no, stc_no, set_in (len130 s) i _ (by rw [noc_len]; exact hi), noc_set _ hi]
theorem hec_set (h : Bk) (n : Nat) {a : Nat} (ha : a < 2) : laid (hec h) (4 * a) (ws (nw n)) = hec (updB h a n) := by
 match a, ha with
 | 0, _ => rfl
 | 1, _ => rfl
theorem set_heS (s : Es) (v : Value) (n : Nat) {a : Nat} (ha : a < 2) : laid (stc s v) (138 + 4 * a) (ws (nw n)) = stc { s with he := updB s.he a n } v := by
 rw [stc_he, stc_he, laid_in (len138 s) _ (4 * a) (by rw [hec_len, ws_len]; omega), hec_set _ _ ha]
theorem set_bu (s : Es) (v : Value) (n : Nat) : laid (stc s v) 146 (ws (nw n)) = stc { s with bu := n } v := by
 rw [stc_bu, stc_bu, laid_at (len146 s) (by rw [ws_len, ws_len])]
theorem set_lk (s : Es) (v u : Value) : (stc s v).set 150 u = stc s u := by
 rw [stc_lk, stc_lk]; exact set_in (len150 s) 0 u (by simp)
theorem stc_one (s : Es) (v : Value) (hv : v.oneCell' = true) : (stc s v).all (·.oneCell') = true := by
 have hb : ∀ b : Bk, (bkc b).all (·.oneCell') = true := fun b => by
  have h : ∀ s n, (rowB b s n).all (·.oneCell') = true := fun s n => by
   induction n generalizing s with
   | zero => rfl
   | succ n ih => rw [rowB, List.all_append, ih]; rfl
  exact h 0 16
 have hh : (hec s.he).all (·.oneCell') = true := rfl
 have hn : (noc s.no).all (·.oneCell') = true := rfl
 have hw : (ws (nw s.bu)).all (·.oneCell') = true := rfl
 unfold stc
 simp only [List.all_append, hb, hh, hn, hw, List.all_cons, List.all_nil, hv, Bool.and_true]
 rfl
end Go.Proofs.YthhmdgmmeedhdaaGreat
namespace Go.Proofs.YthhmdgmmeedhdaaGreat
open Go.RowKit Go.Shelf
theorem load_tx {W : World} {B : Nat} {t : Tr} (h : Blk W B 50 (txc t)) : (Instr.loadAt 50 (.pointer (some ⟨B, 0, none⟩))).run Tryz.prog W = .ok (txv t) W :=
 load_part h 0 (txc t) rfl _ _ Tryz.underlying50 rfl (by kernel_rfl)
theorem load_am {W : World} {B : Nat} {t : Tr} (h : Blk W B 50 (txc t)) : (Instr.loadAt 27 (.pointer (some ⟨B, 4, none⟩))).run Tryz.prog W = .ok (wv t.a0 t.a1 t.a2 t.a3) W :=
 load_part h 4 [.int .u64 (t.a0 : Nat), .int .u64 (t.a1 : Nat), .int .u64 (t.a2 : Nat), .int .u64 (t.a3 : Nat)] rfl _ _ Tryz.underlying27 rfl (by kernel_rfl)
theorem load_iv {W : World} {B : Nat} {t : Tr} (h : Blk W B 50 (txc t)) : (Instr.loadAt 46 (.pointer (some ⟨B, 8, none⟩))).run Tryz.prog W = .ok (ivv t.iv) W :=
 load_part h 8 (ivc t.iv) rfl _ _ Tryz.underlying46 rfl (by kernel_rfl)
theorem load_vr {W : World} {B : Nat} {t : Tr} (h : Blk W B 50 (txc t)) : (Instr.loadAt 48 (.pointer (some ⟨B, 15, none⟩))).run Tryz.prog W = .ok (svv t.vr) W :=
 load_part h 15 (svc t.vr) rfl _ _ Tryz.underlying48 rfl (by kernel_rfl)
end Go.Proofs.YthhmdgmmeedhdaaGreat
namespace Go.Proofs.YthhmdgmmeedhdaaGreat
open Go.RowKit Go.Shelf
theorem bkc_size (b : Bk) : (bkc b).toArray.size = 64 := by rw [List.size_toArray, bkc_len]
theorem info_book : (Tryz.prog.info? 30).map (·.size) = some 64 := by kernel_rfl
theorem info_wide : (Tryz.prog.info? 27).map (·.size) = some 4 := by kernel_rfl
theorem load_book {W : World} {B : Nat} {T : TypeId} {b : Bk} (h : Blk W B T (bkc b)) : (Instr.loadAt 30 (.pointer (some ⟨B, 0, none⟩))).run Tryz.prog W = .ok (bkv b) W :=
 load_part h 0 (bkc b) (by rw [List.drop_zero, List.take_length]) _ _ Tryz.underlying30 rfl (by rw [bkc_len]; exact info_book)
theorem off_slot {i j : Nat} : i * 8 + j * 4 = 4 * (2 * i + j) := by omega
theorem load_slot {W : World} {B : Nat} {T : TypeId} {b : Bk} (h : Blk W B T (bkc b)) {i j : Nat} (hi : i < 8) (hj : j < 2) : (Instr.loadAt 27 (.pointer (some ⟨B, i * 8 + j * 4, none⟩))).run Tryz.prog W = .ok (wn (b (2 * i + j))) W := by
 rw [off_slot]
 exact load_part h (4 * (2 * i + j)) (ws (nw (b (2 * i + j)))) (by rw [ws_len]; exact bkc_part b (by omega)) _ _ Tryz.underlying27 rfl (by rw [ws_len]; exact info_wide)
theorem load_wn {W : World} {B : Nat} {T : TypeId} {n : Nat} (h : Blk W B T (ws (nw n))) : (Instr.loadAt 27 (.pointer (some ⟨B, 0, none⟩))).run Tryz.prog W = .ok (wn n) W :=
 load_part h 0 (ws (nw n)) rfl _ _ Tryz.underlying27 rfl (by kernel_rfl)
abbrev noK : Bk := fun _ => 0
theorem bkc_no : bkc noK = List.replicate 64 (.int .u64 0) := by
 have h : ∀ s n, rowB noK s n = List.replicate (4 * n) (.int .u64 0) := fun s n => by
  induction n generalizing s with
  | zero => rfl
  | succ n ih => rw [rowB, ih]; unfold noK ws; rw [nw_zero, nw_zero, nw_zero, nw_zero, show 4 * (n + 1) = 4 * n + 1 + 1 + 1 + 1 by omega]; simp only [List.replicate_succ]; rfl
 exact h 0 16
theorem ws_no : ws (nw 0) = [.int .u64 0, .int .u64 0, .int .u64 0, .int .u64 0] := by unfold ws; rw [nw_zero, nw_zero, nw_zero, nw_zero]; rfl
theorem row_book {vs : List Value} (b : Bk) (h : vs.length = 64) : laid vs 0 (bkc b) = bkc b := by
 unfold laid
 rw [bkc_len, List.take_zero, Nat.zero_add, List.drop_of_length_le (by omega), List.nil_append, List.append_nil]
theorem one_book (b : Bk) : (bkc b).all (·.oneCell') = true := by
 have h : ∀ s n, (rowB b s n).all (·.oneCell') = true := fun s n => by
  induction n generalizing s with
  | zero => rfl
  | succ n ih => rw [rowB, List.all_append, ih]; rfl
 exact h 0 16
theorem row_slot (b : Bk) (n : Nat) {i j : Nat} (hi : i < 8) (hj : j < 2) : laid (bkc b) (i * 8 + j * 4) (ws (nw n)) = bkc (updB b (2 * i + j) n) := by
 rw [off_slot]; exact bkc_set b n (by omega)
theorem row_wn (n : Nat) (m : Nat) : laid (ws (nw m)) 0 (ws (nw n)) = ws (nw n) := rfl
theorem wpList_store_book {ops : Array Oper} {rest : List Oper} {o : Oper} {a : Act} {w : World} {Q : Exit → Act → World → Prop} {T : TypeId} (x y : Operand) {vs : List Value} {B : Nat} (hB : Blk w B T vs) (hv : vs.length = 64) (b : Bk) (ho : o.op = .store 30 x y) (hd : o.dst = none) (hgd : o.guard = none)
  (hx : a.eval x = .pointer (some ⟨B, 0, none⟩)) (hy : a.eval y = bkv b)
  (h : wpList Tryz.prog ops Q rest a (w.setRow B (bkc b).toArray)) : wpList Tryz.prog ops Q (o :: rest) a w :=
 wpList_store_part 30 x y (bkc b) hB 0 (bkv b) (bkc b) ho hd hgd hx hy rfl (by rw [bkc_len]; exact info_book) (by rw [bkc_len, hv]; exact Nat.le_refl _) (one_book b) (row_book b hv) h
theorem wpList_store_slot {ops : Array Oper} {rest : List Oper} {o : Oper} {a : Act} {w : World} {Q : Exit → Act → World → Prop} {T : TypeId} (x y : Operand) {b : Bk} {B : Nat} (hB : Blk w B T (bkc b)) {i j : Nat} (hi : i < 8) (hj : j < 2) (n : Nat) (ho : o.op = .store 27 x y) (hd : o.dst = none) (hgd : o.guard = none)
  (hx : a.eval x = .pointer (some ⟨B, i * 8 + j * 4, none⟩)) (hy : a.eval y = wn n)
  (h : wpList Tryz.prog ops Q rest a (w.setRow B (bkc (updB b (2 * i + j) n)).toArray)) : wpList Tryz.prog ops Q (o :: rest) a w :=
 wpList_store_part 27 x y (bkc (updB b (2 * i + j) n)) hB (i * 8 + j * 4) (wn n) (ws (nw n)) ho hd hgd hx hy rfl (by kernel_rfl) (by rw [ws_len, bkc_len]; omega) rfl (row_slot b n hi hj) h
theorem wp_store_slot {o : Oper} {a : Act} {w : World} {K : Act → World → Prop} {Q : Exit → Act → World → Prop} {T : TypeId} (x y : Operand) {b : Bk} {B : Nat} (hB : Blk w B T (bkc b)) {i j : Nat} (hi : i < 8) (hj : j < 2) (n : Nat) (ho : o.op = .store 27 x y) (hd : o.dst = none)
  (hx : a.eval x = .pointer (some ⟨B, i * 8 + j * 4, none⟩)) (hy : a.eval y = wn n)
  (h : K a (w.setRow B (bkc (updB b (2 * i + j) n)).toArray)) : o.wp Tryz.prog a w K Q :=
 wp_store_part 27 x y (bkc (updB b (2 * i + j) n)) hB (i * 8 + j * 4) (wn n) (ws (nw n)) ho hd hx hy rfl (by kernel_rfl) (by rw [ws_len, bkc_len]; omega) rfl (row_slot b n hi hj) h
theorem wp_store_wn {o : Oper} {a : Act} {w : World} {K : Act → World → Prop} {Q : Exit → Act → World → Prop} {T : TypeId} (x y : Operand) {m : Nat} {B : Nat} (hB : Blk w B T (ws (nw m))) (n : Nat) (ho : o.op = .store 27 x y) (hd : o.dst = none)
  (hx : a.eval x = .pointer (some ⟨B, 0, none⟩)) (hy : a.eval y = wn n)
  (h : K a (w.setRow B (ws (nw n)).toArray)) : o.wp Tryz.prog a w K Q :=
 wp_store_part 27 x y (ws (nw n)) hB 0 (wn n) (ws (nw n)) ho hd hx hy rfl (by kernel_rfl) (Nat.le_refl _) rfl (row_wn n m) h
theorem wpList_storeN_book {ops : Array Oper} {rest : List Oper} {o : Oper} {a : Act} {W : World} {c : Array Value} {Q : Exit → Act → World → Prop} {T : TypeId} (x y : Operand) (hv : c.size = 64) (b : Bk) (ho : o.op = .store 30 x y) (hd : o.dst = none) (hgd : o.guard = none)
  (hx : a.eval x = .pointer (some ⟨W.heap.size, 0, none⟩)) (hy : a.eval y = bkv b)
  (h : wpList Tryz.prog ops Q rest a (W.alloc (.cells (bkc b).toArray T))) : wpList Tryz.prog ops Q (o :: rest) a (W.alloc (.cells c T)) := by
 have hB : Blk (W.alloc (.cells c T)) W.heap.size T c.toList := Blk.new W T c.toList
 refine wpList_store_book x y hB (by simpa using hv) b ho hd hgd hx hy ?_
 rw [World.setRow_alloc_new]
 exact h
end Go.Proofs.YthhmdgmmeedhdaaGreat
namespace Go.Proofs.YthhmdgmmeedhdaaGreat
open Go.RowKit Go.Shelf
def addLo (x y c : Nat) : Nat := (x + y + c) % M
def addHi (x y c : Nat) : Nat := (x + y + c) / M
def subLo (x y b : Nat) : Nat := (x + M - y - b) % M
def subHi (x y b : Nat) : Nat := if x < y + b then 1 else 0
theorem run_bitsAdd64 (x y c : Nat) (hc : c ≤ 1) (w : World) :
  (callFunc 95 #[.int .u64 x, .int .u64 y, .int .u64 c]).run Tryz.prog w = .ok (.value (.tuple #[.int .u64 (addLo x y c : Nat), .int .u64 (addHi x y c : Nat)])) w := by
 rw [run_callFunc_extern Tryz.func95 (by kernel_rfl) (by kernel_rfl) (by kernel_rfl) (e := add64Entry) (by kernel_rfl), run_add64 x y c (by omega) (by omega) (by omega) (by omega)]
 simp only [Result.andThen, addLo, addHi, M]
 congr 5 <;> omega
theorem run_bitsSub64 (x y b : Nat) (hb : b ≤ 1) (w : World) :
  (callFunc 125 #[.int .u64 x, .int .u64 y, .int .u64 b]).run Tryz.prog w = .ok (.value (.tuple #[.int .u64 (subLo x y b : Nat), .int .u64 (subHi x y b : Nat)])) w := by
 rw [run_callFunc_extern Tryz.func125 (by kernel_rfl) (by kernel_rfl) (by kernel_rfl) (e := sub64Entry) (by kernel_rfl), run_sub64 x y b hb]
 rfl
theorem addHi_le {x y c : Nat} (hx : x < M) (hy : y < M) (hc : c ≤ 1) : addHi x y c ≤ 1 := by
 unfold addHi M at *; omega
end Go.Proofs.YthhmdgmmeedhdaaGreat
namespace Go.Proofs.YthhmdgmmeedhdaaGreat
open Go.RowKit Go.Shelf
attribute [local go_sem] Oper.semAt_some
def ups {a0 a1 a2 a3 : Nat} (h : Ok4 a0 a1 a2 a3) : List PW := [pw 0 a0 (by omega) h.h0, pw 1 a1 (by omega) h.h1, pw 2 a2 (by omega) h.h2, pw 3 a3 (by omega) h.h3]
theorem index_arr4 (x0 x1 x2 x3 : Value) (w : World) :
  (Instr.index 27 (.agg #[x0, x1, x2, x3]) (.int .i64 0)).run Tryz.prog w = .ok x0 w ∧ (Instr.index 27 (.agg #[x0, x1, x2, x3]) (.int .i64 1)).run Tryz.prog w = .ok x1 w ∧
  (Instr.index 27 (.agg #[x0, x1, x2, x3]) (.int .i64 2)).run Tryz.prog w = .ok x2 w ∧ (Instr.index 27 (.agg #[x0, x1, x2, x3]) (.int .i64 3)).run Tryz.prog w = .ok x3 w :=
 ⟨by kernel_rfl, by kernel_rfl, by kernel_rfl, by kernel_rfl⟩
set_option maxRecDepth 100000 in
set_option maxHeartbeats 2000000 in
theorem up1_stops (F : Fence) (n : Nat) (h : F.fn 126) (hro : F.round = none) (hn : 1 ≤ n) {a0 a1 a2 a3 : Nat} (ha : Ok4 a0 a1 a2 a3) (B : Nat) (w : World) (hB : B < w.heap.size)
  (hb0 : w.cell? ⟨B, 0, none⟩ = some (.int .u64 a0)) (hb1 : w.cell? ⟨B, 1, none⟩ = some (.int .u64 a1)) (hb2 : w.cell? ⟨B, 2, none⟩ = some (.int .u64 a2)) (hb3 : w.cell? ⟨B, 3, none⟩ = some (.int .u64 a3)) :
  SeqStopsK F n Tryz.prog 126 #[.pointer (some ⟨B, 0, none⟩)] pwEnc (fun _ _ => True) (fun ys => ys = ups ha) (fun _ => True) 4 w := fun l J Jx W hW _ _ hY h0 => by
 have hb0' := (hW.cell (p := ⟨B, 0, none⟩) hB).trans hb0
 have hb1' := (hW.cell (p := ⟨B, 1, none⟩) hB).trans hb1
 have hb2' := (hW.cell (p := ⟨B, 2, none⟩) hB).trans hb2
 have hb3' := (hW.cell (p := ⟨B, 3, none⟩) hB).trans hb3
 clear hb0 hb1 hb2 hb3
 refine callsIn_of_wp Tryz.func126 rfl h ?_ hro
 simp only [Tryz.ntmps126, List.size_toArray, List.length_cons, List.length_nil, Nat.reduceAdd, Nat.reduceSub, Array.replicate_succ, Array.replicate_zero, List.push_toArray, List.append_toArray, List.nil_append, List.cons_append]
 gi_wp2
 clear hb0' hb1' hb2' hb3'
 gi_loopw [6] (fun i wr => ∃ k : Nat, k ≤ 4 ∧ i = .int .i64 k ∧ J ((ups ha).take k) wr) (fun i _ => 4 - (intOf i).toNat)
 case atStart => exact ⟨0, by omega, rfl, h0⟩
 case round =>
  obtain ⟨k, hk, rfl, hJs⟩ := hrel
  have hx := index_arr4 (.int .u64 (a0 : Int)) (.int .u64 (a1 : Int)) (.int .u64 (a2 : Int)) (.int .u64 (a3 : Int)) wr
  obtain ⟨hx0, hx1, hx2, hx3⟩ := hx
  have hk' : k = 0 ∨ k = 1 ∨ k = 2 ∨ k = 3 ∨ k = 4 := by omega
  rcases hk' with rfl | rfl | rfl | rfl | rfl
  ·
   obtain ⟨fn, tmps, assign, body, hy, hR⟩ := hY _ (pw 0 a0 (by omega) ha.h0) wr hJs (by simp [ups])
   change (Instr.yield l #[.int .i64 0, .int .u64 (a0 : Int)]).run _ _ = _ at hy
   gi_wp2
   refine hR.mono ?_
   rintro e W3 (⟨rfl, hJ3, hk3⟩ | ⟨rfl, hJx3⟩)
   ·
    gi_wp2
    go_roundw
    case rel => exact ⟨1, by omega, by simp, hJ3⟩
    case measure => simp [intOf]
   ·
    gi_wp2
    refine bodyPost_ret (results_none rfl _ _ _) rfl ?_
    exact ⟨⟨_, rfl⟩, .inr ⟨_, trivial, hJx3⟩⟩
  ·
   obtain ⟨fn, tmps, assign, body, hy, hR⟩ := hY _ (pw 1 a1 (by omega) ha.h1) wr hJs (by simp [ups])
   change (Instr.yield l #[.int .i64 1, .int .u64 (a1 : Int)]).run _ _ = _ at hy
   gi_wp2
   refine hR.mono ?_
   rintro e W3 (⟨rfl, hJ3, hk3⟩ | ⟨rfl, hJx3⟩)
   ·
    gi_wp2
    go_roundw
    case rel => exact ⟨2, by omega, by simp, hJ3⟩
    case measure => simp [intOf]
   ·
    gi_wp2
    refine bodyPost_ret (results_none rfl _ _ _) rfl ?_
    exact ⟨⟨_, rfl⟩, .inr ⟨_, trivial, hJx3⟩⟩
  ·
   obtain ⟨fn, tmps, assign, body, hy, hR⟩ := hY _ (pw 2 a2 (by omega) ha.h2) wr hJs (by simp [ups])
   change (Instr.yield l #[.int .i64 2, .int .u64 (a2 : Int)]).run _ _ = _ at hy
   gi_wp2
   refine hR.mono ?_
   rintro e W3 (⟨rfl, hJ3, hk3⟩ | ⟨rfl, hJx3⟩)
   ·
    gi_wp2
    go_roundw
    case rel => exact ⟨3, by omega, by simp, hJ3⟩
    case measure => simp [intOf]
   ·
    gi_wp2
    refine bodyPost_ret (results_none rfl _ _ _) rfl ?_
    exact ⟨⟨_, rfl⟩, .inr ⟨_, trivial, hJx3⟩⟩
  ·
   obtain ⟨fn, tmps, assign, body, hy, hR⟩ := hY _ (pw 3 a3 (by omega) ha.h3) wr hJs (by simp [ups])
   change (Instr.yield l #[.int .i64 3, .int .u64 (a3 : Int)]).run _ _ = _ at hy
   gi_wp2
   refine hR.mono ?_
   rintro e W3 (⟨rfl, hJ3, hk3⟩ | ⟨rfl, hJx3⟩)
   ·
    gi_wp2
    go_roundw
    case rel => exact ⟨4, by omega, by simp, hJ3⟩
    case measure => simp [intOf]
   ·
    gi_wp2
    refine bodyPost_ret (results_none rfl _ _ _) rfl ?_
    exact ⟨⟨_, rfl⟩, .inr ⟨_, trivial, hJx3⟩⟩
  ·
   gi_wp2
   go_end0
   exact ⟨⟨_, rfl⟩, .inl ⟨_, rfl, hJs⟩⟩
set_option maxHeartbeats 1000000 in
theorem up_in (F : Fence) (n : Nat) (h : F.fn 94) (hro : F.round = none) (a0 a1 a2 a3 : Nat) (w : World) :
  CallsIn F n Tryz.prog 94 #[wv a0 a1 a2 a3] w fun e w' => e = .returned (.func (.func 126) #[] #[.pointer (some ⟨w.heap.size, 0, none⟩)]) ∧ w' = w.alloc (.cells #[.int .u64 a0, .int .u64 a1, .int .u64 a2, .int .u64 a3] 27) := by
 refine callsIn_of_wp Tryz.func94 rfl h ?_ hro
 simp only [Tryz.ntmps94, List.size_toArray, List.length_cons, List.length_nil, Nat.reduceAdd, Nat.reduceSub, Array.replicate_succ, Array.replicate_zero, List.push_toArray, List.append_toArray, List.nil_append, List.cons_append]
 gi_wp2
 go_ret
 exact ⟨rfl, rfl⟩
end Go.Proofs.YthhmdgmmeedhdaaGreat
namespace Go.Proofs.YthhmdgmmeedhdaaGreat
open Go.RowKit
def stpG (lo hi : Nat → Nat → Nat → Nat) (b : Nat → Nat) (s : (Nat → Nat) × Nat) (x : PW) : (Nat → Nat) × Nat := (upd s.1 x.1.1 (lo x.1.2 (b x.1.1) s.2), hi x.1.2 (b x.1.1) s.2)
def foldG (lo hi : Nat → Nat → Nat → Nat) (b : Nat → Nat) (pre : List PW) : (Nat → Nat) × Nat := pre.foldl (stpG lo hi b) (fun _ => 0, 0)
theorem foldG_snoc (lo hi : Nat → Nat → Nat → Nat) (b : Nat → Nat) (pre : List PW) (x : PW) : foldG lo hi b (pre ++ [x]) = stpG lo hi b (foldG lo hi b pre) x := by simp [foldG]
theorem foldG_all (lo hi : Nat → Nat → Nat → Nat) {a0 a1 a2 a3 b0 b1 b2 b3 : Nat} (ha : Ok4 a0 a1 a2 a3) :
  ws (foldG lo hi (word b0 b1 b2 b3) (ups ha)).1 = [.int .u64 (lo a0 b0 0 : Nat), .int .u64 (lo a1 b1 (hi a0 b0 0) : Nat), .int .u64 (lo a2 b2 (hi a1 b1 (hi a0 b0 0)) : Nat), .int .u64 (lo a3 b3 (hi a2 b2 (hi a1 b1 (hi a0 b0 0))) : Nat)] ∧
  (foldG lo hi (word b0 b1 b2 b3) (ups ha)).2 = hi a3 b3 (hi a2 b2 (hi a1 b1 (hi a0 b0 0))) := ⟨rfl, rfl⟩
def addF (b : Nat → Nat) (pre : List PW) : (Nat → Nat) × Nat := foldG addLo addHi b pre
def subF (b : Nat → Nat) (pre : List PW) : (Nat → Nat) × Nat := foldG subLo subHi b pre
theorem addF_snoc (b : Nat → Nat) (pre : List PW) (x : PW) : addF b (pre ++ [x]) = stpG addLo addHi b (addF b pre) x := foldG_snoc addLo addHi b pre x
theorem subF_snoc (b : Nat → Nat) (pre : List PW) (x : PW) : subF b (pre ++ [x]) = stpG subLo subHi b (subF b pre) x := foldG_snoc subLo subHi b pre x
theorem addLoHi {x y c : Nat} (hx : x < M) (hy : y < M) (hc : c ≤ 1) : addLo x y c < M ∧ addHi x y c ≤ 1 ∧ addLo x y c + M * addHi x y c = x + y + c := by
 unfold addLo addHi M at *; omega
theorem addF_sum {a0 a1 a2 a3 b0 b1 b2 b3 : Nat} (ha : Ok4 a0 a1 a2 a3) (hb : Ok4 b0 b1 b2 b3) :
  ∃ s0 s1 s2 s3 c, Ok4 s0 s1 s2 s3 ∧ c ≤ 1 ∧ ws (addF (word b0 b1 b2 b3) (ups ha)).1 = [.int .u64 (s0 : Nat), .int .u64 (s1 : Nat), .int .u64 (s2 : Nat), .int .u64 (s3 : Nat)] ∧ (addF (word b0 b1 b2 b3) (ups ha)).2 = c ∧
   val a0 a1 a2 a3 + val b0 b1 b2 b3 = val s0 s1 s2 s3 + M4 * c := by
 obtain ⟨g0, e0, f0⟩ := addLoHi (c := 0) ha.h0 hb.h0 (by omega)
 obtain ⟨g1, e1, f1⟩ := addLoHi ha.h1 hb.h1 e0
 obtain ⟨g2, e2, f2⟩ := addLoHi ha.h2 hb.h2 e1
 obtain ⟨g3, e3, f3⟩ := addLoHi ha.h3 hb.h3 e2
 refine ⟨_, _, _, _, _, ⟨g0, g1, g2, g3⟩, e3, (foldG_all addLo addHi ha).1, (foldG_all addLo addHi ha).2, ?_⟩
 generalize addLo a3 b3 _ = s3 at *
 generalize addHi a3 b3 _ = c3 at *
 generalize addLo a2 b2 _ = s2 at *
 generalize addHi a2 b2 _ = c2 at *
 generalize addLo a1 b1 _ = s1 at *
 generalize addHi a1 b1 _ = c1 at *
 generalize addLo a0 b0 _ = s0 at *
 generalize addHi a0 b0 _ = c0 at *
 unfold val M4 M at *
 omega
theorem subLoHi {x y c : Nat} (hx : x < M) (hy : y < M) (hc : c ≤ 1) : subLo x y c < M ∧ subHi x y c ≤ 1 ∧ subLo x y c + y + c = x + M * subHi x y c := by
 unfold subLo subHi M at *
 split <;> omega
theorem subHi_le (x y c : Nat) : subHi x y c ≤ 1 := by unfold subHi; split <;> omega
theorem borrow_step {s y c x c' S Y X K : Nat} (h1 : s + y + c = x + M * c') (h2 : S + Y + c' = X + K) : s + M * S + (y + M * Y) + c = x + M * X + M * K := by
 have e : M * (S + Y + c') = M * (X + K) := by rw [h2]
 rw [Nat.mul_add, Nat.mul_add, Nat.mul_add] at e
 omega
theorem subF_diff {a0 a1 a2 a3 b0 b1 b2 b3 : Nat} (ha : Ok4 a0 a1 a2 a3) (hb : Ok4 b0 b1 b2 b3) :
  ∃ s0 s1 s2 s3 c, Ok4 s0 s1 s2 s3 ∧ c ≤ 1 ∧ ws (subF (word b0 b1 b2 b3) (ups ha)).1 = [.int .u64 (s0 : Nat), .int .u64 (s1 : Nat), .int .u64 (s2 : Nat), .int .u64 (s3 : Nat)] ∧ (subF (word b0 b1 b2 b3) (ups ha)).2 = c ∧
   val s0 s1 s2 s3 + val b0 b1 b2 b3 = val a0 a1 a2 a3 + M4 * c := by
 obtain ⟨g0, e0, f0⟩ := subLoHi (c := 0) ha.h0 hb.h0 (by omega)
 obtain ⟨g1, e1, f1⟩ := subLoHi ha.h1 hb.h1 e0
 obtain ⟨g2, e2, f2⟩ := subLoHi ha.h2 hb.h2 e1
 obtain ⟨g3, e3, f3⟩ := subLoHi ha.h3 hb.h3 e2
 refine ⟨_, _, _, _, _, ⟨g0, g1, g2, g3⟩, e3, (foldG_all subLo subHi ha).1, (foldG_all subLo subHi ha).2, ?_⟩
 have t3 := borrow_step f2 f3
 have t2 := borrow_step f1 t3
 have t1 := borrow_step f0 t2
 rw [Nat.add_zero] at t1
 refine t1.trans ?_
 unfold val M4
 rw [Nat.mul_assoc, Nat.mul_assoc, Nat.mul_assoc]
end Go.Proofs.YthhmdgmmeedhdaaGreat
namespace Go.Proofs.YthhmdgmmeedhdaaGreat
open Go.RowKit Go.Shelf
attribute [local go_sem] Oper.semAt_some
set_option maxRecDepth 100000 in
set_option maxHeartbeats 2000000 in
theorem add_in (n : Nat) (hn : 3 ≤ n) {a0 a1 a2 a3 b0 b1 b2 b3 : Nat} (ha : Ok4 a0 a1 a2 a3) (hb : Ok4 b0 b1 b2 b3) (w : World) :
  CallsIn Fence.wide n Tryz.prog 61 #[wv a0 a1 a2 a3, wv b0 b1 b2 b3] w (AddW (val a0 a1 a2 a3 + val b0 b1 b2 b3) w) := by
 have h1 : 1 ≤ n := by omega
 refine callsIn_of_wp_marks Tryz.func61 rfl trivial ?_ rfl
 simp only [Tryz.ntmps61, List.size_toArray, List.length_cons, List.length_nil, Nat.reduceAdd, Nat.reduceSub, Array.replicate_succ, Array.replicate_zero, List.push_toArray, List.append_toArray, List.nil_append, List.cons_append]
 gi_wp2_with (refine ⟨trivial, ?_⟩; gi_at_call 94; refine (up_in Fence.wide (n - 1) trivial rfl _ _ _ _ _).mono ?_; rintro e w' ⟨rfl, rfl⟩)
 generalize hW5 : World.alloc _ _ = W5
 have k1 : Blk W5 (w.heap.size + 1) 27 (ws (word b0 b1 b2 b3)) := by rw [← hW5]; exact ((((Blk.new' (by simp)).alloc _).alloc _).alloc _).alloc _
 have k2 : Blk W5 (w.heap.size + 1 + 1) 27 (ws (fun _ => 0)) := by rw [← hW5]; exact (((Blk.new' (by simp)).alloc _).alloc _).alloc _
 have k3 : Blk W5 (w.heap.size + 1 + 1 + 1) 27 (ws (fun _ => 0)) := by rw [← hW5]; exact ((Blk.new' (by simp)).alloc _).alloc _
 have k4 : Blk W5 (w.heap.size + 1 + 1 + 1 + 1) 25 [.int .u64 ((0 : Nat) : Int)] := by rw [← hW5]; exact (Blk.new' (by simp)).alloc _
 have k5 : Blk W5 (w.heap.size + 1 + 1 + 1 + 1 + 1) 27 (ws (word a0 a1 a2 a3)) := by rw [← hW5]; exact Blk.new' (by simp)
 have hB0 : Below w.heap.size w W5 := by rw [← hW5]; exact ((((((Below.refl _ w).alloc (Nat.le_refl _) _).alloc (by simp) _).alloc (by simp; omega) _).alloc (by simp; omega) _).alloc (by simp; omega) _).alloc (by simp; omega) _
 have hz : W5.heap.size = w.heap.size + 6 := by rw [← hW5]; simp
 clear hW5
 refine wpIn_rangeFunc_ownF (S := fun ys => ys = ups ha) rfl h1 (gf := 126) (lb := #[.pointer (some ⟨w.heap.size + 1 + 1 + 1 + 1 + 1, 0, none⟩)]) rfl trivial (enters_of Tryz.func126 (by kernel_rfl) rfl)
  (up1_stops Fence.wide (n - 1) trivial rfl (by omega) ha (w.heap.size + 1 + 1 + 1 + 1 + 1) W5 k5.lt (k5.cell 0) (k5.cell 1) (k5.cell 2) (k5.cell 3)) (fun _ _ => trivial) (fun _ _ _ _ _ _ _ _ => trivial) (Below.refl _ _) (fun _ => rfl)
  (fun pre W => ((Blk W (w.heap.size + 1) 27 (ws (word b0 b1 b2 b3)) ∧ Blk W (w.heap.size + 1 + 1) 27 (ws (fun _ => 0)) ∧ Blk W (w.heap.size + 1 + 1 + 1) 27 (ws (addF (word b0 b1 b2 b3) pre).1) ∧ Blk W (w.heap.size + 1 + 1 + 1 + 1) 25 [.int .u64 ((addF (word b0 b1 b2 b3) pre).2 : Nat)]) ∧ (addF (word b0 b1 b2 b3) pre).2 ≤ 1) ∧ Below w.heap.size w W)
  (fun _ _ _ => False)
  (OwnFrom.and (Own.from (fun s A B row hs hg hr => ⟨⟨blk_own _ _ (fun _ => _) s A B row hs.1.1 hg hr, blk_own _ _ (fun _ => _) s A B row hs.1.2.1 hg hr, blk_own _ _ (fun pre => ws (addF (word b0 b1 b2 b3) pre).1) s A B row hs.1.2.2.1 hg hr, blk_own _ _ (fun pre => [.int .u64 ((addF (word b0 b1 b2 b3) pre).2 : Nat)]) s A B row hs.1.2.2.2 hg hr⟩, hs.2⟩) _) (ownFrom_below (Nat.le_refl _) (by omega)))
  (fun _ _ _ _ _ hs _ _ => hs)
  ⟨⟨⟨k1, k2, k3, k4⟩, Nat.zero_le _⟩, hB0⟩
  (fun x => { tmps := #[wv a0 a1 a2 a3, wv b0 b1 b2 b3, .pointer (some ⟨w.heap.size, 0, none⟩), .pointer (some ⟨w.heap.size + 1, 0, none⟩), .pointer (some ⟨w.heap.size + 1 + 1, 0, none⟩), .bool false, .pointer (some ⟨w.heap.size + 1 + 1 + 1, 0, none⟩), .pointer (some ⟨w.heap.size + 1 + 1 + 1 + 1, 0, none⟩), .int .i64 (x.1.1 : Int), .int .u64 (x.1.2 : Int), wv a0 a1 a2 a3, .func (.func 126) #[] #[.pointer (some ⟨w.heap.size + 1 + 1 + 1 + 1 + 1, 0, none⟩)], .int .i64 (x.1.1 : Int), .int .u64 (x.1.2 : Int), undef, undef, undef, undef, undef, undef, undef, undef, undef, undef, undef, undef, undef, undef, undef], defers := [] }) ?assign ?body ?done ?stop
 case assign =>
  intro l x W K hK
  gi_wp2
  exact hK
 case body =>
  rintro l pre ⟨⟨i, x⟩, hi, hx⟩ W ⟨⟨⟨k1, k2, k3, k4⟩, hc⟩, hB⟩ _
  dsimp only at hi hx
  have hi' : (i : Int) < 4 := by omega
  have cb := k1.cell i
  rw [ws_at _ hi] at cb
  have cs := k3.cell i
  rw [ws_at _ hi] at cs
  have fs := k3.frozen i
  have cc : W.cell? ⟨w.heap.size + 1 + 1 + 1 + 1, 0, none⟩ = some (.int .u64 ((addF (word b0 b1 b2 b3) pre).2 : Nat)) := k4.cell 0
  have fc := k4.frozen 0
  have hadd := fun (w : World) => run_bitsAdd64 x (word b0 b1 b2 b3 i) (addF (word b0 b1 b2 b3) pre).2 hc w
  have hmx : Tryz.prog.follows .mixedOrders = true := by kernel_rfl
  gi_wp2
  refine wpIn_round_any hmx (by kernel_rfl) ?_
  refine wpAny_take (i := 0) (v := ?_) rfl (by kernel_rfl) (by kernel_rfl) (by kernel_rfl) (fun _ _ _ h => h) (Or.inl ⟨rfl, ?_⟩) ?_
  rotate_left
  ·
   intro w'; go_simp; with_reducible rfl
  refine wpAny_take (i := 1) (v := ?_) rfl (by kernel_rfl) (by kernel_rfl) (by kernel_rfl) (fun _ _ _ h => h) (Or.inl ⟨rfl, ?_⟩) ?_
  rotate_left
  ·
   intro w'; go_simp; with_reducible rfl
  refine wpAny_take (i := 2) (v := ?_) rfl (by kernel_rfl) (by kernel_rfl) (by kernel_rfl) (fun _ _ _ h => h) (Or.inl ⟨rfl, ?_⟩) ?_
  rotate_left
  ·
   intro w'; go_simp; with_reducible rfl
  refine wpAny_take (i := 3) (v := ?_) rfl (by kernel_rfl) (by kernel_rfl) (by kernel_rfl) (fun _ _ _ h => h) (Or.inl ⟨rfl, ?_⟩) ?_
  rotate_left
  ·
   intro w'; go_simp; with_reducible rfl
  refine wpAny_ready (rs := [4, 5]) (by kernel_rfl) (by simp) ?_
  refine AllReady.cons rfl (fun K hK => ?_) (AllReady.cons rfl (fun K hK => ?_) AllReady.nil)
  all_goals (go_simp; refine hK _ _ ?_; clear hK K)
  rotate_left
  refine wpAny_ready (rs := [4]) (by kernel_rfl) (by simp) ?_
  refine AllReady.cons rfl (fun K hK => ?_) AllReady.nil
  go_simp
  refine hK _ _ ?_
  clear hK K
  rotate_left
  refine wpAny_ready (rs := [5]) (by kernel_rfl) (by simp) ?_
  refine AllReady.cons rfl (fun K hK => ?_) AllReady.nil
  go_simp
  refine hK _ _ ?_
  clear hK K
  all_goals
   refine wpAny_ready (rs := [6]) (by kernel_rfl) (by simp) ?_
   refine AllReady.cons rfl (fun K hK => ?_) AllReady.nil
   go_simp
   refine hK _ _ ?_
   clear hK K
   refine wpAny_take (i := 7) (v := ?_) rfl (by kernel_rfl) (by kernel_rfl) (by kernel_rfl) (fun _ _ _ h => h) (Or.inl ⟨rfl, ?_⟩) ?_
   rotate_left
   ·
    intro w'; go_simp; with_reducible rfl
   refine wpAny_take (i := 8) (v := ?_) rfl (by kernel_rfl) (by kernel_rfl) (by kernel_rfl) (fun _ _ _ h => h) (Or.inl ⟨rfl, ?_⟩) ?_
   rotate_left
   ·
    intro w'; go_simp; with_reducible rfl
   refine wpAny_take (i := 9) (v := ?_) rfl (by kernel_rfl) (by kernel_rfl) (by kernel_rfl) (fun _ _ _ h => h) (Or.inl ⟨rfl, ?_⟩) ?_
   rotate_left
   ·
    intro w'; go_simp; with_reducible rfl
   refine wpAny_take (i := 10) (v := ?_) rfl (by kernel_rfl) (by kernel_rfl) (by kernel_rfl) (fun _ _ _ h => h) (Or.inl ⟨rfl, ?_⟩) ?_
   rotate_left
   ·
    intro w'; go_simp; with_reducible rfl
   refine wpAny_ready (rs := [11]) (by kernel_rfl) (by simp) ?_
   refine AllReady.cons rfl (fun K hK => ?_) AllReady.nil
   go_simp
   refine hK _ _ ?_
   clear hK K
   refine wpAny_ready (rs := [12]) (by kernel_rfl) (by simp) ?_
   refine AllReady.cons rfl (fun K hK => ?_) AllReady.nil
   go_simp
   refine hK _ _ ?_
   clear hK K
   refine wpAny_done (by kernel_rfl) ?_ _
   refine ⟨((KeepsOthers.setCell _ _ _).trans (KeepsOthers.setCell _ _ _)).trans (KeepsOthers.drew _), trivial, ⟨⟨⟨?_, ?_, ?_, ?_⟩, ?_⟩, ?_⟩⟩
   ·
    exact (k1.other i _ (by omega)).other 0 _ (by omega)
   ·
    exact (k2.other i _ (by omega)).other 0 _ (by omega)
   ·
    have := (k3.set i (.int .u64 (addLo x (word b0 b1 b2 b3 i) (addF (word b0 b1 b2 b3) pre).2 : Nat))).other (B' := w.heap.size + 1 + 1 + 1 + 1) 0 (.int .u64 (addHi x (word b0 b1 b2 b3 i) (addF (word b0 b1 b2 b3) pre).2 : Nat)) (by omega)
    rw [ws_set _ hi] at this
    rw [addF_snoc]
    exact this
   ·
    rw [addF_snoc]
    exact (k4.other (B' := w.heap.size + 1 + 1 + 1) i _ (by omega)).set 0 _
   ·
    rw [addF_snoc]
    exact addHi_le hx (word_lt hb.h0 hb.h1 hb.h2 hb.h3 i) hc
   ·
    exact ((hB.setCell (p := ⟨w.heap.size + 1 + 1 + 1, i, none⟩) (by simp; omega) _).setCell (p := ⟨w.heap.size + 1 + 1 + 1 + 1, 0, none⟩) (by simp; omega) _).drew
 case done =>
  rintro D ys W hD rfl ⟨⟨⟨k1, k2, k3, k4⟩, hc⟩, hB⟩ hK
  obtain ⟨s0, s1, s2, s3, c, hs, hcl, hw, hcc, hval⟩ := addF_sum ha hb
  rw [hw] at k3
  rw [hcc] at k4
  have c30 : W.cell? ⟨w.heap.size + 1 + 1 + 1, 0, none⟩ = some (.int .u64 (s0 : Nat)) := k3.cell 0
  have c31 : W.cell? ⟨w.heap.size + 1 + 1 + 1, 1, none⟩ = some (.int .u64 (s1 : Nat)) := k3.cell 1
  have c32 : W.cell? ⟨w.heap.size + 1 + 1 + 1, 2, none⟩ = some (.int .u64 (s2 : Nat)) := k3.cell 2
  have c33 : W.cell? ⟨w.heap.size + 1 + 1 + 1, 3, none⟩ = some (.int .u64 (s3 : Nat)) := k3.cell 3
  have c20 : W.cell? ⟨w.heap.size + 1 + 1, 0, none⟩ = some (.int .u64 ((0 : Nat) : Int)) := k2.cell 0
  have c21 : W.cell? ⟨w.heap.size + 1 + 1, 1, none⟩ = some (.int .u64 ((0 : Nat) : Int)) := k2.cell 1
  have c22 : W.cell? ⟨w.heap.size + 1 + 1, 2, none⟩ = some (.int .u64 ((0 : Nat) : Int)) := k2.cell 2
  have c23 : W.cell? ⟨w.heap.size + 1 + 1, 3, none⟩ = some (.int .u64 ((0 : Nat) : Int)) := k2.cell 3
  have f20 := k2.frozen 0
  have f21 := k2.frozen 1
  have f22 := k2.frozen 2
  have f23 := k2.frozen 3
  have c40 : W.cell? ⟨w.heap.size + 1 + 1 + 1 + 1, 0, none⟩ = some (.int .u64 (c : Nat)) := k4.cell 0
  have hcase : c = 0 ∨ c = 1 := by omega
  clear hcc hw
  rcases hcase with rfl | rfl
  ·
   have HV := Lib.hid hval
   clear hval
   gi_wp2
   have KO : KeepsOthers W ((((W.setCell ⟨w.heap.size + 1 + 1, 0, none⟩ (.int .u64 (s0 : Nat))).setCell ⟨w.heap.size + 1 + 1, 1, none⟩ (.int .u64 (s1 : Nat))).setCell ⟨w.heap.size + 1 + 1, 2, none⟩ (.int .u64 (s2 : Nat))).setCell ⟨w.heap.size + 1 + 1, 3, none⟩ (.int .u64 (s3 : Nat))) :=
    (((KeepsOthers.setCell _ _ _).trans (KeepsOthers.setCell _ _ _)).trans (KeepsOthers.setCell _ _ _)).trans (KeepsOthers.setCell _ _ _)
   have hK' := KO.same D _ hK rfl
   have k2' := ((((k2.set 0 (.int .u64 (s0 : Nat))).set 1 (.int .u64 (s1 : Nat))).set 2 (.int .u64 (s2 : Nat))).set 3 (.int .u64 (s3 : Nat))).kept (grownBy_putObj' _ D (.deferred none)) (by intro e; cases e; omega)
   have r0 := k2'.cell 0
   have r1 := k2'.cell 1
   have r2 := k2'.cell 2
   have r3 := k2'.cell 3
   simp only [ws, List.set_cons_zero, List.set_cons_succ, List.getElem?_cons_zero, List.getElem?_cons_succ] at r0 r1 r2 r3
   have hB' := ((((hB.setCell (p := ⟨w.heap.size + 1 + 1, 0, none⟩) (by simp; omega) (.int .u64 (s0 : Nat))).setCell (p := ⟨w.heap.size + 1 + 1, 1, none⟩) (by simp; omega) (.int .u64 (s1 : Nat))).setCell (p := ⟨w.heap.size + 1 + 1, 2, none⟩) (by simp; omega) (.int .u64 (s2 : Nat))).setCell (p := ⟨w.heap.size + 1 + 1, 3, none⟩) (by simp; omega) (.int .u64 (s3 : Nat))).trans (belowK_b (w := w) (Nat.le_refl _) _ D _ (.deferred none) (by omega) hK' rfl rfl)
   refine ⟨by simp, .inl ⟨_, _, rfl, run_takeDeferred hK', ?_⟩⟩
   refine ⟨.tuple #[wv s0 s1 s2 s3, .bool true], ?_, ?_⟩
   ·
    simp [results, Tryz.f61, go_sem, r0, r1, r2, r3]
   ·
    have e := HV.out; exact .inl ⟨by have := val_lt hs; omega, s0, s1, s2, s3, hs, by omega, rfl, hB'⟩
  ·
   have HV := Lib.hid hval
   clear hval
   gi_wp2
   have KO : KeepsOthers W ((((W.setCell ⟨w.heap.size + 1 + 1, 0, none⟩ (.int .u64 0)).setCell ⟨w.heap.size + 1 + 1, 1, none⟩ (.int .u64 0)).setCell ⟨w.heap.size + 1 + 1, 2, none⟩ (.int .u64 0)).setCell ⟨w.heap.size + 1 + 1, 3, none⟩ (.int .u64 0)) :=
    (((KeepsOthers.setCell _ _ _).trans (KeepsOthers.setCell _ _ _)).trans (KeepsOthers.setCell _ _ _)).trans (KeepsOthers.setCell _ _ _)
   have hK' := KO.same D _ hK rfl
   have k2' := ((((k2.set 0 (.int .u64 0)).set 1 (.int .u64 0)).set 2 (.int .u64 0)).set 3 (.int .u64 0)).kept (grownBy_putObj' _ D (.deferred none)) (by intro e; cases e; omega)
   have r0 := k2'.cell 0
   have r1 := k2'.cell 1
   have r2 := k2'.cell 2
   have r3 := k2'.cell 3
   simp only [ws, List.set_cons_zero, List.set_cons_succ, List.getElem?_cons_zero, List.getElem?_cons_succ] at r0 r1 r2 r3
   have hB' := ((((hB.setCell (p := ⟨w.heap.size + 1 + 1, 0, none⟩) (by simp; omega) (.int .u64 0)).setCell (p := ⟨w.heap.size + 1 + 1, 1, none⟩) (by simp; omega) (.int .u64 0)).setCell (p := ⟨w.heap.size + 1 + 1, 2, none⟩) (by simp; omega) (.int .u64 0)).setCell (p := ⟨w.heap.size + 1 + 1, 3, none⟩) (by simp; omega) (.int .u64 0)).trans (belowK_b (w := w) (Nat.le_refl _) _ D _ (.deferred none) (by omega) hK' rfl rfl)
   refine ⟨by simp, .inl ⟨_, _, rfl, run_takeDeferred hK', ?_⟩⟩
   refine ⟨.tuple #[wv 0 0 0 0, .bool false], ?_, ?_⟩
   ·
    simp [results, Tryz.f61, go_sem, r0, r1, r2, r3]
   ·
    have e := HV.out; exact .inr ⟨by omega, rfl, hB'⟩
 case stop =>
  rintro D c pre W _ _ h _
  exact h.elim
end Go.Proofs.YthhmdgmmeedhdaaGreat
namespace Go.Proofs.YthhmdgmmeedhdaaGreat
open Go.RowKit Go.Shelf
attribute [local go_sem] Oper.semAt_some
def SubW (a b : Nat) (w : World) (e : Ending) (W' : World) : Prop := (b ≤ a ∧ GotW (a - b) w e W') ∨ (a < b ∧ NoW w e W')
set_option maxRecDepth 100000 in
set_option maxHeartbeats 2000000 in
theorem sub_in (n : Nat) (hn : 3 ≤ n) {a0 a1 a2 a3 b0 b1 b2 b3 : Nat} (ha : Ok4 a0 a1 a2 a3) (hb : Ok4 b0 b1 b2 b3) (w : World) :
  CallsIn Fence.wide n Tryz.prog 93 #[wv a0 a1 a2 a3, wv b0 b1 b2 b3] w (SubW (val a0 a1 a2 a3) (val b0 b1 b2 b3) w) := by
 have h1 : 1 ≤ n := by omega
 refine callsIn_of_wp_marks Tryz.func93 rfl trivial ?_ rfl
 simp only [Tryz.ntmps93, List.size_toArray, List.length_cons, List.length_nil, Nat.reduceAdd, Nat.reduceSub, Array.replicate_succ, Array.replicate_zero, List.push_toArray, List.append_toArray, List.nil_append, List.cons_append]
 gi_wp2_with (refine ⟨trivial, ?_⟩; gi_at_call 94; refine (up_in Fence.wide (n - 1) trivial rfl _ _ _ _ _).mono ?_; rintro e w' ⟨rfl, rfl⟩)
 generalize hW5 : World.alloc _ _ = W5
 have k1 : Blk W5 (w.heap.size + 1) 27 (ws (word b0 b1 b2 b3)) := by rw [← hW5]; exact ((((Blk.new' (by simp)).alloc _).alloc _).alloc _).alloc _
 have k2 : Blk W5 (w.heap.size + 1 + 1) 27 (ws (fun _ => 0)) := by rw [← hW5]; exact (((Blk.new' (by simp)).alloc _).alloc _).alloc _
 have k3 : Blk W5 (w.heap.size + 1 + 1 + 1) 27 (ws (fun _ => 0)) := by rw [← hW5]; exact ((Blk.new' (by simp)).alloc _).alloc _
 have k4 : Blk W5 (w.heap.size + 1 + 1 + 1 + 1) 25 [.int .u64 ((0 : Nat) : Int)] := by rw [← hW5]; exact (Blk.new' (by simp)).alloc _
 have k5 : Blk W5 (w.heap.size + 1 + 1 + 1 + 1 + 1) 27 (ws (word a0 a1 a2 a3)) := by rw [← hW5]; exact Blk.new' (by simp)
 have hB0 : Below w.heap.size w W5 := by rw [← hW5]; exact ((((((Below.refl _ w).alloc (Nat.le_refl _) _).alloc (by simp) _).alloc (by simp; omega) _).alloc (by simp; omega) _).alloc (by simp; omega) _).alloc (by simp; omega) _
 have hz : W5.heap.size = w.heap.size + 6 := by rw [← hW5]; simp
 clear hW5
 refine wpIn_rangeFunc_ownF (S := fun ys => ys = ups ha) rfl h1 (gf := 126) (lb := #[.pointer (some ⟨w.heap.size + 1 + 1 + 1 + 1 + 1, 0, none⟩)]) rfl trivial (enters_of Tryz.func126 (by kernel_rfl) rfl)
  (up1_stops Fence.wide (n - 1) trivial rfl (by omega) ha (w.heap.size + 1 + 1 + 1 + 1 + 1) W5 k5.lt (k5.cell 0) (k5.cell 1) (k5.cell 2) (k5.cell 3)) (fun _ _ => trivial) (fun _ _ _ _ _ _ _ _ => trivial) (Below.refl _ _) (fun _ => rfl)
  (fun pre W => ((Blk W (w.heap.size + 1) 27 (ws (word b0 b1 b2 b3)) ∧ Blk W (w.heap.size + 1 + 1) 27 (ws (fun _ => 0)) ∧ Blk W (w.heap.size + 1 + 1 + 1) 27 (ws (subF (word b0 b1 b2 b3) pre).1) ∧ Blk W (w.heap.size + 1 + 1 + 1 + 1) 25 [.int .u64 ((subF (word b0 b1 b2 b3) pre).2 : Nat)]) ∧ (subF (word b0 b1 b2 b3) pre).2 ≤ 1) ∧ Below w.heap.size w W)
  (fun _ _ _ => False)
  (OwnFrom.and (Own.from (fun s A B row hs hg hr => ⟨⟨blk_own _ _ (fun _ => _) s A B row hs.1.1 hg hr, blk_own _ _ (fun _ => _) s A B row hs.1.2.1 hg hr, blk_own _ _ (fun pre => ws (subF (word b0 b1 b2 b3) pre).1) s A B row hs.1.2.2.1 hg hr, blk_own _ _ (fun pre => [.int .u64 ((subF (word b0 b1 b2 b3) pre).2 : Nat)]) s A B row hs.1.2.2.2 hg hr⟩, hs.2⟩) _) (ownFrom_below (Nat.le_refl _) (by omega)))
  (fun _ _ _ _ _ hs _ _ => hs)
  ⟨⟨⟨k1, k2, k3, k4⟩, Nat.zero_le _⟩, hB0⟩
  (fun x => { tmps := #[wv a0 a1 a2 a3, wv b0 b1 b2 b3, .pointer (some ⟨w.heap.size, 0, none⟩), .pointer (some ⟨w.heap.size + 1, 0, none⟩), .pointer (some ⟨w.heap.size + 1 + 1, 0, none⟩), .bool false, .pointer (some ⟨w.heap.size + 1 + 1 + 1, 0, none⟩), .pointer (some ⟨w.heap.size + 1 + 1 + 1 + 1, 0, none⟩), .int .i64 (x.1.1 : Int), .int .u64 (x.1.2 : Int), wv a0 a1 a2 a3, .func (.func 126) #[] #[.pointer (some ⟨w.heap.size + 1 + 1 + 1 + 1 + 1, 0, none⟩)], .int .i64 (x.1.1 : Int), .int .u64 (x.1.2 : Int), undef, undef, undef, undef, undef, undef, undef, undef, undef, undef, undef, undef, undef, undef, undef], defers := [] }) ?assign ?body ?done ?stop
 case assign =>
  intro l x W K hK
  gi_wp2
  exact hK
 case body =>
  rintro l pre ⟨⟨i, x⟩, hi, hx⟩ W ⟨⟨⟨k1, k2, k3, k4⟩, hc⟩, hB⟩ _
  dsimp only at hi hx
  have hi' : (i : Int) < 4 := by omega
  have cb := k1.cell i
  rw [ws_at _ hi] at cb
  have cs := k3.cell i
  rw [ws_at _ hi] at cs
  have fs := k3.frozen i
  have cc : W.cell? ⟨w.heap.size + 1 + 1 + 1 + 1, 0, none⟩ = some (.int .u64 ((subF (word b0 b1 b2 b3) pre).2 : Nat)) := k4.cell 0
  have fc := k4.frozen 0
  have hsub := fun (w : World) => run_bitsSub64 x (word b0 b1 b2 b3 i) (subF (word b0 b1 b2 b3) pre).2 hc w
  have hmx : Tryz.prog.follows .mixedOrders = true := by kernel_rfl
  gi_wp2
  refine wpIn_round_any hmx (by kernel_rfl) ?_
  refine wpAny_take (i := 0) (v := ?_) rfl (by kernel_rfl) (by kernel_rfl) (by kernel_rfl) (fun _ _ _ h => h) (Or.inl ⟨rfl, ?_⟩) ?_
  rotate_left
  ·
   intro w'; go_simp; with_reducible rfl
  refine wpAny_take (i := 1) (v := ?_) rfl (by kernel_rfl) (by kernel_rfl) (by kernel_rfl) (fun _ _ _ h => h) (Or.inl ⟨rfl, ?_⟩) ?_
  rotate_left
  ·
   intro w'; go_simp; with_reducible rfl
  refine wpAny_take (i := 2) (v := ?_) rfl (by kernel_rfl) (by kernel_rfl) (by kernel_rfl) (fun _ _ _ h => h) (Or.inl ⟨rfl, ?_⟩) ?_
  rotate_left
  ·
   intro w'; go_simp; with_reducible rfl
  refine wpAny_take (i := 3) (v := ?_) rfl (by kernel_rfl) (by kernel_rfl) (by kernel_rfl) (fun _ _ _ h => h) (Or.inl ⟨rfl, ?_⟩) ?_
  rotate_left
  ·
   intro w'; go_simp; with_reducible rfl
  refine wpAny_ready (rs := [4, 5]) (by kernel_rfl) (by simp) ?_
  refine AllReady.cons rfl (fun K hK => ?_) (AllReady.cons rfl (fun K hK => ?_) AllReady.nil)
  all_goals (go_simp; refine hK _ _ ?_; clear hK K)
  rotate_left
  refine wpAny_ready (rs := [4]) (by kernel_rfl) (by simp) ?_
  refine AllReady.cons rfl (fun K hK => ?_) AllReady.nil
  go_simp
  refine hK _ _ ?_
  clear hK K
  rotate_left
  refine wpAny_ready (rs := [5]) (by kernel_rfl) (by simp) ?_
  refine AllReady.cons rfl (fun K hK => ?_) AllReady.nil
  go_simp
  refine hK _ _ ?_
  clear hK K
  all_goals
   refine wpAny_ready (rs := [6]) (by kernel_rfl) (by simp) ?_
   refine AllReady.cons rfl (fun K hK => ?_) AllReady.nil
   go_simp
   refine hK _ _ ?_
   clear hK K
   refine wpAny_take (i := 7) (v := ?_) rfl (by kernel_rfl) (by kernel_rfl) (by kernel_rfl) (fun _ _ _ h => h) (Or.inl ⟨rfl, ?_⟩) ?_
   rotate_left
   ·
    intro w'; go_simp; with_reducible rfl
   refine wpAny_take (i := 8) (v := ?_) rfl (by kernel_rfl) (by kernel_rfl) (by kernel_rfl) (fun _ _ _ h => h) (Or.inl ⟨rfl, ?_⟩) ?_
   rotate_left
   ·
    intro w'; go_simp; with_reducible rfl
   refine wpAny_take (i := 9) (v := ?_) rfl (by kernel_rfl) (by kernel_rfl) (by kernel_rfl) (fun _ _ _ h => h) (Or.inl ⟨rfl, ?_⟩) ?_
   rotate_left
   ·
    intro w'; go_simp; with_reducible rfl
   refine wpAny_take (i := 10) (v := ?_) rfl (by kernel_rfl) (by kernel_rfl) (by kernel_rfl) (fun _ _ _ h => h) (Or.inl ⟨rfl, ?_⟩) ?_
   rotate_left
   ·
    intro w'; go_simp; with_reducible rfl
   refine wpAny_ready (rs := [11]) (by kernel_rfl) (by simp) ?_
   refine AllReady.cons rfl (fun K hK => ?_) AllReady.nil
   go_simp
   refine hK _ _ ?_
   clear hK K
   refine wpAny_ready (rs := [12]) (by kernel_rfl) (by simp) ?_
   refine AllReady.cons rfl (fun K hK => ?_) AllReady.nil
   go_simp
   refine hK _ _ ?_
   clear hK K
   refine wpAny_done (by kernel_rfl) ?_ _
   refine ⟨((KeepsOthers.setCell _ _ _).trans (KeepsOthers.setCell _ _ _)).trans (KeepsOthers.drew _), trivial, ⟨⟨⟨?_, ?_, ?_, ?_⟩, ?_⟩, ?_⟩⟩
   ·
    exact (k1.other i _ (by omega)).other 0 _ (by omega)
   ·
    exact (k2.other i _ (by omega)).other 0 _ (by omega)
   ·
    have := (k3.set i (.int .u64 (subLo x (word b0 b1 b2 b3 i) (subF (word b0 b1 b2 b3) pre).2 : Nat))).other (B' := w.heap.size + 1 + 1 + 1 + 1) 0 (.int .u64 (subHi x (word b0 b1 b2 b3 i) (subF (word b0 b1 b2 b3) pre).2 : Nat)) (by omega)
    rw [ws_set _ hi] at this
    rw [subF_snoc]
    exact this
   ·
    rw [subF_snoc]
    exact (k4.other (B' := w.heap.size + 1 + 1 + 1) i _ (by omega)).set 0 _
   ·
    rw [subF_snoc]
    exact subHi_le _ _ _
   ·
    exact ((hB.setCell (p := ⟨w.heap.size + 1 + 1 + 1, i, none⟩) (by simp; omega) _).setCell (p := ⟨w.heap.size + 1 + 1 + 1 + 1, 0, none⟩) (by simp; omega) _).drew
 case done =>
  rintro D ys W hD rfl ⟨⟨⟨k1, k2, k3, k4⟩, hc⟩, hB⟩ hK
  obtain ⟨s0, s1, s2, s3, c, hs, hcl, hw, hcc, hval⟩ := subF_diff ha hb
  rw [hw] at k3
  rw [hcc] at k4
  have c30 : W.cell? ⟨w.heap.size + 1 + 1 + 1, 0, none⟩ = some (.int .u64 (s0 : Nat)) := k3.cell 0
  have c31 : W.cell? ⟨w.heap.size + 1 + 1 + 1, 1, none⟩ = some (.int .u64 (s1 : Nat)) := k3.cell 1
  have c32 : W.cell? ⟨w.heap.size + 1 + 1 + 1, 2, none⟩ = some (.int .u64 (s2 : Nat)) := k3.cell 2
  have c33 : W.cell? ⟨w.heap.size + 1 + 1 + 1, 3, none⟩ = some (.int .u64 (s3 : Nat)) := k3.cell 3
  have c20 : W.cell? ⟨w.heap.size + 1 + 1, 0, none⟩ = some (.int .u64 ((0 : Nat) : Int)) := k2.cell 0
  have c21 : W.cell? ⟨w.heap.size + 1 + 1, 1, none⟩ = some (.int .u64 ((0 : Nat) : Int)) := k2.cell 1
  have c22 : W.cell? ⟨w.heap.size + 1 + 1, 2, none⟩ = some (.int .u64 ((0 : Nat) : Int)) := k2.cell 2
  have c23 : W.cell? ⟨w.heap.size + 1 + 1, 3, none⟩ = some (.int .u64 ((0 : Nat) : Int)) := k2.cell 3
  have f20 := k2.frozen 0
  have f21 := k2.frozen 1
  have f22 := k2.frozen 2
  have f23 := k2.frozen 3
  have c40 : W.cell? ⟨w.heap.size + 1 + 1 + 1 + 1, 0, none⟩ = some (.int .u64 (c : Nat)) := k4.cell 0
  have hcase : c = 0 ∨ c = 1 := by omega
  clear hcc hw
  rcases hcase with rfl | rfl
  ·
   have HV := Lib.hid hval
   clear hval
   gi_wp2
   have KO : KeepsOthers W ((((W.setCell ⟨w.heap.size + 1 + 1, 0, none⟩ (.int .u64 (s0 : Nat))).setCell ⟨w.heap.size + 1 + 1, 1, none⟩ (.int .u64 (s1 : Nat))).setCell ⟨w.heap.size + 1 + 1, 2, none⟩ (.int .u64 (s2 : Nat))).setCell ⟨w.heap.size + 1 + 1, 3, none⟩ (.int .u64 (s3 : Nat))) :=
    (((KeepsOthers.setCell _ _ _).trans (KeepsOthers.setCell _ _ _)).trans (KeepsOthers.setCell _ _ _)).trans (KeepsOthers.setCell _ _ _)
   have hK' := KO.same D _ hK rfl
   have k2' := ((((k2.set 0 (.int .u64 (s0 : Nat))).set 1 (.int .u64 (s1 : Nat))).set 2 (.int .u64 (s2 : Nat))).set 3 (.int .u64 (s3 : Nat))).kept (grownBy_putObj' _ D (.deferred none)) (by intro e; cases e; omega)
   have r0 := k2'.cell 0
   have r1 := k2'.cell 1
   have r2 := k2'.cell 2
   have r3 := k2'.cell 3
   simp only [ws, List.set_cons_zero, List.set_cons_succ, List.getElem?_cons_zero, List.getElem?_cons_succ] at r0 r1 r2 r3
   have hB' := ((((hB.setCell (p := ⟨w.heap.size + 1 + 1, 0, none⟩) (by simp; omega) (.int .u64 (s0 : Nat))).setCell (p := ⟨w.heap.size + 1 + 1, 1, none⟩) (by simp; omega) (.int .u64 (s1 : Nat))).setCell (p := ⟨w.heap.size + 1 + 1, 2, none⟩) (by simp; omega) (.int .u64 (s2 : Nat))).setCell (p := ⟨w.heap.size + 1 + 1, 3, none⟩) (by simp; omega) (.int .u64 (s3 : Nat))).trans (belowK_b (w := w) (Nat.le_refl _) _ D _ (.deferred none) (by omega) hK' rfl rfl)
   refine ⟨by simp, .inl ⟨_, _, rfl, run_takeDeferred hK', ?_⟩⟩
   refine ⟨.tuple #[wv s0 s1 s2 s3, .bool true], ?_, ?_⟩
   ·
    simp [results, Tryz.f93, go_sem, r0, r1, r2, r3]
   ·
    have e := HV.out; exact .inl ⟨by omega, s0, s1, s2, s3, hs, by omega, rfl, hB'⟩
  ·
   have HV := Lib.hid hval
   clear hval
   gi_wp2
   have KO : KeepsOthers W ((((W.setCell ⟨w.heap.size + 1 + 1, 0, none⟩ (.int .u64 0)).setCell ⟨w.heap.size + 1 + 1, 1, none⟩ (.int .u64 0)).setCell ⟨w.heap.size + 1 + 1, 2, none⟩ (.int .u64 0)).setCell ⟨w.heap.size + 1 + 1, 3, none⟩ (.int .u64 0)) :=
    (((KeepsOthers.setCell _ _ _).trans (KeepsOthers.setCell _ _ _)).trans (KeepsOthers.setCell _ _ _)).trans (KeepsOthers.setCell _ _ _)
   have hK' := KO.same D _ hK rfl
   have k2' := ((((k2.set 0 (.int .u64 0)).set 1 (.int .u64 0)).set 2 (.int .u64 0)).set 3 (.int .u64 0)).kept (grownBy_putObj' _ D (.deferred none)) (by intro e; cases e; omega)
   have r0 := k2'.cell 0
   have r1 := k2'.cell 1
   have r2 := k2'.cell 2
   have r3 := k2'.cell 3
   simp only [ws, List.set_cons_zero, List.set_cons_succ, List.getElem?_cons_zero, List.getElem?_cons_succ] at r0 r1 r2 r3
   have hB' := ((((hB.setCell (p := ⟨w.heap.size + 1 + 1, 0, none⟩) (by simp; omega) (.int .u64 0)).setCell (p := ⟨w.heap.size + 1 + 1, 1, none⟩) (by simp; omega) (.int .u64 0)).setCell (p := ⟨w.heap.size + 1 + 1, 2, none⟩) (by simp; omega) (.int .u64 0)).setCell (p := ⟨w.heap.size + 1 + 1, 3, none⟩) (by simp; omega) (.int .u64 0)).trans (belowK_b (w := w) (Nat.le_refl _) _ D _ (.deferred none) (by omega) hK' rfl rfl)
   refine ⟨by simp, .inl ⟨_, _, rfl, run_takeDeferred hK', ?_⟩⟩
   refine ⟨.tuple #[wv 0 0 0 0, .bool false], ?_, ?_⟩
   ·
    simp [results, Tryz.f93, go_sem, r0, r1, r2, r3]
   ·
    have e := HV.out; exact .inr ⟨by have := val_lt hs; omega, rfl, hB'⟩
 case stop =>
  rintro D c pre W _ _ h _
  exact h.elim
end Go.Proofs.YthhmdgmmeedhdaaGreat
namespace Go.Proofs.YthhmdgmmeedhdaaGreat
open Go.RowKit Go.Shelf
set_option maxHeartbeats 1000000 in
theorem of_any (z : Int) (n : Nat) (h : z = n) (w : World) : Calls Tryz.prog 54 #[.int .u64 z] w fun e W' => e = .returned (wv n 0 0 0) ∧ Below w.heap.size w W' := by
 subst h
 go_enter Tryz.func54, Tryz.ntmps54
 go_wp2
 exact bodyPost_ret (v := wv n 0 0 0) (by simp [results, Tryz.f54, go_sem]) rfl ⟨rfl, (Below.refl _ _).alloc (Nat.le_refl _) _⟩
theorem add_any {a0 a1 a2 a3 b0 b1 b2 b3 : Nat} (ha : Ok4 a0 a1 a2 a3) (hb : Ok4 b0 b1 b2 b3) (w : World) :
  Calls Tryz.prog 61 #[wv a0 a1 a2 a3, wv b0 b1 b2 b3] w (AddW (val a0 a1 a2 a3 + val b0 b1 b2 b3) w) := callsIn_wide.1 (add_in 3 (by omega) ha hb w)
theorem sub_any {a0 a1 a2 a3 b0 b1 b2 b3 : Nat} (ha : Ok4 a0 a1 a2 a3) (hb : Ok4 b0 b1 b2 b3) (w : World) :
  Calls Tryz.prog 93 #[wv a0 a1 a2 a3, wv b0 b1 b2 b3] w (SubW (val a0 a1 a2 a3) (val b0 b1 b2 b3) w) := callsIn_wide.1 (sub_in 3 (by omega) ha hb w)
end Go.Proofs.YthhmdgmmeedhdaaGreat
namespace Go.Proofs.YthhmdgmmeedhdaaGreat
open Go.RowKit
theorem Tryz.infoInt : (Tryz.prog.info? 3).map (fun i => (i.zero, i.size, i.bytes)) = some (some (.int .i64 0), 1, 8) := by kernel_rfl
def OR (W : World) (base : Nat) (v : Value) (n : Nat) (f : Nat → Nat) : Prop := W.ownsRow base 3 1 v n ((List.range n).map fun k => Value.int .i64 (f k : Nat))
theorem OR.nil (W : World) (base : Nat) (f : Nat → Nat) : OR W base (.slice none 0 0) 0 f := ⟨rfl, .inl ⟨rfl, rfl⟩⟩
theorem OR.out {W : World} {base : Nat} {v : Value} {n : Nat} {f : Nat → Nat} (h : OR W base v n f) : W.ownsRow base 3 1 v n ((List.range n).map fun k => Value.int .i64 (f k : Nat)) := h
theorem OR.step {W : World} {base : Nat} {v : Value} {n : Nat} {f : Nat → Nat} {x : Int} (h : W.ownsRow base 3 1 v (n + 1) (((List.range n).map fun k => Value.int .i64 (f k : Nat)) ++ [.int .i64 x])) (hx : x = (f n : Nat)) : OR W base v (n + 1) f := by
 unfold OR
 rw [List.range_succ, List.map_append]
 rw [hx] at h
 exact h
theorem OR.grown {W w1 : World} {base n : Nat} {u v' : Value} {f : Nat → Nat} {o : Obj} {x : Int} (hown : OR W base u n f) (hsz : base ≤ W.heap.size)
  (hown' : w1.ownsRow base 3 1 v' (n + 1) (((List.range n).map fun k => Value.int .i64 (f k : Nat)) ++ [.int .i64 x])) (hg : (W.alloc o).grownBy w1 u.ownBlock) (hx : x = (f n : Nat)) :
  OR w1 base v' (n + 1) f ∧ base ≤ w1.heap.size ∧ Below base W w1 := by
 have hb : Below base W w1 := ((Below.refl base W).alloc hsz o).grown hg (by simp; omega) (fun j hj => (World.ownsRow.lt hown.out j hj).1)
 exact ⟨OR.step hown' hx, Nat.le_trans hsz hb.size, hb⟩
def Nums (W : World) (g n : Nat) (f : Nat → Nat) : Prop := ∀ k, k < n → W.cell? ⟨g, k, none⟩ = some (.int .i64 (f k : Nat))
theorem OR.nums {W : World} {base : Nat} {v : Value} {n : Nat} {f : Nat → Nat} (h : OR W base v n f) (hn : 0 < n) :
  ∃ g cap, v = .slice (some ⟨g, 0, none⟩) n cap ∧ base ≤ g ∧ g < W.heap.size ∧ Nums W g n f := by
 obtain ⟨hl, ⟨_, h0⟩ | ⟨g, cap, cur, rfl, hg, hb, hnc, hcm, hsz, htake⟩⟩ := h
 ·
  omega
 ·
  refine ⟨g, cap, rfl, hg, (Array.getElem?_eq_some_iff.1 hb).1, fun k hk => ?_⟩
  have e : cur[k]? = (cur.toList.take (n * 1))[k]? := by
   rw [List.getElem?_take_of_lt (by omega)]
   simp
  simp only [World.cell?, hb]
  rw [show (if (none : Option Nat).isSome = true then (none : Option Value) else cur[k]?) = cur[k]? from rfl, e, htake]
  simp [hk]
theorem Nums.below {W W' : World} {m g n : Nat} {f : Nat → Nat} (h : Nums W g n f) (hb : Below m W W') (hg : g < m) : Nums W' g n f := fun k hk => (hb.cell (p := ⟨g, k, none⟩) hg).trans (h k hk)
def SlW (n : Nat) (f : Nat → Nat) (w : World) (e : Ending) (W' : World) : Prop :=
 ∃ g cap, e = .returned (.slice (some ⟨g, 0, none⟩) n cap) ∧ w.heap.size ≤ g ∧ g < W'.heap.size ∧ Nums W' g n f ∧ Below w.heap.size w W'
def sh (x : Nat) : Nat → Nat
 | 0 => x
 | t + 1 => sh x t / 65536
def dg (a0 a1 a2 a3 n : Nat) : Nat := sh (word a0 a1 a2 a3 (n / 4)) (n % 4) % 65536
theorem dg_at {a0 a1 a2 a3 k t : Nat} (ht : t < 4) : dg a0 a1 a2 a3 (4 * k + t) = sh (word a0 a1 a2 a3 k) t % 65536 := by
 unfold dg
 rw [show (4 * k + t) / 4 = k by omega, show (4 * k + t) % 4 = t by omega]
theorem sh_lt {x : Nat} (h : x < M) (t : Nat) : sh x t < M := by
 induction t with
 | zero => exact h
 | succ t ih => show sh x t / 65536 < M; omega
def ds (f : Nat → Nat) (n : Nat) : List Value := (List.range n).map fun k => .int .i64 (f k : Nat)
end Go.Proofs.YthhmdgmmeedhdaaGreat
namespace Go.Proofs.YthhmdgmmeedhdaaGreat
open Go.RowKit
set_option maxRecDepth 100000 in
set_option maxHeartbeats 2000000 in
theorem digits_any {a0 a1 a2 a3 : Nat} (ha : Ok4 a0 a1 a2 a3) (w : World) :
  Calls Tryz.prog 41 #[wv a0 a1 a2 a3] w (SlW 16 (dg a0 a1 a2 a3) w) := by
 obtain ⟨i0, hi, hz0, hz1, hz2⟩ := info_parts Tryz.infoInt
 obtain ⟨B, hB⟩ : ∃ B, B = w.heap.size := ⟨_, rfl⟩
 go_enter Tryz.func41, Tryz.ntmps41
 go_wp2
 go_loopw [3, 4] (fun v i wr => ∃ k : Nat, k ≤ 4 ∧ i = .int .i64 k ∧ OR wr (w.heap.size + 1) v (4 * k) (dg a0 a1 a2 a3) ∧ Blk wr w.heap.size 27 (ws (word a0 a1 a2 a3)) ∧ Below w.heap.size w wr ∧ w.heap.size + 1 ≤ wr.heap.size) (fun _ i _ => 4 - (intOf i).toNat)
 case atStart => exact ⟨0, by omega, rfl, OR.nil _ _ _, Blk.new _ _ _, chain0 _ _, by simp⟩
 case round =>
  obtain ⟨k, hk, rfl, hown, hblk, hbel, hsz⟩ := hrel
  by_cases hlt : k < 4
  ·
   have hk' : (k : Int) < 4 := by omega
   have hc := hblk.cell k
   rw [ws_at _ hlt] at hc
   go_wp2
   obtain ⟨wo, rfl⟩ : ∃ wo : World, wo = wr := ⟨_, rfl⟩
   have hw := word_lt ha.h0 ha.h1 ha.h2 ha.h3 k
   go_loopw [3, 5, 6] (fun v x j wr => ∃ t : Nat, t ≤ 4 ∧ j = .int .i64 t ∧ x = .int .u64 (sh (word a0 a1 a2 a3 k) t : Nat) ∧ OR wr (w.heap.size + 1) v (4 * k + t) (dg a0 a1 a2 a3) ∧ Blk wr w.heap.size 27 (ws (word a0 a1 a2 a3)) ∧ Below w.heap.size w wr ∧ w.heap.size + 1 ≤ wr.heap.size) (fun _ _ j _ => 4 - (intOf j).toNat)
   case atStart => exact ⟨0, by omega, rfl, rfl, hown, hblk, hbel, hsz⟩
   case round =>
    obtain ⟨t, ht, rfl, rfl, hown, hblk, hbel, hsz⟩ := hrel
    by_cases hlt' : t < 4
    ·
     have ht' : (t : Int) < 4 := by omega
     have hx := sh_lt hw t
     have hx0 : ((sh (word a0 a1 a2 a3 k) t : Nat) : Int) ≤ 18446744073709551615 := by unfold M at hx; omega
     have hd := dg_at (a0 := a0) (a1 := a1) (a2 := a2) (a3 := a3) (k := k) hlt'
     have HD := Lib.hid hd
     clear hd
     have hsx : sh (word a0 a1 a2 a3 k) (t + 1) = sh (word a0 a1 a2 a3 k) t / 65536 := rfl
     have HS := Lib.hid hsx
     clear hsx
     generalize sh (word a0 a1 a2 a3 k) t = x at *
     go_wp2_with (at_builtin; refine wpList_append_own _ rfl _ _ 23 rfl (w.heap.size + 1) 3 i0 (.int .i64 0) 1 8 Tryz.underlying23 hi hz0 hz1 hz2 rfl (by decide) _ _ _ rfl (hown.out.alloc _) ⟨wr.heap.size, 0, none⟩ 1 1 [.int .i64 ((x : Int) % 65536)] rfl rfl (cell_one_new _ _ _) (by simp [Value.oneCell']) (by unfold maxLen; omega) (by omega) (by simp; omega) ?_; intro v' w1 hown' hgrow _)
     have hg : (wr.alloc (.cells #[.int .i64 ((x : Int) % 65536)] 3)).grownBy w1 u3.ownBlock := hgrow
     obtain ⟨h1, h2, h3⟩ := hown.grown hsz hown' hg (by rw [HD.out]; omega)
     refine ⟨⟨t + 1, by omega, by simp, by rw [HS.out]; simp, h1, hblk.below h3 (by omega), hbel.trans (h3.mono (by omega)), h2⟩, by simp [intOf]; omega⟩
    ·
     obtain rfl : t = 4 := by omega
     go_wp2
     exact ⟨⟨k + 1, by omega, by simp, hown, hblk, hbel, hsz⟩, by simp [intOf]; omega⟩
  ·
   obtain rfl : k = 4 := by omega
   go_wp2
   go_ret
   obtain ⟨g, cap, rfl, h1, h2, h3⟩ := hown.nums (by omega)
   exact ⟨g, cap, rfl, by omega, h2, h3, hbel⟩
end Go.Proofs.YthhmdgmmeedhdaaGreat
namespace Go.Proofs.YthhmdgmmeedhdaaGreat
open Go.RowKit
def wdg (f : Nat → Nat) (i j : Nat) : Nat :=
 (if 4 * j < i then f (4 * j) else 0) + (if 4 * j + 1 < i then f (4 * j + 1) * 65536 else 0) + (if 4 * j + 2 < i then f (4 * j + 2) * 4294967296 else 0) + (if 4 * j + 3 < i then f (4 * j + 3) * 281474976710656 else 0)
def p16 : Nat → Nat | 0 => 1 | 1 => 65536 | 2 => 4294967296 | _ => 281474976710656
theorem p16_0 : p16 0 = 1 := rfl
theorem p16_1 : p16 1 = 65536 := rfl
theorem p16_2 : p16 2 = 4294967296 := rfl
theorem p16_3 : p16 3 = 281474976710656 := rfl
theorem wdg_zero (f : Nat → Nat) : wdg f 0 = fun _ => 0 := by funext j; simp [wdg]
theorem wdg_high (f : Nat → Nat) {i : Nat} (hi : 16 ≤ i) : ws (wdg f (i + 1)) = ws (wdg f i) := by
 have e : ∀ j, j < 4 → wdg f (i + 1) j = wdg f i j := fun j hj => by
  unfold wdg
  rw [if_pos (by omega), if_pos (by omega), if_pos (by omega), if_pos (by omega), if_pos (by omega), if_pos (by omega), if_pos (by omega), if_pos (by omega)]
 unfold ws
 rw [e 0 (by omega), e 1 (by omega), e 2 (by omega), e 3 (by omega)]
theorem wdg_0 (f : Nat → Nat) (q : Nat) : wdg f (4 * q) q = 0 := by
 unfold wdg; rw [if_neg (by omega), if_neg (by omega), if_neg (by omega), if_neg (by omega)]
theorem wdg_1 (f : Nat → Nat) (q : Nat) : wdg f (4 * q + 1) q = f (4 * q) := by
 unfold wdg; rw [if_pos (by omega), if_neg (by omega), if_neg (by omega), if_neg (by omega)]; omega
theorem wdg_2 (f : Nat → Nat) (q : Nat) : wdg f (4 * q + 2) q = f (4 * q) + f (4 * q + 1) * 65536 := by
 unfold wdg; rw [if_pos (by omega), if_pos (by omega), if_neg (by omega), if_neg (by omega)]; omega
theorem wdg_3 (f : Nat → Nat) (q : Nat) : wdg f (4 * q + 3) q = f (4 * q) + f (4 * q + 1) * 65536 + f (4 * q + 2) * 4294967296 := by
 unfold wdg; rw [if_pos (by omega), if_pos (by omega), if_pos (by omega), if_neg (by omega)]; omega
theorem wdg_4 (f : Nat → Nat) {i q : Nat} (h : 4 * q + 4 ≤ i) : wdg f i q = f (4 * q) + f (4 * q + 1) * 65536 + f (4 * q + 2) * 4294967296 + f (4 * q + 3) * 281474976710656 := by
 unfold wdg; rw [if_pos (by omega), if_pos (by omega), if_pos (by omega), if_pos (by omega)]
theorem wdg_step (f : Nat → Nat) (i : Nat) : wdg f (i + 1) = upd (wdg f i) (i / 4) (wdg f i (i / 4) + f i * p16 (i % 4)) := by
 funext j
 obtain ⟨q, r, hr, rfl⟩ : ∃ q r, r < 4 ∧ i = 4 * q + r := ⟨i / 4, i % 4, by omega, by omega⟩
 have e1 : (4 * q + r) / 4 = q := by omega
 have e2 : (4 * q + r) % 4 = r := by omega
 rw [e1, e2]
 unfold upd
 by_cases hj : j = q
 ·
  subst hj
  rw [if_pos rfl]
  have : r = 0 ∨ r = 1 ∨ r = 2 ∨ r = 3 := by omega
  rcases this with rfl | rfl | rfl | rfl
  ·
   simp only [Nat.add_zero]; rw [wdg_1, wdg_0, p16_0, Nat.zero_add, Nat.mul_one]
  ·
   rw [wdg_2 f j, wdg_1, p16_1]
  ·
   rw [wdg_3 f j, wdg_2, p16_2]
  ·
   rw [wdg_4 f (i := 4 * j + 3 + 1) (by omega), wdg_3, p16_3]
 ·
  rw [if_neg hj]
  unfold wdg
  have k : ∀ t, t < 4 → (4 * j + t < 4 * q + r + 1 ↔ 4 * j + t < 4 * q + r) := fun t ht => by omega
  have k0 := k 0 (by omega)
  simp only [Nat.add_zero] at k0
  simp only [k0, k 1 (by omega), k 2 (by omega), k 3 (by omega)]
theorem wdg_lt {f : Nat → Nat} {i : Nat} (hf : ∀ k, k ≤ i → f k < 65536) : wdg f i (i / 4) + f i * p16 (i % 4) ≤ 18446744073709551615 := by
 obtain ⟨q, r, hr, rfl⟩ : ∃ q r, r < 4 ∧ i = 4 * q + r := ⟨i / 4, i % 4, by omega, by omega⟩
 have e1 : (4 * q + r) / 4 = q := by omega
 have e2 : (4 * q + r) % 4 = r := by omega
 rw [e1, e2]
 have : r = 0 ∨ r = 1 ∨ r = 2 ∨ r = 3 := by omega
 rcases this with rfl | rfl | rfl | rfl
 ·
  have h0 := hf (4 * q) (by omega)
  simp only [Nat.add_zero]; rw [wdg_0, p16_0]; omega
 ·
  have h0 := hf (4 * q) (by omega)
  have h1 := hf (4 * q + 1) (by omega)
  rw [wdg_1, p16_1]; omega
 ·
  have h0 := hf (4 * q) (by omega)
  have h1 := hf (4 * q + 1) (by omega)
  have h2 := hf (4 * q + 2) (by omega)
  rw [wdg_2, p16_2]; omega
 ·
  have h0 := hf (4 * q) (by omega)
  have h1 := hf (4 * q + 1) (by omega)
  have h2 := hf (4 * q + 2) (by omega)
  have h3 := hf (4 * q + 3) (by omega)
  rw [wdg_3, p16_3]; omega
theorem p16_step {r : Nat} (h : r < 3) : p16 (r + 1) = p16 r * 65536 := by
 have : r = 0 ∨ r = 1 ∨ r = 2 := by omega
 rcases this with rfl | rfl | rfl
 ·
  rw [p16_1, p16_0]
 ·
  rw [p16_2, p16_1]
 ·
  rw [p16_3, p16_2]
theorem p16_le2 {r : Nat} (h : r < 3) : p16 r ≤ 4294967296 := by
 have : r = 0 ∨ r = 1 ∨ r = 2 := by omega
 rcases this with rfl | rfl | rfl
 ·
  rw [p16_0]; omega
 ·
  rw [p16_1]; omega
 ·
  rw [p16_2]; omega
end Go.Proofs.YthhmdgmmeedhdaaGreat
namespace Go.Proofs.YthhmdgmmeedhdaaGreat
open Go.RowKit
def MadeW (n : Nat) (f : Nat → Nat) (w : World) (e : Ending) (W' : World) : Prop :=
 ((∃ i, 16 ≤ i ∧ i < n ∧ f i ≠ 0) ∧ NoW w e W') ∨
 ((∀ i, 16 ≤ i → i < n → f i = 0) ∧ e = .returned (.tuple #[wv (wdg f n 0) (wdg f n 1) (wdg f n 2) (wdg f n 3), .bool true]) ∧ Below w.heap.size w W')
set_option maxRecDepth 100000 in
set_option maxHeartbeats 4000000 in
theorem made_any (n cap g : Nat) (f : Nat → Nat) (hn : n ≤ 32) (hf : ∀ k, k < n → f k < 65536) (w : World) (hg : g < w.heap.size) (hl : Nums w g n f) :
  Calls Tryz.prog 42 #[.slice (some ⟨g, 0, none⟩) n cap] w (MadeW n f w) := by
 go_enter Tryz.func42, Tryz.ntmps42
 go_wp2
 go_loopw [5] (fun i wr => ∃ k : Nat, k ≤ n ∧ i = .int .i64 k ∧ (∀ t, 16 ≤ t → t < k → f t = 0) ∧ Blk wr w.heap.size 27 (ws fun _ => 0) ∧ Blk wr (w.heap.size + 1) 27 (ws (wdg f k)) ∧ Below w.heap.size w wr) (fun i _ => n - (intOf i).toNat)
 case atStart => exact ⟨0, by omega, rfl, fun t _ h => by omega, (Blk.new _ _ _).alloc _, by rw [wdg_zero]; exact Blk.new' (by simp), chainA (chain0 _ _) _⟩
 case round =>
  obtain ⟨k, hk, rfl, hz, k0, k1, hbel⟩ := hrel
  by_cases hlt : k < n
  ·
   have hc := hl.below hbel hg k hlt
   have hfk := hf k hlt
   by_cases h16 : k < 16
   ·
    have HZ := Lib.hid hz
    clear hz
    have h16' : (k : Int) < 16 := by omega
    go_wp2
    obtain ⟨wo, rfl⟩ : ∃ wo : World, wo = wr := ⟨_, rfl⟩
    go_loopw [6, 7] (fun x j wr => ∃ t : Nat, t ≤ k % 4 ∧ j = .int .i64 t ∧ x = .int .u64 (f k * p16 t : Nat) ∧ wr = wo) (fun _ j _ => k % 4 - (intOf j).toNat)
    case atStart => exact ⟨0, by omega, rfl, by rw [p16_0, Nat.mul_one], rfl⟩
    case round =>
     obtain ⟨t, ht, rfl, rfl, rfl⟩ := hrel
     by_cases htl : t < k % 4
     ·
      have hp := p16_step (r := t) (by omega)
      have hle := p16_le2 (r := t) (by omega)
      have hm : f k * p16 t ≤ 65535 * 4294967296 := Nat.mul_le_mul (by omega) hle
      have HP : Hid (f k * p16 (t + 1) = f k * p16 t * 65536) := Lib.hid (by rw [hp, Nat.mul_assoc])
      clear hp
      generalize f k * p16 t = y at *
      have htl' : (t : Int) < (k : Int) % 4 := by omega
      go_wp2
      exact ⟨⟨t + 1, by omega, by simp, by rw [HP.out]; simp, trivial⟩, by simp [intOf]; omega⟩
     ·
      obtain rfl : t = k % 4 := by omega
      have hlt4 : k / 4 < 4 := by omega
      have hs := wdg_lt (f := f) (i := k) (fun j hj => hf j (by omega))
      have hst := wdg_step f k
      have HS := Lib.hid hst
      clear hst
      have cc := k1.cell (k / 4)
      rw [ws_at _ hlt4] at cc
      have fc := k1.frozen (k / 4)
      generalize f k * p16 (k % 4) = y at *
      generalize hv : wdg f k (k / 4) = v at *
      clear hv
      go_wp2
      have kk := k1.set (k / 4) (.int .u64 ((v + y : Nat) : Int))
      rw [ws_set _ hlt4, ← HS.out, show ((v + y : Nat) : Int) = (v : Int) + (y : Int) by omega] at kk
      exact ⟨⟨k + 1, by omega, by simp, fun t h1 h2 => by omega, k0.other _ _ (by omega), kk, hbel.setCell (p := ⟨w.heap.size + 1, k / 4, none⟩) (by simp) _⟩, by simp [intOf]; omega⟩
   ·
    have h16' : ¬ (k : Int) < 16 := by omega
    by_cases hz0 : f k = 0
    ·
     have HZ := Lib.hid hz
     have HZ0 := Lib.hid hz0
     rw [hz0] at hc
     clear hz hz0
     go_wp2
     exact ⟨⟨k + 1, by omega, by simp, fun t h1 h2 => by
      by_cases e : t = k
      ·
       rw [e]; exact HZ0.out
      ·
       exact HZ.out t h1 (by omega), k0, by rw [wdg_high f (by omega)]; exact k1, hbel⟩, by simp [intOf]; omega⟩
    ·
     have hne : ((f k : Nat) : Int) ≠ 0 := by omega
     have hb : (((f k : Nat) : Int) == 0) = false := by simp; omega
     have HZ := Lib.hid hz
     have HZ0 := Lib.hid hz0
     clear hz hz0
     have c00 : wr.cell? ⟨w.heap.size, 0, none⟩ = some (.int .u64 ((0 : Nat) : Int)) := k0.cell 0
     have f00 := k0.frozen 0
     have c01 : wr.cell? ⟨w.heap.size, 1, none⟩ = some (.int .u64 ((0 : Nat) : Int)) := k0.cell 1
     have f01 := k0.frozen 1
     have c02 : wr.cell? ⟨w.heap.size, 2, none⟩ = some (.int .u64 ((0 : Nat) : Int)) := k0.cell 2
     have f02 := k0.frozen 2
     have c03 : wr.cell? ⟨w.heap.size, 3, none⟩ = some (.int .u64 ((0 : Nat) : Int)) := k0.cell 3
     have f03 := k0.frozen 3
     go_wp2
     have k0' := (((k0.set 0 (.int .u64 0)).set 1 (.int .u64 0)).set 2 (.int .u64 0)).set 3 (.int .u64 0)
     have r0 := k0'.cell 0
     have r1 := k0'.cell 1
     have r2 := k0'.cell 2
     have r3 := k0'.cell 3
     simp only [ws, List.set_cons_zero, List.set_cons_succ, List.getElem?_cons_zero, List.getElem?_cons_succ] at r0 r1 r2 r3
     have hB' := (((hbel.setCell (p := ⟨w.heap.size, 0, none⟩) (Nat.le_refl _) (.int .u64 0)).setCell (p := ⟨w.heap.size, 1, none⟩) (Nat.le_refl _) (.int .u64 0)).setCell (p := ⟨w.heap.size, 2, none⟩) (Nat.le_refl _) (.int .u64 0)).setCell (p := ⟨w.heap.size, 3, none⟩) (Nat.le_refl _) (.int .u64 0)
     exact bodyPost_ret (v := .tuple #[wv 0 0 0 0, .bool false]) (by simp [results, Tryz.f42, go_sem, r0, r1, r2, r3]) rfl (.inl ⟨⟨k, by omega, hlt, HZ0.out⟩, rfl, hB'⟩)
  ·
   obtain rfl : k = n := by omega
   have HZ := Lib.hid hz
   clear hz
   have c00 : wr.cell? ⟨w.heap.size, 0, none⟩ = some (.int .u64 ((0 : Nat) : Int)) := k0.cell 0
   have f00 := k0.frozen 0
   have c01 : wr.cell? ⟨w.heap.size, 1, none⟩ = some (.int .u64 ((0 : Nat) : Int)) := k0.cell 1
   have f01 := k0.frozen 1
   have c02 : wr.cell? ⟨w.heap.size, 2, none⟩ = some (.int .u64 ((0 : Nat) : Int)) := k0.cell 2
   have f02 := k0.frozen 2
   have c03 : wr.cell? ⟨w.heap.size, 3, none⟩ = some (.int .u64 ((0 : Nat) : Int)) := k0.cell 3
   have f03 := k0.frozen 3
   have c10 : wr.cell? ⟨w.heap.size + 1, 0, none⟩ = some (.int .u64 ((wdg f k 0 : Nat) : Int)) := k1.cell 0
   have c11 : wr.cell? ⟨w.heap.size + 1, 1, none⟩ = some (.int .u64 ((wdg f k 1 : Nat) : Int)) := k1.cell 1
   have c12 : wr.cell? ⟨w.heap.size + 1, 2, none⟩ = some (.int .u64 ((wdg f k 2 : Nat) : Int)) := k1.cell 2
   have c13 : wr.cell? ⟨w.heap.size + 1, 3, none⟩ = some (.int .u64 ((wdg f k 3 : Nat) : Int)) := k1.cell 3
   go_wp2
   have k0' := (((k0.set 0 (.int .u64 (wdg f k 0 : Nat))).set 1 (.int .u64 (wdg f k 1 : Nat))).set 2 (.int .u64 (wdg f k 2 : Nat))).set 3 (.int .u64 (wdg f k 3 : Nat))
   have r0 := k0'.cell 0
   have r1 := k0'.cell 1
   have r2 := k0'.cell 2
   have r3 := k0'.cell 3
   simp only [ws, List.set_cons_zero, List.set_cons_succ, List.getElem?_cons_zero, List.getElem?_cons_succ] at r0 r1 r2 r3
   have hB' := (((hbel.setCell (p := ⟨w.heap.size, 0, none⟩) (Nat.le_refl _) (.int .u64 (wdg f k 0 : Nat))).setCell (p := ⟨w.heap.size, 1, none⟩) (Nat.le_refl _) (.int .u64 (wdg f k 1 : Nat))).setCell (p := ⟨w.heap.size, 2, none⟩) (Nat.le_refl _) (.int .u64 (wdg f k 2 : Nat))).setCell (p := ⟨w.heap.size, 3, none⟩) (Nat.le_refl _) (.int .u64 (wdg f k 3 : Nat))
   exact bodyPost_ret (v := .tuple #[wv (wdg f k 0) (wdg f k 1) (wdg f k 2) (wdg f k 3), .bool true]) (by simp [results, Tryz.f42, go_sem, r0, r1, r2, r3]) rfl (.inr ⟨HZ.out, rfl, hB'⟩)
end Go.Proofs.YthhmdgmmeedhdaaGreat
namespace Go.Proofs.YthhmdgmmeedhdaaGreat
open Go.RowKit
def nv (f : Nat → Nat) : Nat → Nat
 | 0 => 0
 | n + 1 => nv f n + f n * 65536 ^ n
theorem nv_congr {f g : Nat → Nat} : ∀ {n : Nat}, (∀ k, k < n → f k = g k) → nv f n = nv g n
 | 0, _ => rfl
 | n + 1, h => by
  show nv f n + f n * 65536 ^ n = nv g n + g n * 65536 ^ n
  rw [nv_congr (fun k hk => h k (by omega)), h n (by omega)]
theorem nv_lt {f : Nat → Nat} : ∀ {n : Nat}, (∀ k, k < n → f k < 65536) → nv f n < 65536 ^ n
 | 0, _ => by simp [nv]
 | n + 1, h => by
  have h1 := nv_lt (n := n) (fun k hk => h k (by omega))
  have h2 := h n (by omega)
  have h3 : (f n + 1) * 65536 ^ n ≤ 65536 * 65536 ^ n := Nat.mul_le_mul_right _ (by omega)
  rw [Nat.add_mul] at h3
  show nv f n + f n * 65536 ^ n < 65536 ^ n * 65536
  omega
theorem pow16 : 65536 ^ 4 = M := by unfold M; decide
theorem pow_M4 : 65536 ^ 16 = M4 := by unfold M4 M; decide
theorem nv4 (f : Nat → Nat) (n : Nat) : nv f (n + 4) = nv f n + (f n + f (n + 1) * 65536 + f (n + 2) * 4294967296 + f (n + 3) * 281474976710656) * 65536 ^ n := by
 show nv f n + f n * 65536 ^ n + f (n + 1) * 65536 ^ (n + 1) + f (n + 2) * 65536 ^ (n + 2) + f (n + 3) * 65536 ^ (n + 3) = _
 rw [Nat.pow_add 65536 n 1, Nat.pow_add 65536 n 2, Nat.pow_add 65536 n 3]
 generalize 65536 ^ n = P
 have e1 : 65536 ^ 1 = 65536 := by decide
 have e2 : 65536 ^ 2 = 4294967296 := by decide
 have e3 : 65536 ^ 3 = 281474976710656 := by decide
 rw [e1, e2, e3, Nat.add_mul, Nat.add_mul, Nat.add_mul]
 rw [Nat.mul_comm P 65536, Nat.mul_comm P 4294967296, Nat.mul_comm P 281474976710656, ← Nat.mul_assoc, ← Nat.mul_assoc, ← Nat.mul_assoc]
 omega
theorem nv_val (f : Nat → Nat) {n : Nat} (hn : 16 ≤ n) : val (wdg f n 0) (wdg f n 1) (wdg f n 2) (wdg f n 3) = nv f 16 := by
 rw [wdg_4 f (q := 0) (by omega), wdg_4 f (q := 1) (by omega), wdg_4 f (q := 2) (by omega), wdg_4 f (q := 3) (by omega)]
 rw [show (16 : Nat) = 0 + 4 + 4 + 4 + 4 from rfl, nv4, nv4, nv4, nv4]
 have m0 : nv f 0 = 0 := rfl
 have p0 : 65536 ^ 0 = 1 := rfl
 have p4 : 65536 ^ (0 + 4) = M := pow16
 have p8 : 65536 ^ (0 + 4 + 4) = M * M := by rw [Nat.pow_add, p4]
 have p12 : 65536 ^ (0 + 4 + 4 + 4) = M * M * M := by rw [Nat.pow_add, p8, pow16]
 rw [m0, p0, p4, p8, p12]
 simp only [Nat.mul_zero, Nat.zero_add, Nat.mul_one, Nat.reduceMul, Nat.reduceAdd]
 generalize f 0 + f 1 * 65536 + f 2 * 4294967296 + f 3 * 281474976710656 = c0
 generalize f 4 + f 5 * 65536 + f 6 * 4294967296 + f 7 * 281474976710656 = c1
 generalize f 8 + f 9 * 65536 + f 10 * 4294967296 + f 11 * 281474976710656 = c2
 generalize f 12 + f 13 * 65536 + f 14 * 4294967296 + f 15 * 281474976710656 = c3
 unfold val
 rw [Nat.mul_add, Nat.mul_add, Nat.mul_add, Nat.mul_comm M c1, Nat.mul_comm c2 (M * M), Nat.mul_comm c3 (M * M * M)]
 simp only [Nat.mul_assoc, Nat.add_assoc]
theorem wdg_ok {f : Nat → Nat} {n : Nat} (hn : 16 ≤ n) (hf : ∀ k, k < 16 → f k < 65536) : Ok4 (wdg f n 0) (wdg f n 1) (wdg f n 2) (wdg f n 3) := by
 have h : ∀ j, j < 4 → wdg f n j < M := fun j hj => by
  have h0 := hf (4 * j) (by omega)
  have h1 := hf (4 * j + 1) (by omega)
  have h2 := hf (4 * j + 2) (by omega)
  have h3 := hf (4 * j + 3) (by omega)
  rw [wdg_4 f (by omega), M_eq]
  omega
 exact ⟨h 0 (by omega), h 1 (by omega), h 2 (by omega), h 3 (by omega)⟩
theorem word_digits {x : Nat} (h : x < M) : x = sh x 0 % 65536 + sh x 1 % 65536 * 65536 + sh x 2 % 65536 * 4294967296 + sh x 3 % 65536 * 281474976710656 := by
 have s0 : sh x 0 = x := rfl
 have s1 : sh x 1 = x / 65536 := rfl
 have s2 : sh x 2 = x / 65536 / 65536 := rfl
 have s3 : sh x 3 = x / 65536 / 65536 / 65536 := rfl
 rw [s0, s1, s2, s3]
 rw [M_eq] at h
 omega
theorem wdg_dg {a0 a1 a2 a3 : Nat} (ha : Ok4 a0 a1 a2 a3) {n : Nat} (hn : 16 ≤ n) (j : Nat) (hj : j < 4) : wdg (dg a0 a1 a2 a3) n j = word a0 a1 a2 a3 j := by
 rw [wdg_4 _ (by omega)]
 have e0 := dg_at (a0 := a0) (a1 := a1) (a2 := a2) (a3 := a3) (k := j) (t := 0) (by omega)
 rw [Nat.add_zero] at e0
 rw [e0, dg_at (t := 1) (by omega), dg_at (t := 2) (by omega), dg_at (t := 3) (by omega)]
 exact (word_digits (word_lt ha.h0 ha.h1 ha.h2 ha.h3 j)).symm
theorem nv_dg {a0 a1 a2 a3 : Nat} (ha : Ok4 a0 a1 a2 a3) : nv (dg a0 a1 a2 a3) 16 = val a0 a1 a2 a3 := by
 rw [← nv_val _ (Nat.le_refl 16), wdg_dg ha (by omega) 0 (by omega), wdg_dg ha (by omega) 1 (by omega), wdg_dg ha (by omega) 2 (by omega), wdg_dg ha (by omega) 3 (by omega)]
 rfl
theorem dg_lt (a0 a1 a2 a3 k : Nat) : dg a0 a1 a2 a3 k < 65536 := Nat.mod_lt _ (by omega)
def cyA (x y : Nat → Nat) : Nat → Nat
 | 0 => 0
 | k + 1 => (cyA x y k + x k + y k) / 65536
def sdA (x y : Nat → Nat) (k : Nat) : Nat := if k = 16 then cyA x y 16 else (cyA x y k + x k + y k) % 65536
theorem cyA_le {x y : Nat → Nat} (hx : ∀ k, x k < 65536) (hy : ∀ k, y k < 65536) : ∀ k, cyA x y k ≤ 1
 | 0 => by simp [cyA]
 | k + 1 => by
  have := cyA_le hx hy k
  have := hx k
  have := hy k
  show (cyA x y k + x k + y k) / 65536 ≤ 1
  omega
theorem nv_add (x y : Nat → Nat) : ∀ n, nv (fun k => (cyA x y k + x k + y k) % 65536) n + cyA x y n * 65536 ^ n = nv x n + nv y n
 | 0 => by simp [nv, cyA]
 | n + 1 => by
  have ih := nv_add x y n
  show nv _ n + (cyA x y n + x n + y n) % 65536 * 65536 ^ n + (cyA x y n + x n + y n) / 65536 * 65536 ^ (n + 1) = nv x n + x n * 65536 ^ n + (nv y n + y n * 65536 ^ n)
  have e : (cyA x y n + x n + y n) % 65536 + 65536 * ((cyA x y n + x n + y n) / 65536) = cyA x y n + x n + y n := Nat.mod_add_div _ _
  generalize (cyA x y n + x n + y n) % 65536 = r at *
  generalize (cyA x y n + x n + y n) / 65536 = q at *
  have e2 : (r + 65536 * q) * 65536 ^ n = (cyA x y n + x n + y n) * 65536 ^ n := by rw [e]
  rw [Nat.add_mul, Nat.add_mul, Nat.add_mul] at e2
  rw [Nat.pow_succ]
  rw [show 65536 * q * 65536 ^ n = q * (65536 ^ n * 65536) by rw [Nat.mul_comm 65536 q, Nat.mul_assoc, Nat.mul_comm 65536 (65536 ^ n)]] at e2
  omega
theorem sum_digits {a0 a1 a2 a3 b0 b1 b2 b3 : Nat} (ha : Ok4 a0 a1 a2 a3) (hb : Ok4 b0 b1 b2 b3) :
  nv (sdA (dg a0 a1 a2 a3) (dg b0 b1 b2 b3)) 16 + cyA (dg a0 a1 a2 a3) (dg b0 b1 b2 b3) 16 * M4 = val a0 a1 a2 a3 + val b0 b1 b2 b3 := by
 rw [← nv_dg ha, ← nv_dg hb, ← pow_M4, ← nv_add]
 rw [nv_congr (f := sdA (dg a0 a1 a2 a3) (dg b0 b1 b2 b3)) (g := fun k => (cyA (dg a0 a1 a2 a3) (dg b0 b1 b2 b3) k + dg a0 a1 a2 a3 k + dg b0 b1 b2 b3 k) % 65536)]
 intro k hk
 unfold sdA
 rw [if_neg (by omega)]
def cmpN (a b : Nat) : Int := if a < b then -1 else if b < a then 1 else 0
theorem nv_less {x y : Nat → Nat} {j : Nat} (hx : ∀ k, x k < 65536) (h : x j < y j) : ∀ n, j < n → (∀ t, j < t → t < n → x t = y t) → nv x n < nv y n
 | 0, hj, _ => by omega
 | n + 1, hj, he => by
  show nv x n + x n * 65536 ^ n < nv y n + y n * 65536 ^ n
  by_cases e : n = j
  ·
   subst e
   have h1 := nv_lt (f := x) (n := n) (fun k _ => hx k)
   have h2 : (x n + 1) * 65536 ^ n ≤ y n * 65536 ^ n := Nat.mul_le_mul_right _ h
   rw [Nat.add_mul] at h2
   omega
  ·
   have ih := nv_less hx h n (by omega) (fun t h1 h2 => he t h1 (by omega))
   rw [he n (by omega) (by omega)]
   omega
def bwS (x y : Nat → Nat) : Nat → Nat
 | 0 => 0
 | k + 1 => if x k < y k + bwS x y k then 1 else 0
def sdS (x y : Nat → Nat) (k : Nat) : Nat := if x k < y k + bwS x y k then x k + 65536 - y k - bwS x y k else x k - y k - bwS x y k
theorem bwS_le (x y : Nat → Nat) : ∀ k, bwS x y k ≤ 1
 | 0 => by simp [bwS]
 | k + 1 => by
  show (if x k < y k + bwS x y k then 1 else 0) ≤ 1
  split <;> omega
theorem sdS_lt {x y : Nat → Nat} (hx : ∀ k, x k < 65536) (hy : ∀ k, y k < 65536) (k : Nat) : sdS x y k < 65536 := by
 have := hx k
 have := hy k
 unfold sdS
 split <;> omega
theorem nv_sub {x y : Nat → Nat} (hx : ∀ k, x k < 65536) (hy : ∀ k, y k < 65536) : ∀ n, nv (sdS x y) n + nv y n = nv x n + bwS x y n * 65536 ^ n
 | 0 => by simp [nv, bwS]
 | n + 1 => by
  have ih := nv_sub hx hy n
  have h1 := hx n
  have h2 := hy n
  have h3 := bwS_le x y n
  have e : sdS x y n + y n + bwS x y n = x n + 65536 * bwS x y (n + 1) := by
   show sdS x y n + y n + bwS x y n = x n + 65536 * (if x n < y n + bwS x y n then 1 else 0)
   unfold sdS
   split <;> omega
  show nv (sdS x y) n + sdS x y n * 65536 ^ n + (nv y n + y n * 65536 ^ n) = nv x n + x n * 65536 ^ n + bwS x y (n + 1) * 65536 ^ (n + 1)
  generalize bwS x y (n + 1) = q at *
  have e2 : (sdS x y n + y n + bwS x y n) * 65536 ^ n = (x n + 65536 * q) * 65536 ^ n := by rw [e]
  rw [Nat.add_mul, Nat.add_mul, Nat.add_mul] at e2
  rw [Nat.pow_succ]
  rw [show 65536 * q * 65536 ^ n = q * (65536 ^ n * 65536) by rw [Nat.mul_comm 65536 q, Nat.mul_assoc, Nat.mul_comm 65536 (65536 ^ n)]] at e2
  omega
end Go.Proofs.YthhmdgmmeedhdaaGreat
