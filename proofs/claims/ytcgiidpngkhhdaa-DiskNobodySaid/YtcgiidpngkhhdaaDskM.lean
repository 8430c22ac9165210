/-
  A disk as a plain thing, and in memory.
-/
import Derived.Test.YtcgiidpngkhhdaaOctP
namespace Go.Proofs.Ytcgiidpngkhhdaa
open Go.RowKit Go.Shelf

/-- Its room, its octets, how many of them are sure. -/
structure Dk where
  rm : Nat
  o : List UInt8
  su : Nat
structure OkD (D : Dk) : Prop where
  room : D.rm ≤ 65536
  len : D.o.length ≤ D.rm
  sure : D.su ≤ D.o.length
def dkc (b : Bool) (r : Int) (v : Value) (s : Int) : List Value := [.bool b, .int .i64 r, v, .int .i64 s]
/-- Its parts. -/
def DKR (B : Nat) (D : Dk) (v : Value) : List Res := [.blk B 37 (dkc true (D.rm : Int) v (D.su : Int)), .oct v D.o]
/-- What becomes of a disk, and what is answered. -/
def DkR (B : Nat) (r : Res) (D : Dk) (a : Value) (W : World) (e : Ending) (W' : World) : Prop := e = .returned a ∧ ∃ v, RTurn r (.join (DKR B D v)) W W'
/-- What is read of it. -/
structure DkV (W : World) (B : Nat) (D : Dk) (v : Value) : Prop where
  b : Blk W B 37 (dkc true (D.rm : Int) v (D.su : Int))
  o : BSl 0 W.heap.size W v D.o
theorem DkV.of {W : World} {B : Nat} {D : Dk} {v : Value} (h : ROk (.join (DKR B D v)) W) : DkV W B D v := by
  have hs := Sep.begin h
  exact ⟨hs.at 0 rfl, (hs.oka 1 rfl).octs⟩
theorem DkV.below {W W' : World} {B : Nat} {D : Dk} {v : Value} (h : DkV W B D v) (hb : Below W.heap.size W W') : DkV W' B D v := ⟨h.b.below hb h.b.lt, (h.o.below hb (Nat.le_refl _)).mono (Nat.le_refl _) hb.size⟩
/-- Nobody made it. -/
def NoD (W : World) (p : Value) : Prop := p = .pointer none ∨ ∃ B, p = .pointer (some ⟨B, 0, none⟩) ∧ Blk W B 37 (dkc false 0 (.slice none 0 0) 0)
theorem NoD.below {W W' : World} {p : Value} (h : NoD W p) (hb : Below W.heap.size W W') : NoD W' p := by
  rcases h with h | ⟨B, h1, h2⟩
  · exact .inl h
  · exact .inr ⟨B, h1, h2.below hb h2.lt⟩
/-- The nearest room that may be. -/
def roomN (n : Int) : Nat := (max 0 (min n 65536)).toNat
def newD (n : Int) : Dk := ⟨roomN n, [], 0⟩
def putD (D : Dk) (l : List UInt8) : Dk := { D with o := D.o ++ l }
def sureD (D : Dk) : Dk := { D with su := D.o.length }
def leaveD (D : Dk) (k : Nat) : Dk := { D with o := D.o.take k, su := k }
/-- How many are left behind a fall. -/
def keepN (D : Dk) (n : Int) : Nat := D.su + (max 0 (min n ((D.o.length : Int) - (D.su : Int)))).toNat
/-- Write: what becomes of it, and what is answered. -/
def writeD (D : Dk) (l : List UInt8) : Dk × Int := if D.rm - D.o.length < l.length then (D, 10) else (putD D l, 0)
/-- Trim. -/
def trimD (D : Dk) (n : Int) : Dk × Int := if n < 0 ∨ (D.o.length : Int) < n then (D, 4) else (leaveD D n.toNat, 0)
theorem new_ok (n : Int) : OkD (newD n) := ⟨by show roomN n ≤ 65536; unfold roomN; omega, Nat.zero_le _, Nat.le_refl _⟩
theorem sure_ok {D : Dk} (h : OkD D) : OkD (sureD D) := ⟨h.room, h.len, Nat.le_refl _⟩
theorem leave_ok {D : Dk} (h : OkD D) {k : Nat} (hk : k ≤ D.o.length) : OkD (leaveD D k) := ⟨h.room, by show (D.o.take k).length ≤ D.rm; rw [List.length_take]; have := h.len; omega, by show k ≤ (D.o.take k).length; rw [List.length_take]; omega⟩
theorem keep_le {D : Dk} (h : OkD D) (n : Int) : keepN D n ≤ D.o.length := by have := h.sure; unfold keepN; omega
theorem keep_ge (D : Dk) (n : Int) : D.su ≤ keepN D n := by unfold keepN; omega
theorem write_ok {D : Dk} (h : OkD D) (l : List UInt8) : OkD (writeD D l).1 := by
  unfold writeD
  split
  · exact h
  · exact ⟨h.room, by show (D.o ++ l).length ≤ D.rm; rw [List.length_append]; have := h.len; omega, by show D.su ≤ (D.o ++ l).length; rw [List.length_append]; have := h.sure; omega⟩
theorem trim_ok {D : Dk} (h : OkD D) (n : Int) : OkD (trimD D n).1 := by
  unfold trimD
  split
  · exact h
  · exact leave_ok h (by omega)
-- HERE
end Go.Proofs.Ytcgiidpngkhhdaa
