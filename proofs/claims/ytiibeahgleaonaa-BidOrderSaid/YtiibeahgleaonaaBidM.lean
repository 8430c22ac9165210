/-
  An ask and a bid as plain things; whether they may be; what is put of them, and read, as states of octets.
-/
import Derived.Test.YtiibeahgleaonaaDealM
import Derived.Test.YtiibeahgleaonaaRefMath
namespace Go.Proofs.Ytiibeahgleaonaa
open Go.RowKit Go.Shelf

structure Ak where
  us : Int
  se : Int
  re : Int
  to : Int
  a0 : Nat
  a1 : Nat
  a2 : Nat
  a3 : Nat
  id : ByteArray
/-- An ask as a value. -/
abbrev akv (a : Ak) : Value := .agg #[.int .i64 a.us, .int .i64 a.se, .int .i64 a.re, .int .i64 a.to, .int .u64 (a.a0 : Nat), .int .u64 (a.a1 : Nat), .int .u64 (a.a2 : Nat), .int .u64 (a.a3 : Nat), .string a.id]
/-- Its cells. -/
abbrev akc (a : Ak) : List Value := [.int .i64 a.us, .int .i64 a.se, .int .i64 a.re, .int .i64 a.to, .int .u64 (a.a0 : Nat), .int .u64 (a.a1 : Nat), .int .u64 (a.a2 : Nat), .int .u64 (a.a3 : Nat), .string a.id]
def noA : Ak := ⟨0, 0, 0, 0, 0, 0, 0, 0, ⟨#[]⟩⟩
/-- A number's words are all 0. -/
def zw (a0 a1 a2 a3 : Nat) : Prop := a0 = 0 ∧ a1 = 0 ∧ a2 = 0 ∧ a3 = 0
instance (a0 a1 a2 a3 : Nat) : Decidable (zw a0 a1 a2 a3) := by unfold zw; infer_instance
def maybeA (a : Ak) : Prop := (0 ≤ a.us ∧ a.us ≤ 1) ∧ (0 ≤ a.se ∧ a.se ≤ 1) ∧ (0 ≤ a.re ∧ a.re ≤ 1) ∧ (0 ≤ a.to ∧ a.to ≤ 7) ∧ ¬ zw a.a0 a.a1 a.a2 a.a3 ∧ 1 ≤ a.id.size ∧ a.id.size ≤ 16
instance (a : Ak) : Decidable (maybeA a) := by unfold maybeA; infer_instance
def errA (a : Ak) : Int := if maybeA a then 0 else 39
theorem errA_zero {a : Ak} (h : maybeA a) : errA a = 0 := if_pos h
theorem errA_bad {a : Ak} (h : ¬ maybeA a) : errA a = 39 := if_neg h

structure Bd where
  ro : Int
  k : Ak
  b0 : Nat
  b1 : Nat
  b2 : Nat
  b3 : Nat
  un : Int
  sg : ByteArray
abbrev bdv (b : Bd) : Value := .agg #[.int .i64 b.ro, .int .i64 b.k.us, .int .i64 b.k.se, .int .i64 b.k.re, .int .i64 b.k.to, .int .u64 (b.k.a0 : Nat), .int .u64 (b.k.a1 : Nat), .int .u64 (b.k.a2 : Nat), .int .u64 (b.k.a3 : Nat), .string b.k.id, .int .u64 (b.b0 : Nat), .int .u64 (b.b1 : Nat), .int .u64 (b.b2 : Nat), .int .u64 (b.b3 : Nat), .int .i64 b.un, .string b.sg]
abbrev bdc (b : Bd) : List Value := [.int .i64 b.ro, .int .i64 b.k.us, .int .i64 b.k.se, .int .i64 b.k.re, .int .i64 b.k.to, .int .u64 (b.k.a0 : Nat), .int .u64 (b.k.a1 : Nat), .int .u64 (b.k.a2 : Nat), .int .u64 (b.k.a3 : Nat), .string b.k.id, .int .u64 (b.b0 : Nat), .int .u64 (b.b1 : Nat), .int .u64 (b.b2 : Nat), .int .u64 (b.b3 : Nat), .int .i64 b.un, .string b.sg]
def noB : Bd := ⟨0, noA, 0, 0, 0, 0, 0, ⟨#[]⟩⟩
/-- Its words are words. -/
structure OkA (a : Ak) : Prop where
  k : Ok4 a.a0 a.a1 a.a2 a.a3
structure OkB (b : Bd) : Prop where
  k : Ok4 b.k.a0 b.k.a1 b.k.a2 b.k.a3
  b : Ok4 b.b0 b.b1 b.b2 b.b3
def maybeB (b : Bd) : Prop := (2 ≤ b.ro ∧ b.ro ≤ 3) ∧ maybeA b.k ∧ ¬ zw b.b0 b.b1 b.b2 b.b3 ∧ val b.b0 b.b1 b.b2 b.b3 ≤ val b.k.a0 b.k.a1 b.k.a2 b.k.a3 ∧ (0 ≤ b.un ∧ b.un ≤ 1099511627776) ∧ b.sg.size ≤ 1024
instance (b : Bd) : Decidable (maybeB b) := by unfold maybeB; infer_instance
def errB (b : Bd) : Int := if maybeB b then 0 else 39
theorem errB_zero {b : Bd} (h : maybeB b) : errB b = 0 := if_pos h
theorem errB_bad {b : Bd} (h : ¬ maybeB b) : errB b = 39 := if_neg h

/-- The text "bid". -/
def bidB : ByteArray := ⟨#[98, 105, 100]⟩
def putA4 (s : St) (a : Ak) : St := numS (numS (numS (numS s a.us) a.se) a.re) a.to
def putA (s : St) (a : Ak) : St := txtS (wideS (putA4 s a) a.a0 a.a1 a.a2 a.a3) a.id
def putB (s : St) (b : Bd) : St := numS (wideS (putA (numS (txtS s bidB) b.ro) b.k) b.b0 b.b1 b.b2 b.b3) b.un
theorem okS_putA4 {s : St} (h : OkS s) (a : Ak) : OkS (putA4 s a) := okS_num (okS_num (okS_num (okS_num h _) _) _) _
theorem okS_putA {s : St} (h : OkS s) (a : Ak) : OkS (putA s a) := okS_txt (okS_wide (okS_putA4 h a) _ _ _ _) _
theorem okS_putB {s : St} (h : OkS s) (b : Bd) : OkS (putB s b) := okS_num (okS_wide (okS_putA (okS_num (okS_txt h _) _) _) _ _ _ _) _
def textL (b : Bd) : List UInt8 := if maybeB b then (putB ([], 0) b).1 else []
theorem textL_yes {b : Bd} (h : maybeB b) : textL b = (putB ([], 0) b).1 := if_pos h
theorem textL_no {b : Bd} (h : ¬ maybeB b) : textL b = [] := if_neg h
theorem textL_len (b : Bd) : (textL b).length ≤ 8192 := by
  unfold textL; split
  · exact (okS_putB okS_new b).2
  · simp

/-- What is read of octets: an ask's things, and the state behind. -/
def ad0 (s : St) : Nat × St := mostS s 6 big
def ad1 (s : St) : Nat × St := mostS (ad0 s).2 6 big
def ad2 (s : St) : Nat × St := mostS (ad1 s).2 6 big
def ad3 (s : St) : Nat × St := mostS (ad2 s).2 6 big
def ad4 (s : St) : List UInt8 × St := takeS (ad3 s).2 32
def ad5 (s : St) : List UInt8 × St := gtxtS (ad4 s).2 16
def rawA (s : St) : Ak := ⟨(ad0 s).1, (ad1 s).1, (ad2 s).1, (ad3 s).1, wdS (ad4 s).1 0, wdS (ad4 s).1 1, wdS (ad4 s).1 2, wdS (ad4 s).1 3, str (ad5 s).1⟩
/-- The ask that is read, and the state behind it. -/
def getA (s : St) : Ak × St := if (ad5 s).2.2 = 0 ∧ maybeA (rawA s) then (rawA s, (ad5 s).2) else (noA, errS (ad5 s).2 16)
theorem okS_ad5 {s : St} (h : OkS s) : OkS (ad5 s).2 := okS_gtxt (okS_take (okS_most (okS_most (okS_most (okS_most h _ _) _ _) _ _) _ _) _) _
theorem okS_getA {s : St} (h : OkS s) : OkS (getA s).2 := by
  unfold getA; split
  · exact okS_ad5 h
  · exact okS_err (okS_ad5 h) _
theorem getA_yes {s : St} (h : (ad5 s).2.2 = 0) (g : maybeA (rawA s)) : getA s = (rawA s, (ad5 s).2) := if_pos ⟨h, g⟩
theorem getA_bad {s : St} (h : (ad5 s).2.2 ≠ 0) : getA s = (noA, (ad5 s).2) := by unfold getA; rw [if_neg (fun e => h e.1), errS_bad h]
theorem getA_no {s : St} (h : ¬ maybeA (rawA s)) : getA s = (noA, errS (ad5 s).2 16) := if_neg fun e => h e.2

/-- a offers more than b, or as much by a lower router. -/
def betB (a b : Bd) : Bool := decide (val b.b0 b.b1 b.b2 b.b3 < val a.b0 a.b1 a.b2 a.b3 ∨ (val a.b0 a.b1 a.b2 a.b3 = val b.b0 b.b1 b.b2 b.b3 ∧ a.ro < b.ro))
theorem betB_self (a : Bd) : betB a a = false := by unfold betB; simp
theorem betB_asym {a b : Bd} (h : betB a b = true) : betB b a = false := by
  unfold betB at *
  simp only [decide_eq_true_eq] at h
  simp only [decide_eq_false_iff_not]
  omega
theorem betB_trans {a b c : Bd} (h : betB a b = true) (g : betB b c = true) : betB a c = true := by
  unfold betB at *
  simp only [decide_eq_true_eq] at *
  omega
end Go.Proofs.Ytiibeahgleaonaa
