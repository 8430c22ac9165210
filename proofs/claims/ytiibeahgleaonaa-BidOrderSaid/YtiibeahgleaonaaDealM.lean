/-
  A transfer and a side's data as plain things; whether they may be; what is put of them, and read, as states of octets.
-/
import Derived.Test.YtiibeahgleaonaaFieldM
namespace Go.Proofs.Ytiibeahgleaonaa
open Go.RowKit Go.Shelf

structure Trf where
  us : Int
  rt : ByteArray
  ro : Int
  se : Int
  re : Int
  to : Int
  id : ByteArray
/-- A transfer as a value. -/
abbrev ivv (i : Trf) : Value := .agg #[.int .i64 i.us, .string i.rt, .int .i64 i.ro, .int .i64 i.se, .int .i64 i.re, .int .i64 i.to, .string i.id]
/-- Its cells. -/
abbrev ivc (i : Trf) : List Value := [.int .i64 i.us, .string i.rt, .int .i64 i.ro, .int .i64 i.se, .int .i64 i.re, .int .i64 i.to, .string i.id]
structure OkI (i : Trf) : Prop where
  rs : i.rt.size ≤ 140737488351232
  is : i.id.size ≤ 140737488351232
def emptyB : ByteArray := ⟨#[]⟩
def noI : Trf := ⟨0, ⟨#[]⟩, 0, 0, 0, 0, ⟨#[]⟩⟩
def maybeI (i : Trf) : Prop := (0 ≤ i.us ∧ i.us ≤ 1) ∧ i.rt.size = 8 ∧ (2 ≤ i.ro ∧ i.ro ≤ 3) ∧ (0 ≤ i.se ∧ i.se ≤ 1) ∧ (0 ≤ i.re ∧ i.re ≤ 1) ∧ (0 ≤ i.to ∧ i.to ≤ 7) ∧ 1 ≤ i.id.size ∧ i.id.size ≤ 16
instance (i : Trf) : Decidable (maybeI i) := by unfold maybeI; infer_instance
def errI (i : Trf) : Int := if maybeI i then 0 else 39
theorem errI_zero {i : Trf} (h : maybeI i) : errI i = 0 := if_pos h
theorem errI_bad {i : Trf} (h : ¬ maybeI i) : errI i = 39 := if_neg h

structure Sid where
  a0 : Nat
  a1 : Nat
  a2 : Nat
  a3 : Nat
  x : Int
abbrev svv (v : Sid) : Value := .agg #[.int .u64 (v.a0 : Nat), .int .u64 (v.a1 : Nat), .int .u64 (v.a2 : Nat), .int .u64 (v.a3 : Nat), .int .i64 v.x]
abbrev svc (v : Sid) : List Value := [.int .u64 (v.a0 : Nat), .int .u64 (v.a1 : Nat), .int .u64 (v.a2 : Nat), .int .u64 (v.a3 : Nat), .int .i64 v.x]
def noV : Sid := ⟨0, 0, 0, 0, 0⟩
def maybeV (v : Sid) : Prop := ¬ (v.a0 = 0 ∧ v.a1 = 0 ∧ v.a2 = 0 ∧ v.a3 = 0) ∧ 0 ≤ v.x ∧ v.x ≤ 1099511627776
instance (v : Sid) : Decidable (maybeV v) := by unfold maybeV; infer_instance
def errV (v : Sid) : Int := if maybeV v then 0 else 36
theorem errV_zero {v : Sid} (h : maybeV v) : errV v = 0 := if_pos h
theorem errV_bad {v : Sid} (h : ¬ maybeV v) : errV v = 36 := if_neg h

/-- The texts "inv", "act". -/
def invB : ByteArray := ⟨#[105, 110, 118]⟩
def actB : ByteArray := ⟨#[97, 99, 116]⟩
def putI1 (s : St) (i : Trf) : St := txtS (numS (txtS s invB) i.us) i.rt
def putI2 (s : St) (i : Trf) : St := numS (numS (numS (numS s i.ro) i.se) i.re) i.to
def putI (s : St) (i : Trf) : St := txtS (putI2 (putI1 s i) i) i.id
def putV (s : St) (v : Sid) : St := numS (wideS s v.a0 v.a1 v.a2 v.a3) v.x
def paySt (act : Int) (key : ByteArray) (a0 a1 a2 a3 : Nat) : St := wideS (txtS (numS (txtS ([], 0) actB) act) key) a0 a1 a2 a3
theorem okS_new : OkS ([], 0) := ⟨fun _ => rfl, by simp⟩
theorem okS_putI1 {s : St} (h : OkS s) (i : Trf) : OkS (putI1 s i) := okS_txt (okS_num (okS_txt h _) _) _
theorem okS_putI2 {s : St} (h : OkS s) (i : Trf) : OkS (putI2 s i) := okS_num (okS_num (okS_num (okS_num h _) _) _) _
theorem okS_putI {s : St} (h : OkS s) (i : Trf) : OkS (putI s i) := okS_txt (okS_putI2 (okS_putI1 h i) i) _
theorem okS_putV {s : St} (h : OkS s) (v : Sid) : OkS (putV s v) := okS_num (okS_wide h _ _ _ _) _

/-- The number 'most' of a field of a transfer. -/
abbrev big : Int := 1099511627776
def str (l : List UInt8) : ByteArray := ⟨l.toArray⟩
/-- What is read of octets: the first text, the transfer's things, and the state behind. -/
def rd0 (s : St) : List UInt8 × St := gtxtS s 16
def rd1 (s : St) : Nat × St := mostS (rd0 s).2 6 big
def rd2 (s : St) : List UInt8 × St := gtxtS (rd1 s).2 8
def rd3 (s : St) : Nat × St := mostS (rd2 s).2 6 big
def rd4 (s : St) : Nat × St := mostS (rd3 s).2 6 big
def rd5 (s : St) : Nat × St := mostS (rd4 s).2 6 big
def rd6 (s : St) : Nat × St := mostS (rd5 s).2 6 big
def rd7 (s : St) : List UInt8 × St := gtxtS (rd6 s).2 16
def rawI (s : St) : Trf := ⟨(rd1 s).1, str (rd2 s).1, (rd3 s).1, (rd4 s).1, (rd5 s).1, (rd6 s).1, str (rd7 s).1⟩
def goodI (s : St) : Prop := str (rd0 s).1 = invB ∧ maybeI (rawI s)
instance (s : St) : Decidable (goodI s) := by unfold goodI; infer_instance
/-- The transfer that is read, and the state behind it. -/
def getI (s : St) : Trf × St := if (rd7 s).2.2 = 0 ∧ goodI s then (rawI s, (rd7 s).2) else (noI, errS (rd7 s).2 16)
def vd0 (s : St) : List UInt8 × St := takeS s 32
def vd1 (s : St) : Nat × St := mostS (vd0 s).2 6 big
def rawV (s : St) : Sid := ⟨wdS (vd0 s).1 0, wdS (vd0 s).1 1, wdS (vd0 s).1 2, wdS (vd0 s).1 3, (vd1 s).1⟩
def getV (s : St) : Sid × St := if (vd1 s).2.2 = 0 ∧ maybeV (rawV s) then (rawV s, (vd1 s).2) else (noV, errS (vd1 s).2 16)
theorem okS_rd7 {s : St} (h : OkS s) : OkS (rd7 s).2 := okS_gtxt (okS_most (okS_most (okS_most (okS_most (okS_gtxt (okS_most (okS_gtxt h _) _ _) _) _ _) _ _) _ _) _ _) _
theorem okS_vd1 {s : St} (h : OkS s) : OkS (vd1 s).2 := okS_most (okS_take h _) _ _
theorem okS_getI {s : St} (h : OkS s) : OkS (getI s).2 := by
  unfold getI; split
  · exact okS_rd7 h
  · exact okS_err (okS_rd7 h) _
theorem okS_getV {s : St} (h : OkS s) : OkS (getV s).2 := by
  unfold getV; split
  · exact okS_vd1 h
  · exact okS_err (okS_vd1 h) _
end Go.Proofs.Ytiibeahgleaonaa
