/-
  A transfer and a side's data as plain things; whether they may be; what is put of them, and read, as states of octets.
  Digits of 16 bits: rows of numbers that a call owns; what digits come to.
  What digits of 16 bits come to, word by word.
  Numbers of sixteen digits: what digits, sums and differences digit by digit come to.
  An ask and a bid as plain things; whether they may be; what is put of them, and read, as states of octets.
  Appending a slice of octets, nil or not.
  slices.Clone of octets.
  slices.Values over octets: each.
  blob.Int: the number of the first seven octets at most.
  slices.All over octets: each with its place.
  blob.Unwide: the number of 32 octets.
-/
import Derived.Laws.OwnMore
import Derived.WalkSpells
import Derived.Test.YtigdenlnnnfjlaaK01
namespace Go.Proofs.Ytigdenlnnnfjlaa
open Go.RowKit Go.Shelf

structure Trf where
  us : Int
  rt : ByteArray
  ro : Int
  se : Int
  re : Int
  to : Int
  id : ByteArray
/-- A transfer as a value. -/
abbrev ivv (i : Trf) : Value := .agg #[.int .i64 i.us, .string i.rt, .int .i64 i.ro, .int .i64 i.se, .int .i64 i.re, .int .i64 i.to, .string i.id]
/-- Its cells. -/
abbrev ivc (i : Trf) : List Value := [.int .i64 i.us, .string i.rt, .int .i64 i.ro, .int .i64 i.se, .int .i64 i.re, .int .i64 i.to, .string i.id]
structure OkI (i : Trf) : Prop where
  rs : i.rt.size ≤ 140737488351232
  is : i.id.size ≤ 140737488351232
def emptyB : ByteArray := ⟨#[]⟩
def noI : Trf := ⟨0, ⟨#[]⟩, 0, 0, 0, 0, ⟨#[]⟩⟩
def maybeI (i : Trf) : Prop := (0 ≤ i.us ∧ i.us ≤ 1) ∧ i.rt.size = 8 ∧ (2 ≤ i.ro ∧ i.ro ≤ 3) ∧ (0 ≤ i.se ∧ i.se ≤ 1) ∧ (0 ≤ i.re ∧ i.re ≤ 1) ∧ (0 ≤ i.to ∧ i.to ≤ 7) ∧ 1 ≤ i.id.size ∧ i.id.size ≤ 16
instance (i : Trf) : Decidable (maybeI i) := by unfold maybeI; infer_instance
def errI (i : Trf) : Int := if maybeI i then 0 else 39
theorem errI_zero {i : Trf} (h : maybeI i) : errI i = 0 := if_pos h
theorem errI_bad {i : Trf} (h : ¬ maybeI i) : errI i = 39 := if_neg h

structure Sid where
  a0 : Nat
  a1 : Nat
  a2 : Nat
  a3 : Nat
  x : Int
abbrev svv (v : Sid) : Value := .agg #[.int .u64 (v.a0 : Nat), .int .u64 (v.a1 : Nat), .int .u64 (v.a2 : Nat), .int .u64 (v.a3 : Nat), .int .i64 v.x]
abbrev svc (v : Sid) : List Value := [.int .u64 (v.a0 : Nat), .int .u64 (v.a1 : Nat), .int .u64 (v.a2 : Nat), .int .u64 (v.a3 : Nat), .int .i64 v.x]
def noV : Sid := ⟨0, 0, 0, 0, 0⟩
def maybeV (v : Sid) : Prop := ¬ (v.a0 = 0 ∧ v.a1 = 0 ∧ v.a2 = 0 ∧ v.a3 = 0) ∧ 0 ≤ v.x ∧ v.x ≤ 1099511627776
instance (v : Sid) : Decidable (maybeV v) := by unfold maybeV; infer_instance
def errV (v : Sid) : Int := if maybeV v then 0 else 36
theorem errV_zero {v : Sid} (h : maybeV v) : errV v = 0 := if_pos h
theorem errV_bad {v : Sid} (h : ¬ maybeV v) : errV v = 36 := if_neg h

/-- The texts "inv", "act". -/
def invB : ByteArray := ⟨#[105, 110, 118]⟩
def actB : ByteArray := ⟨#[97, 99, 116]⟩
def putI1 (s : St) (i : Trf) : St := txtS (numS (txtS s invB) i.us) i.rt
def putI2 (s : St) (i : Trf) : St := numS (numS (numS (numS s i.ro) i.se) i.re) i.to
def putI (s : St) (i : Trf) : St := txtS (putI2 (putI1 s i) i) i.id
def putV (s : St) (v : Sid) : St := numS (wideS s v.a0 v.a1 v.a2 v.a3) v.x
def paySt (act : Int) (key : ByteArray) (a0 a1 a2 a3 : Nat) : St := wideS (txtS (numS (txtS ([], 0) actB) act) key) a0 a1 a2 a3
theorem okS_new : OkS ([], 0) := ⟨fun _ => rfl, by simp⟩
theorem okS_putI1 {s : St} (h : OkS s) (i : Trf) : OkS (putI1 s i) := okS_txt (okS_num (okS_txt h _) _) _
theorem okS_putI2 {s : St} (h : OkS s) (i : Trf) : OkS (putI2 s i) := okS_num (okS_num (okS_num (okS_num h _) _) _) _
theorem okS_putI {s : St} (h : OkS s) (i : Trf) : OkS (putI s i) := okS_txt (okS_putI2 (okS_putI1 h i) i) _
theorem okS_putV {s : St} (h : OkS s) (v : Sid) : OkS (putV s v) := okS_num (okS_wide h _ _ _ _) _

/-- The number 'most' of a field of a transfer. -/
abbrev big : Int := 1099511627776
def str (l : List UInt8) : ByteArray := ⟨l.toArray⟩
/-- What is read of octets: the first text, the transfer's things, and the state behind. -/
def rd0 (s : St) : List UInt8 × St := gtxtS s 16
def rd1 (s : St) : Nat × St := mostS (rd0 s).2 6 big
def rd2 (s : St) : List UInt8 × St := gtxtS (rd1 s).2 8
def rd3 (s : St) : Nat × St := mostS (rd2 s).2 6 big
def rd4 (s : St) : Nat × St := mostS (rd3 s).2 6 big
def rd5 (s : St) : Nat × St := mostS (rd4 s).2 6 big
def rd6 (s : St) : Nat × St := mostS (rd5 s).2 6 big
def rd7 (s : St) : List UInt8 × St := gtxtS (rd6 s).2 16
def rawI (s : St) : Trf := ⟨(rd1 s).1, str (rd2 s).1, (rd3 s).1, (rd4 s).1, (rd5 s).1, (rd6 s).1, str (rd7 s).1⟩
def goodI (s : St) : Prop := str (rd0 s).1 = invB ∧ maybeI (rawI s)
instance (s : St) : Decidable (goodI s) := by unfold goodI; infer_instance
/-- The transfer that is read, and the state behind it. -/
def getI (s : St) : Trf × St := if (rd7 s).2.2 = 0 ∧ goodI s then (rawI s, (rd7 s).2) else (noI, errS (rd7 s).2 16)
def vd0 (s : St) : List UInt8 × St := takeS s 32
def vd1 (s : St) : Nat × St := mostS (vd0 s).2 6 big
def rawV (s : St) : Sid := ⟨wdS (vd0 s).1 0, wdS (vd0 s).1 1, wdS (vd0 s).1 2, wdS (vd0 s).1 3, (vd1 s).1⟩
def getV (s : St) : Sid × St := if (vd1 s).2.2 = 0 ∧ maybeV (rawV s) then (rawV s, (vd1 s).2) else (noV, errS (vd1 s).2 16)
theorem okS_rd7 {s : St} (h : OkS s) : OkS (rd7 s).2 := okS_gtxt (okS_most (okS_most (okS_most (okS_most (okS_gtxt (okS_most (okS_gtxt h _) _ _) _) _ _) _ _) _ _) _ _) _
theorem okS_vd1 {s : St} (h : OkS s) : OkS (vd1 s).2 := okS_most (okS_take h _) _ _
theorem okS_getI {s : St} (h : OkS s) : OkS (getI s).2 := by
  unfold getI; split
  · exact okS_rd7 h
  · exact okS_err (okS_rd7 h) _
theorem okS_getV {s : St} (h : OkS s) : OkS (getV s).2 := by
  unfold getV; split
  · exact okS_vd1 h
  · exact okS_err (okS_vd1 h) _
end Go.Proofs.Ytigdenlnnnfjlaa

namespace Go.Proofs.Ytigdenlnnnfjlaa
open Go.RowKit

theorem Try.infoInt : (Try.prog.info? 3).map (fun i => (i.zero, i.size, i.bytes)) = some (some (.int .i64 0), 1, 8) := by kernel_rfl

/-- The slice value v owns a row of n numbers, f 0, f 1, .. -/
def OR (W : World) (base : Nat) (v : Value) (n : Nat) (f : Nat → Nat) : Prop := W.ownsRow base 3 1 v n ((List.range n).map fun k => Value.int .i64 (f k : Nat))
theorem OR.nil (W : World) (base : Nat) (f : Nat → Nat) : OR W base (.slice none 0 0) 0 f := ⟨rfl, .inl ⟨rfl, rfl⟩⟩
theorem OR.out {W : World} {base : Nat} {v : Value} {n : Nat} {f : Nat → Nat} (h : OR W base v n f) : W.ownsRow base 3 1 v n ((List.range n).map fun k => Value.int .i64 (f k : Nat)) := h
theorem OR.step {W : World} {base : Nat} {v : Value} {n : Nat} {f : Nat → Nat} {x : Int} (h : W.ownsRow base 3 1 v (n + 1) (((List.range n).map fun k => Value.int .i64 (f k : Nat)) ++ [.int .i64 x])) (hx : x = (f n : Nat)) : OR W base v (n + 1) f := by
  unfold OR
  rw [List.range_succ, List.map_append]
  rw [hx] at h
  exact h
theorem OR.alloc {W : World} {base : Nat} {v : Value} {n : Nat} {f : Nat → Nat} (h : OR W base v n f) (o : Obj) : OR (W.alloc o) base v n f := World.ownsRow.alloc h o
theorem OR.grown {W w1 : World} {base n : Nat} {u v' : Value} {f : Nat → Nat} {o : Obj} {x : Int} (hown : OR W base u n f) (hsz : base ≤ W.heap.size)
    (hown' : w1.ownsRow base 3 1 v' (n + 1) (((List.range n).map fun k => Value.int .i64 (f k : Nat)) ++ [.int .i64 x])) (hg : (W.alloc o).grownBy w1 u.ownBlock) (hx : x = (f n : Nat)) :
    OR w1 base v' (n + 1) f ∧ base ≤ w1.heap.size ∧ Below base W w1 := by
  have hb : Below base W w1 := ((Below.refl base W).alloc hsz o).grown hg (by simp; omega) (fun j hj => (World.ownsRow.lt hown.out j hj).1)
  exact ⟨OR.step hown' hx, Nat.le_trans hsz hb.size, hb⟩
/-- The slice at block g holds n numbers. -/
def Nums (W : World) (g n : Nat) (f : Nat → Nat) : Prop := ∀ k, k < n → W.cell? ⟨g, k, none⟩ = some (.int .i64 (f k : Nat))
theorem OR.nums {W : World} {base : Nat} {v : Value} {n : Nat} {f : Nat → Nat} (h : OR W base v n f) (hn : 0 < n) :
    ∃ g cap, v = .slice (some ⟨g, 0, none⟩) n cap ∧ base ≤ g ∧ g < W.heap.size ∧ Nums W g n f := by
  obtain ⟨hl, ⟨_, h0⟩ | ⟨g, cap, cur, rfl, hg, hb, hnc, hcm, hsz, htake⟩⟩ := h
  · omega
  · refine ⟨g, cap, rfl, hg, (Array.getElem?_eq_some_iff.1 hb).1, fun k hk => ?_⟩
    have e : cur[k]? = (cur.toList.take (n * 1))[k]? := by
      rw [List.getElem?_take_of_lt (by omega)]
      simp
    simp only [World.cell?, hb]
    rw [show (if (none : Option Nat).isSome = true then (none : Option Value) else cur[k]?) = cur[k]? from rfl, e, htake]
    simp [hk]
theorem Nums.below {W W' : World} {m g n : Nat} {f : Nat → Nat} (h : Nums W g n f) (hb : Below m W W') (hg : g < m) : Nums W' g n f := fun k hk => (hb.cell (p := ⟨g, k, none⟩) hg).trans (h k hk)

/-- A slice of n numbers, and nothing that was there has turned. -/
def SlW (n : Nat) (f : Nat → Nat) (w : World) (e : Ending) (W' : World) : Prop :=
  ∃ g cap, e = .returned (.slice (some ⟨g, 0, none⟩) n cap) ∧ w.heap.size ≤ g ∧ g < W'.heap.size ∧ Nums W' g n f ∧ Below w.heap.size w W'

/-- x without its t lowest digits. -/
def sh (x : Nat) : Nat → Nat
  | 0 => x
  | t + 1 => sh x t / 65536
/-- The digit at place n. -/
def dg (a0 a1 a2 a3 n : Nat) : Nat := sh (word a0 a1 a2 a3 (n / 4)) (n % 4) % 65536
theorem dg_at {a0 a1 a2 a3 k t : Nat} (ht : t < 4) : dg a0 a1 a2 a3 (4 * k + t) = sh (word a0 a1 a2 a3 k) t % 65536 := by
  unfold dg
  rw [show (4 * k + t) / 4 = k by omega, show (4 * k + t) % 4 = t by omega]
theorem sh_lt {x : Nat} (h : x < M) (t : Nat) : sh x t < M := by
  induction t with
  | zero => exact h
  | succ t ih => show sh x t / 65536 < M; omega

/-- n numbers as cells. -/
def ds (f : Nat → Nat) (n : Nat) : List Value := (List.range n).map fun k => .int .i64 (f k : Nat)
theorem ds_at (f : Nat → Nat) {n k : Nat} (h : k < n) : (ds f n)[k]? = some (.int .i64 (f k : Nat)) := by
  unfold ds; rw [List.getElem?_map, List.getElem?_range h]; rfl
theorem ds_set (f : Nat → Nat) {n k : Nat} (v : Nat) : (ds f n).set k (.int .i64 (v : Nat)) = ds (upd f k v) n := by
  apply List.ext_getElem?
  intro j
  rw [List.getElem?_set]
  by_cases hj : k = j
  · subst hj
    by_cases hk : k < n
    · rw [if_pos rfl, if_pos (by simp [ds]; exact hk), ds_at _ hk]; simp [upd]
    · rw [if_pos rfl, if_neg (by simp [ds]; omega), eq_comm, List.getElem?_eq_none]; simp [ds]; omega
  · rw [if_neg hj]
    by_cases hk : j < n
    · rw [ds_at _ hk, ds_at _ hk]; simp [upd, Ne.symm hj]
    · rw [List.getElem?_eq_none (by simp [ds]; omega), List.getElem?_eq_none (by simp [ds]; omega)]
theorem Blk.numsOf {W : World} {B n : Nat} {f : Nat → Nat} (h : Blk W B 3 (ds f n)) : Nums W B n f := fun k hk => (h.cell k).trans (ds_at f hk)
end Go.Proofs.Ytigdenlnnnfjlaa

namespace Go.Proofs.Ytigdenlnnnfjlaa
open Go.RowKit

/-- What the digits below place i come to, in word j. -/
def wdg (f : Nat → Nat) (i j : Nat) : Nat :=
  (if 4 * j < i then f (4 * j) else 0) + (if 4 * j + 1 < i then f (4 * j + 1) * 65536 else 0) + (if 4 * j + 2 < i then f (4 * j + 2) * 4294967296 else 0) + (if 4 * j + 3 < i then f (4 * j + 3) * 281474976710656 else 0)
def p16 : Nat → Nat | 0 => 1 | 1 => 65536 | 2 => 4294967296 | _ => 281474976710656

theorem p16_0 : p16 0 = 1 := rfl
theorem p16_1 : p16 1 = 65536 := rfl
theorem p16_2 : p16 2 = 4294967296 := rfl
theorem p16_3 : p16 3 = 281474976710656 := rfl
theorem wdg_zero (f : Nat → Nat) : wdg f 0 = fun _ => 0 := by funext j; simp [wdg]
theorem wdg_high (f : Nat → Nat) {i : Nat} (hi : 16 ≤ i) : ws (wdg f (i + 1)) = ws (wdg f i) := by
  have e : ∀ j, j < 4 → wdg f (i + 1) j = wdg f i j := fun j hj => by
    unfold wdg
    rw [if_pos (by omega), if_pos (by omega), if_pos (by omega), if_pos (by omega), if_pos (by omega), if_pos (by omega), if_pos (by omega), if_pos (by omega)]
  unfold ws
  rw [e 0 (by omega), e 1 (by omega), e 2 (by omega), e 3 (by omega)]
theorem wdg_0 (f : Nat → Nat) (q : Nat) : wdg f (4 * q) q = 0 := by
  unfold wdg; rw [if_neg (by omega), if_neg (by omega), if_neg (by omega), if_neg (by omega)]
theorem wdg_1 (f : Nat → Nat) (q : Nat) : wdg f (4 * q + 1) q = f (4 * q) := by
  unfold wdg; rw [if_pos (by omega), if_neg (by omega), if_neg (by omega), if_neg (by omega)]; omega
theorem wdg_2 (f : Nat → Nat) (q : Nat) : wdg f (4 * q + 2) q = f (4 * q) + f (4 * q + 1) * 65536 := by
  unfold wdg; rw [if_pos (by omega), if_pos (by omega), if_neg (by omega), if_neg (by omega)]; omega
theorem wdg_3 (f : Nat → Nat) (q : Nat) : wdg f (4 * q + 3) q = f (4 * q) + f (4 * q + 1) * 65536 + f (4 * q + 2) * 4294967296 := by
  unfold wdg; rw [if_pos (by omega), if_pos (by omega), if_pos (by omega), if_neg (by omega)]; omega
theorem wdg_4 (f : Nat → Nat) {i q : Nat} (h : 4 * q + 4 ≤ i) : wdg f i q = f (4 * q) + f (4 * q + 1) * 65536 + f (4 * q + 2) * 4294967296 + f (4 * q + 3) * 281474976710656 := by
  unfold wdg; rw [if_pos (by omega), if_pos (by omega), if_pos (by omega), if_pos (by omega)]
theorem wdg_step (f : Nat → Nat) (i : Nat) : wdg f (i + 1) = upd (wdg f i) (i / 4) (wdg f i (i / 4) + f i * p16 (i % 4)) := by
  funext j
  obtain ⟨q, r, hr, rfl⟩ : ∃ q r, r < 4 ∧ i = 4 * q + r := ⟨i / 4, i % 4, by omega, by omega⟩
  have e1 : (4 * q + r) / 4 = q := by omega
  have e2 : (4 * q + r) % 4 = r := by omega
  rw [e1, e2]
  unfold upd
  by_cases hj : j = q
  · subst hj
    rw [if_pos rfl]
    have : r = 0 ∨ r = 1 ∨ r = 2 ∨ r = 3 := by omega
    rcases this with rfl | rfl | rfl | rfl
    · simp only [Nat.add_zero]; rw [wdg_1, wdg_0, p16_0, Nat.zero_add, Nat.mul_one]
    · rw [wdg_2 f j, wdg_1, p16_1]
    · rw [wdg_3 f j, wdg_2, p16_2]
    · rw [wdg_4 f (i := 4 * j + 3 + 1) (by omega), wdg_3, p16_3]
  · rw [if_neg hj]
    unfold wdg
    have k : ∀ t, t < 4 → (4 * j + t < 4 * q + r + 1 ↔ 4 * j + t < 4 * q + r) := fun t ht => by omega
    have k0 := k 0 (by omega)
    simp only [Nat.add_zero] at k0
    simp only [k0, k 1 (by omega), k 2 (by omega), k 3 (by omega)]
theorem wdg_lt {f : Nat → Nat} {i : Nat} (hf : ∀ k, k ≤ i → f k < 65536) : wdg f i (i / 4) + f i * p16 (i % 4) ≤ 18446744073709551615 := by
  obtain ⟨q, r, hr, rfl⟩ : ∃ q r, r < 4 ∧ i = 4 * q + r := ⟨i / 4, i % 4, by omega, by omega⟩
  have e1 : (4 * q + r) / 4 = q := by omega
  have e2 : (4 * q + r) % 4 = r := by omega
  rw [e1, e2]
  have : r = 0 ∨ r = 1 ∨ r = 2 ∨ r = 3 := by omega
  rcases this with rfl | rfl | rfl | rfl
  · have h0 := hf (4 * q) (by omega)
    simp only [Nat.add_zero]; rw [wdg_0, p16_0]; omega
  · have h0 := hf (4 * q) (by omega)
    have h1 := hf (4 * q + 1) (by omega)
    rw [wdg_1, p16_1]; omega
  · have h0 := hf (4 * q) (by omega)
    have h1 := hf (4 * q + 1) (by omega)
    have h2 := hf (4 * q + 2) (by omega)
    rw [wdg_2, p16_2]; omega
  · have h0 := hf (4 * q) (by omega)
    have h1 := hf (4 * q + 1) (by omega)
    have h2 := hf (4 * q + 2) (by omega)
    have h3 := hf (4 * q + 3) (by omega)
    rw [wdg_3, p16_3]; omega
theorem p16_step {r : Nat} (h : r < 3) : p16 (r + 1) = p16 r * 65536 := by
  have : r = 0 ∨ r = 1 ∨ r = 2 := by omega
  rcases this with rfl | rfl | rfl
  · rw [p16_1, p16_0]
  · rw [p16_2, p16_1]
  · rw [p16_3, p16_2]
theorem p16_le (r : Nat) : p16 r ≤ 281474976710656 := by unfold p16; split <;> omega
theorem p16_le2 {r : Nat} (h : r < 3) : p16 r ≤ 4294967296 := by
  have : r = 0 ∨ r = 1 ∨ r = 2 := by omega
  rcases this with rfl | rfl | rfl
  · rw [p16_0]; omega
  · rw [p16_1]; omega
  · rw [p16_2]; omega

end Go.Proofs.Ytigdenlnnnfjlaa

namespace Go.Proofs.Ytigdenlnnnfjlaa
open Go.RowKit

/-- What n digits come to. -/
def nv (f : Nat → Nat) : Nat → Nat
  | 0 => 0
  | n + 1 => nv f n + f n * 65536 ^ n

theorem nv_congr {f g : Nat → Nat} : ∀ {n : Nat}, (∀ k, k < n → f k = g k) → nv f n = nv g n
  | 0, _ => rfl
  | n + 1, h => by
    show nv f n + f n * 65536 ^ n = nv g n + g n * 65536 ^ n
    rw [nv_congr (fun k hk => h k (by omega)), h n (by omega)]
theorem nv_lt {f : Nat → Nat} : ∀ {n : Nat}, (∀ k, k < n → f k < 65536) → nv f n < 65536 ^ n
  | 0, _ => by simp [nv]
  | n + 1, h => by
    have h1 := nv_lt (n := n) (fun k hk => h k (by omega))
    have h2 := h n (by omega)
    have h3 : (f n + 1) * 65536 ^ n ≤ 65536 * 65536 ^ n := Nat.mul_le_mul_right _ (by omega)
    rw [Nat.add_mul] at h3
    show nv f n + f n * 65536 ^ n < 65536 ^ n * 65536
    omega

theorem pow16 : 65536 ^ 4 = M := by unfold M; decide
theorem pow_M4 : 65536 ^ 16 = M4 := by unfold M4 M; decide

theorem nv4 (f : Nat → Nat) (n : Nat) : nv f (n + 4) = nv f n + (f n + f (n + 1) * 65536 + f (n + 2) * 4294967296 + f (n + 3) * 281474976710656) * 65536 ^ n := by
  show nv f n + f n * 65536 ^ n + f (n + 1) * 65536 ^ (n + 1) + f (n + 2) * 65536 ^ (n + 2) + f (n + 3) * 65536 ^ (n + 3) = _
  rw [Nat.pow_add 65536 n 1, Nat.pow_add 65536 n 2, Nat.pow_add 65536 n 3]
  generalize 65536 ^ n = P
  have e1 : 65536 ^ 1 = 65536 := by decide
  have e2 : 65536 ^ 2 = 4294967296 := by decide
  have e3 : 65536 ^ 3 = 281474976710656 := by decide
  rw [e1, e2, e3, Nat.add_mul, Nat.add_mul, Nat.add_mul]
  rw [Nat.mul_comm P 65536, Nat.mul_comm P 4294967296, Nat.mul_comm P 281474976710656, ← Nat.mul_assoc, ← Nat.mul_assoc, ← Nat.mul_assoc]
  omega

theorem nv_val (f : Nat → Nat) {n : Nat} (hn : 16 ≤ n) : val (wdg f n 0) (wdg f n 1) (wdg f n 2) (wdg f n 3) = nv f 16 := by
  rw [wdg_4 f (q := 0) (by omega), wdg_4 f (q := 1) (by omega), wdg_4 f (q := 2) (by omega), wdg_4 f (q := 3) (by omega)]
  rw [show (16 : Nat) = 0 + 4 + 4 + 4 + 4 from rfl, nv4, nv4, nv4, nv4]
  have m0 : nv f 0 = 0 := rfl
  have p0 : 65536 ^ 0 = 1 := rfl
  have p4 : 65536 ^ (0 + 4) = M := pow16
  have p8 : 65536 ^ (0 + 4 + 4) = M * M := by rw [Nat.pow_add, p4]
  have p12 : 65536 ^ (0 + 4 + 4 + 4) = M * M * M := by rw [Nat.pow_add, p8, pow16]
  rw [m0, p0, p4, p8, p12]
  simp only [Nat.mul_zero, Nat.zero_add, Nat.mul_one, Nat.reduceMul, Nat.reduceAdd]
  generalize f 0 + f 1 * 65536 + f 2 * 4294967296 + f 3 * 281474976710656 = c0
  generalize f 4 + f 5 * 65536 + f 6 * 4294967296 + f 7 * 281474976710656 = c1
  generalize f 8 + f 9 * 65536 + f 10 * 4294967296 + f 11 * 281474976710656 = c2
  generalize f 12 + f 13 * 65536 + f 14 * 4294967296 + f 15 * 281474976710656 = c3
  unfold val
  rw [Nat.mul_add, Nat.mul_add, Nat.mul_add, Nat.mul_comm M c1, Nat.mul_comm c2 (M * M), Nat.mul_comm c3 (M * M * M)]
  simp only [Nat.mul_assoc, Nat.add_assoc]

theorem wdg_ok {f : Nat → Nat} {n : Nat} (hn : 16 ≤ n) (hf : ∀ k, k < 16 → f k < 65536) : Ok4 (wdg f n 0) (wdg f n 1) (wdg f n 2) (wdg f n 3) := by
  have h : ∀ j, j < 4 → wdg f n j < M := fun j hj => by
    have h0 := hf (4 * j) (by omega)
    have h1 := hf (4 * j + 1) (by omega)
    have h2 := hf (4 * j + 2) (by omega)
    have h3 := hf (4 * j + 3) (by omega)
    rw [wdg_4 f (by omega), M_eq]
    omega
  exact ⟨h 0 (by omega), h 1 (by omega), h 2 (by omega), h 3 (by omega)⟩

theorem word_digits {x : Nat} (h : x < M) : x = sh x 0 % 65536 + sh x 1 % 65536 * 65536 + sh x 2 % 65536 * 4294967296 + sh x 3 % 65536 * 281474976710656 := by
  have s0 : sh x 0 = x := rfl
  have s1 : sh x 1 = x / 65536 := rfl
  have s2 : sh x 2 = x / 65536 / 65536 := rfl
  have s3 : sh x 3 = x / 65536 / 65536 / 65536 := rfl
  rw [s0, s1, s2, s3]
  rw [M_eq] at h
  omega

theorem wdg_dg {a0 a1 a2 a3 : Nat} (ha : Ok4 a0 a1 a2 a3) {n : Nat} (hn : 16 ≤ n) (j : Nat) (hj : j < 4) : wdg (dg a0 a1 a2 a3) n j = word a0 a1 a2 a3 j := by
  rw [wdg_4 _ (by omega)]
  have e0 := dg_at (a0 := a0) (a1 := a1) (a2 := a2) (a3 := a3) (k := j) (t := 0) (by omega)
  rw [Nat.add_zero] at e0
  rw [e0, dg_at (t := 1) (by omega), dg_at (t := 2) (by omega), dg_at (t := 3) (by omega)]
  exact (word_digits (word_lt ha.h0 ha.h1 ha.h2 ha.h3 j)).symm

theorem nv_dg {a0 a1 a2 a3 : Nat} (ha : Ok4 a0 a1 a2 a3) : nv (dg a0 a1 a2 a3) 16 = val a0 a1 a2 a3 := by
  rw [← nv_val _ (Nat.le_refl 16), wdg_dg ha (by omega) 0 (by omega), wdg_dg ha (by omega) 1 (by omega), wdg_dg ha (by omega) 2 (by omega), wdg_dg ha (by omega) 3 (by omega)]
  rfl

theorem dg_lt (a0 a1 a2 a3 k : Nat) : dg a0 a1 a2 a3 k < 65536 := Nat.mod_lt _ (by omega)

/-! ### Adding -/
def cyA (x y : Nat → Nat) : Nat → Nat
  | 0 => 0
  | k + 1 => (cyA x y k + x k + y k) / 65536
def sdA (x y : Nat → Nat) (k : Nat) : Nat := if k = 16 then cyA x y 16 else (cyA x y k + x k + y k) % 65536
theorem cyA_le {x y : Nat → Nat} (hx : ∀ k, x k < 65536) (hy : ∀ k, y k < 65536) : ∀ k, cyA x y k ≤ 1
  | 0 => by simp [cyA]
  | k + 1 => by
    have := cyA_le hx hy k
    have := hx k
    have := hy k
    show (cyA x y k + x k + y k) / 65536 ≤ 1
    omega
theorem nv_add (x y : Nat → Nat) : ∀ n, nv (fun k => (cyA x y k + x k + y k) % 65536) n + cyA x y n * 65536 ^ n = nv x n + nv y n
  | 0 => by simp [nv, cyA]
  | n + 1 => by
    have ih := nv_add x y n
    show nv _ n + (cyA x y n + x n + y n) % 65536 * 65536 ^ n + (cyA x y n + x n + y n) / 65536 * 65536 ^ (n + 1) = nv x n + x n * 65536 ^ n + (nv y n + y n * 65536 ^ n)
    have e : (cyA x y n + x n + y n) % 65536 + 65536 * ((cyA x y n + x n + y n) / 65536) = cyA x y n + x n + y n := Nat.mod_add_div _ _
    generalize (cyA x y n + x n + y n) % 65536 = r at *
    generalize (cyA x y n + x n + y n) / 65536 = q at *
    have e2 : (r + 65536 * q) * 65536 ^ n = (cyA x y n + x n + y n) * 65536 ^ n := by rw [e]
    rw [Nat.add_mul, Nat.add_mul, Nat.add_mul] at e2
    rw [Nat.pow_succ]
    rw [show 65536 * q * 65536 ^ n = q * (65536 ^ n * 65536) by rw [Nat.mul_comm 65536 q, Nat.mul_assoc, Nat.mul_comm 65536 (65536 ^ n)]] at e2
    omega

theorem sum_digits {a0 a1 a2 a3 b0 b1 b2 b3 : Nat} (ha : Ok4 a0 a1 a2 a3) (hb : Ok4 b0 b1 b2 b3) :
    nv (sdA (dg a0 a1 a2 a3) (dg b0 b1 b2 b3)) 16 + cyA (dg a0 a1 a2 a3) (dg b0 b1 b2 b3) 16 * M4 = val a0 a1 a2 a3 + val b0 b1 b2 b3 := by
  rw [← nv_dg ha, ← nv_dg hb, ← pow_M4, ← nv_add]
  rw [nv_congr (f := sdA (dg a0 a1 a2 a3) (dg b0 b1 b2 b3)) (g := fun k => (cyA (dg a0 a1 a2 a3) (dg b0 b1 b2 b3) k + dg a0 a1 a2 a3 k + dg b0 b1 b2 b3 k) % 65536)]
  intro k hk
  unfold sdA
  rw [if_neg (by omega)]

/-! ### Which one is greater -/
def cmpN (a b : Nat) : Int := if a < b then -1 else if b < a then 1 else 0
theorem nv_less {x y : Nat → Nat} {j : Nat} (hx : ∀ k, x k < 65536) (h : x j < y j) : ∀ n, j < n → (∀ t, j < t → t < n → x t = y t) → nv x n < nv y n
  | 0, hj, _ => by omega
  | n + 1, hj, he => by
    show nv x n + x n * 65536 ^ n < nv y n + y n * 65536 ^ n
    by_cases e : n = j
    · subst e
      have h1 := nv_lt (f := x) (n := n) (fun k _ => hx k)
      have h2 : (x n + 1) * 65536 ^ n ≤ y n * 65536 ^ n := Nat.mul_le_mul_right _ h
      rw [Nat.add_mul] at h2
      omega
    · have ih := nv_less hx h n (by omega) (fun t h1 h2 => he t h1 (by omega))
      rw [he n (by omega) (by omega)]
      omega

/-! ### Taking away -/
def bwS (x y : Nat → Nat) : Nat → Nat
  | 0 => 0
  | k + 1 => if x k < y k + bwS x y k then 1 else 0
def sdS (x y : Nat → Nat) (k : Nat) : Nat := if x k < y k + bwS x y k then x k + 65536 - y k - bwS x y k else x k - y k - bwS x y k
theorem bwS_le (x y : Nat → Nat) : ∀ k, bwS x y k ≤ 1
  | 0 => by simp [bwS]
  | k + 1 => by
    show (if x k < y k + bwS x y k then 1 else 0) ≤ 1
    split <;> omega
theorem sdS_lt {x y : Nat → Nat} (hx : ∀ k, x k < 65536) (hy : ∀ k, y k < 65536) (k : Nat) : sdS x y k < 65536 := by
  have := hx k
  have := hy k
  unfold sdS
  split <;> omega
theorem nv_sub {x y : Nat → Nat} (hx : ∀ k, x k < 65536) (hy : ∀ k, y k < 65536) : ∀ n, nv (sdS x y) n + nv y n = nv x n + bwS x y n * 65536 ^ n
  | 0 => by simp [nv, bwS]
  | n + 1 => by
    have ih := nv_sub hx hy n
    have h1 := hx n
    have h2 := hy n
    have h3 := bwS_le x y n
    have e : sdS x y n + y n + bwS x y n = x n + 65536 * bwS x y (n + 1) := by
      show sdS x y n + y n + bwS x y n = x n + 65536 * (if x n < y n + bwS x y n then 1 else 0)
      unfold sdS
      split <;> omega
    show nv (sdS x y) n + sdS x y n * 65536 ^ n + (nv y n + y n * 65536 ^ n) = nv x n + x n * 65536 ^ n + bwS x y (n + 1) * 65536 ^ (n + 1)
    generalize bwS x y (n + 1) = q at *
    have e2 : (sdS x y n + y n + bwS x y n) * 65536 ^ n = (x n + 65536 * q) * 65536 ^ n := by rw [e]
    rw [Nat.add_mul, Nat.add_mul, Nat.add_mul] at e2
    rw [Nat.pow_succ]
    rw [show 65536 * q * 65536 ^ n = q * (65536 ^ n * 65536) by rw [Nat.mul_comm 65536 q, Nat.mul_assoc, Nat.mul_comm 65536 (65536 ^ n)]] at e2
    omega

end Go.Proofs.Ytigdenlnnnfjlaa

namespace Go.Proofs.Ytigdenlnnnfjlaa
open Go.RowKit Go.Shelf

structure Ak where
  us : Int
  se : Int
  re : Int
  to : Int
  a0 : Nat
  a1 : Nat
  a2 : Nat
  a3 : Nat
  id : ByteArray
/-- An ask as a value. -/
abbrev akv (a : Ak) : Value := .agg #[.int .i64 a.us, .int .i64 a.se, .int .i64 a.re, .int .i64 a.to, .int .u64 (a.a0 : Nat), .int .u64 (a.a1 : Nat), .int .u64 (a.a2 : Nat), .int .u64 (a.a3 : Nat), .string a.id]
/-- Its cells. -/
abbrev akc (a : Ak) : List Value := [.int .i64 a.us, .int .i64 a.se, .int .i64 a.re, .int .i64 a.to, .int .u64 (a.a0 : Nat), .int .u64 (a.a1 : Nat), .int .u64 (a.a2 : Nat), .int .u64 (a.a3 : Nat), .string a.id]
def noA : Ak := ⟨0, 0, 0, 0, 0, 0, 0, 0, ⟨#[]⟩⟩
/-- A number's words are all 0. -/
def zw (a0 a1 a2 a3 : Nat) : Prop := a0 = 0 ∧ a1 = 0 ∧ a2 = 0 ∧ a3 = 0
instance (a0 a1 a2 a3 : Nat) : Decidable (zw a0 a1 a2 a3) := by unfold zw; infer_instance
def maybeA (a : Ak) : Prop := (0 ≤ a.us ∧ a.us ≤ 1) ∧ (0 ≤ a.se ∧ a.se ≤ 1) ∧ (0 ≤ a.re ∧ a.re ≤ 1) ∧ (0 ≤ a.to ∧ a.to ≤ 7) ∧ ¬ zw a.a0 a.a1 a.a2 a.a3 ∧ 1 ≤ a.id.size ∧ a.id.size ≤ 16
instance (a : Ak) : Decidable (maybeA a) := by unfold maybeA; infer_instance
def errA (a : Ak) : Int := if maybeA a then 0 else 39
theorem errA_zero {a : Ak} (h : maybeA a) : errA a = 0 := if_pos h
theorem errA_bad {a : Ak} (h : ¬ maybeA a) : errA a = 39 := if_neg h

structure Bd where
  ro : Int
  k : Ak
  b0 : Nat
  b1 : Nat
  b2 : Nat
  b3 : Nat
  un : Int
  sg : ByteArray
abbrev bdv (b : Bd) : Value := .agg #[.int .i64 b.ro, .int .i64 b.k.us, .int .i64 b.k.se, .int .i64 b.k.re, .int .i64 b.k.to, .int .u64 (b.k.a0 : Nat), .int .u64 (b.k.a1 : Nat), .int .u64 (b.k.a2 : Nat), .int .u64 (b.k.a3 : Nat), .string b.k.id, .int .u64 (b.b0 : Nat), .int .u64 (b.b1 : Nat), .int .u64 (b.b2 : Nat), .int .u64 (b.b3 : Nat), .int .i64 b.un, .string b.sg]
abbrev bdc (b : Bd) : List Value := [.int .i64 b.ro, .int .i64 b.k.us, .int .i64 b.k.se, .int .i64 b.k.re, .int .i64 b.k.to, .int .u64 (b.k.a0 : Nat), .int .u64 (b.k.a1 : Nat), .int .u64 (b.k.a2 : Nat), .int .u64 (b.k.a3 : Nat), .string b.k.id, .int .u64 (b.b0 : Nat), .int .u64 (b.b1 : Nat), .int .u64 (b.b2 : Nat), .int .u64 (b.b3 : Nat), .int .i64 b.un, .string b.sg]
def noB : Bd := ⟨0, noA, 0, 0, 0, 0, 0, ⟨#[]⟩⟩
/-- Its words are words. -/
structure OkA (a : Ak) : Prop where
  k : Ok4 a.a0 a.a1 a.a2 a.a3
structure OkB (b : Bd) : Prop where
  k : Ok4 b.k.a0 b.k.a1 b.k.a2 b.k.a3
  b : Ok4 b.b0 b.b1 b.b2 b.b3
def maybeB (b : Bd) : Prop := (2 ≤ b.ro ∧ b.ro ≤ 3) ∧ maybeA b.k ∧ ¬ zw b.b0 b.b1 b.b2 b.b3 ∧ val b.b0 b.b1 b.b2 b.b3 ≤ val b.k.a0 b.k.a1 b.k.a2 b.k.a3 ∧ (0 ≤ b.un ∧ b.un ≤ 1099511627776) ∧ b.sg.size ≤ 1024
instance (b : Bd) : Decidable (maybeB b) := by unfold maybeB; infer_instance
def errB (b : Bd) : Int := if maybeB b then 0 else 39
theorem errB_zero {b : Bd} (h : maybeB b) : errB b = 0 := if_pos h
theorem errB_bad {b : Bd} (h : ¬ maybeB b) : errB b = 39 := if_neg h

/-- The text "bid". -/
def bidB : ByteArray := ⟨#[98, 105, 100]⟩
def putA4 (s : St) (a : Ak) : St := numS (numS (numS (numS s a.us) a.se) a.re) a.to
def putA (s : St) (a : Ak) : St := txtS (wideS (putA4 s a) a.a0 a.a1 a.a2 a.a3) a.id
def putB (s : St) (b : Bd) : St := numS (wideS (putA (numS (txtS s bidB) b.ro) b.k) b.b0 b.b1 b.b2 b.b3) b.un
theorem okS_putA4 {s : St} (h : OkS s) (a : Ak) : OkS (putA4 s a) := okS_num (okS_num (okS_num (okS_num h _) _) _) _
theorem okS_putA {s : St} (h : OkS s) (a : Ak) : OkS (putA s a) := okS_txt (okS_wide (okS_putA4 h a) _ _ _ _) _
theorem okS_putB {s : St} (h : OkS s) (b : Bd) : OkS (putB s b) := okS_num (okS_wide (okS_putA (okS_num (okS_txt h _) _) _) _ _ _ _) _
def textL (b : Bd) : List UInt8 := if maybeB b then (putB ([], 0) b).1 else []
theorem textL_yes {b : Bd} (h : maybeB b) : textL b = (putB ([], 0) b).1 := if_pos h
theorem textL_no {b : Bd} (h : ¬ maybeB b) : textL b = [] := if_neg h
theorem textL_len (b : Bd) : (textL b).length ≤ 8192 := by
  unfold textL; split
  · exact (okS_putB okS_new b).2
  · simp

/-- What is read of octets: an ask's things, and the state behind. -/
def ad0 (s : St) : Nat × St := mostS s 6 big
def ad1 (s : St) : Nat × St := mostS (ad0 s).2 6 big
def ad2 (s : St) : Nat × St := mostS (ad1 s).2 6 big
def ad3 (s : St) : Nat × St := mostS (ad2 s).2 6 big
def ad4 (s : St) : List UInt8 × St := takeS (ad3 s).2 32
def ad5 (s : St) : List UInt8 × St := gtxtS (ad4 s).2 16
def rawA (s : St) : Ak := ⟨(ad0 s).1, (ad1 s).1, (ad2 s).1, (ad3 s).1, wdS (ad4 s).1 0, wdS (ad4 s).1 1, wdS (ad4 s).1 2, wdS (ad4 s).1 3, str (ad5 s).1⟩
/-- The ask that is read, and the state behind it. -/
def getA (s : St) : Ak × St := if (ad5 s).2.2 = 0 ∧ maybeA (rawA s) then (rawA s, (ad5 s).2) else (noA, errS (ad5 s).2 16)
theorem okS_ad5 {s : St} (h : OkS s) : OkS (ad5 s).2 := okS_gtxt (okS_take (okS_most (okS_most (okS_most (okS_most h _ _) _ _) _ _) _ _) _) _
theorem okS_getA {s : St} (h : OkS s) : OkS (getA s).2 := by
  unfold getA; split
  · exact okS_ad5 h
  · exact okS_err (okS_ad5 h) _
theorem getA_yes {s : St} (h : (ad5 s).2.2 = 0) (g : maybeA (rawA s)) : getA s = (rawA s, (ad5 s).2) := if_pos ⟨h, g⟩
theorem getA_bad {s : St} (h : (ad5 s).2.2 ≠ 0) : getA s = (noA, (ad5 s).2) := by unfold getA; rw [if_neg (fun e => h e.1), errS_bad h]
theorem getA_no {s : St} (h : ¬ maybeA (rawA s)) : getA s = (noA, errS (ad5 s).2 16) := if_neg fun e => h e.2

/-- a offers more than b, or as much by a lower router. -/
def betB (a b : Bd) : Bool := decide (val b.b0 b.b1 b.b2 b.b3 < val a.b0 a.b1 a.b2 a.b3 ∨ (val a.b0 a.b1 a.b2 a.b3 = val b.b0 b.b1 b.b2 b.b3 ∧ a.ro < b.ro))
theorem betB_self (a : Bd) : betB a a = false := by unfold betB; simp
theorem betB_asym {a b : Bd} (h : betB a b = true) : betB b a = false := by
  unfold betB at *
  simp only [decide_eq_true_eq] at h
  simp only [decide_eq_false_iff_not]
  omega
theorem betB_trans {a b c : Bd} (h : betB a b = true) (g : betB b c = true) : betB a c = true := by
  unfold betB at *
  simp only [decide_eq_true_eq] at *
  omega
end Go.Proofs.Ytigdenlnnnfjlaa

namespace Go.Proofs.Ytigdenlnnnfjlaa
open Go.RowKit Go.Shelf

theorem run_append_b {P : Program} (w : World) (base : Nat) (t ty e : TypeId) (i : TypeInfo) (z : Value) (ht : P.underlying t = some (.slice e)) (hi : P.info? e = some i) (hz : i.zero = some z)
    (hsize : i.size = 1) (hby : i.bytes = 1) (hzs : z.cells.size = 1) (v : Value) (n : Nat) (xs : List Value) (hown : w.ownsRow base e 1 v n xs)
    {lo hi' : Nat} {sv : Value} {l : List UInt8} (hsv : BSl lo hi' w sv l) (h63 : n + l.length ≤ 140737488355328) (hbase : base ≤ w.heap.size) :
    ∃ v' w', (Builtin.append_ #[t, t] ty #[v, sv]).run P w = .ok v' w' ∧ w'.ownsRow base e 1 v' (n + l.length) (xs ++ l.map bv) ∧ w.grownBy w' v.ownBlock := by
  obtain ⟨a, cap, rfl, _, h0⟩ := hsv
  rcases a with _ | ad
  · have hl : l = [] := by
      rcases h0 with h0 | ⟨_, _, h, _⟩
      · exact h0
      · cases h
    subst hl
    refine ⟨v, w, ?_, by simpa using hown, World.grownBy.refl w _⟩
    rcases hown.2 with ⟨rfl, rfl⟩ | ⟨g, c, cur, rfl, _, _, hnc, _⟩
    · simp [Builtin.append_, run_underlying ht, sizeOf, typeInfo, hi, Builtin.lenOf, Builtin.firstCells]
    · simp [Builtin.append_, run_underlying ht, sizeOf, typeInfo, hi, Builtin.lenOf, Builtin.firstCells, hnc, storeCells]
  · obtain ⟨v', w', hr, h2, h3, _⟩ := run_append_own (P := P) w base t ty e i z 1 1 ht hi hz hsize hby hzs (by omega) v n xs hown ad l.length cap (l.map bv) (by simp)
      (fun j u hu => by
        rcases h0 with rfl | ⟨b, off, ha, _, _, ho⟩
        · simp at hu
        · cases ha
          rw [List.getElem?_map] at hu
          obtain ⟨x, hx, rfl⟩ := Option.map_eq_some_iff.1 hu
          have hp : (⟨b, off, none⟩ : Addr).add j = ⟨b, off + j, none⟩ := by cases j <;> simp [Addr.add]
          rw [hp]; exact ho j x hx)
      (by intro u hu; obtain ⟨x, _, rfl⟩ := List.mem_map.1 hu; rfl) (by unfold maxLen; omega) (by omega) hbase
    exact ⟨v', w', hr, h2, h3⟩

theorem wpList_append_b {P : Program} (w : World) {ops : Array Oper} {rest : List Oper} {o : Oper} {a : Act} {Q : Exit → Act → World → Prop}
    (hg : o.guard = none) (s x : Operand) (t : TypeId) (hop : o.op = Op.call { callee := Callee.builtin Builtin.append, args := #[s, x], argTypes := #[t, t] })
    (base : Nat) (e : TypeId) (i : TypeInfo) (z : Value) (ht : P.underlying t = some (.slice e)) (hi : P.info? e = some i) (hz : i.zero = some z)
    (hsize : i.size = 1) (hby : i.bytes = 1) (hzs : z.cells.size = 1) (v : Value) (n : Nat) (xs : List Value) (hs : a.eval s = v) (hown : w.ownsRow base e 1 v n xs)
    {lo hi' : Nat} (sv : Value) (l : List UInt8) (hx : a.eval x = sv) (hsv : BSl lo hi' w sv l) (h63 : n + l.length ≤ 140737488355328) (hbase : base ≤ w.heap.size)
    (hK : ∀ v' w', w'.ownsRow base e 1 v' (n + l.length) (xs ++ l.map bv) → w.grownBy w' v.ownBlock → wpList P ops Q rest (a.put o.dst v') w') :
    wpList P ops Q (o :: rest) a w := by
  refine wpList_plain hg fun K hK' => ?_
  obtain ⟨v', w', hrun, r1, r2⟩ := run_append_b (P := P) w base t o.type e i z ht hi hz hsize hby hzs v n xs hown hsv h63 hbase
  unfold Oper.wp
  simp [execOp, hop, resolve, invoke, builtin, hs, hx, hrun, Result.andThen]
  exact hK' _ _ (hK v' w' r1 r2)

theorem wpListIn_append_b {F : Fence} {m : Nat} {P : Program} (w : World) {ops : Array Oper} {rest : List Oper} {o : Oper} {a : Act} {Q : Exit → Act → World → Prop}
    (hg : o.guard = none) (s x : Operand) (t : TypeId) (hop : o.op = Op.call { callee := Callee.builtin Builtin.append, args := #[s, x], argTypes := #[t, t] })
    (base : Nat) (e : TypeId) (i : TypeInfo) (z : Value) (ht : P.underlying t = some (.slice e)) (hi : P.info? e = some i) (hz : i.zero = some z)
    (hsize : i.size = 1) (hby : i.bytes = 1) (hzs : z.cells.size = 1) (v : Value) (n : Nat) (xs : List Value) (hs : a.eval s = v) (hown : w.ownsRow base e 1 v n xs)
    {lo hi' : Nat} (sv : Value) (l : List UInt8) (hx : a.eval x = sv) (hsv : BSl lo hi' w sv l) (h63 : n + l.length ≤ 140737488355328) (hbase : base ≤ w.heap.size)
    (hK : ∀ v' w', w'.ownsRow base e 1 v' (n + l.length) (xs ++ l.map bv) → w.grownBy w' v.ownBlock → wpListIn F m P ops Q rest (a.put o.dst v') w') :
    wpListIn F m P ops Q (o :: rest) a w := by
  refine wpListIn_plain hg fun K hK' => ?_
  obtain ⟨v', w', hrun, r1, r2⟩ := run_append_b (P := P) w base t o.type e i z ht hi hz hsize hby hzs v n xs hown hsv h63 hbase
  unfold Oper.wpIn
  refine ⟨?_, ?_⟩
  · simp [Oper.about, hop, resolve, Target.leads, Sem.run_pure]
  · rw [Oper.semAt_plain F _ _ (by rw [hop]; intro c hc'; cases hc')]
    simp [execOp, hop, resolve, invoke, builtin, hs, hx, hrun, Result.andThen]
    exact hK' _ _ (hK v' w' r1 r2)

/-- A slice of these octets: a row of the call's own. -/
def ByO (l : List UInt8) (w : World) (e : Ending) (W' : World) : Prop := ∃ sv, e = .returned sv ∧ W'.ownsRow w.heap.size 5 1 sv l.length (l.map bv) ∧ Below w.heap.size w W'

end Go.Proofs.Ytigdenlnnnfjlaa

namespace Go.Proofs.Ytigdenlnnnfjlaa
open Go.RowKit Go.Shelf

set_option maxRecDepth 100000 in
set_option maxHeartbeats 1000000 in
theorem clone_any (l : List UInt8) (sv : Value) (w : World) {lo hi' : Nat} (hreach : l.length ≤ 140737488355328) (hsv : BSl lo hi' w sv l) (hhi : hi' ≤ w.heap.size) :
    Calls Try.prog 54 #[sv] w (ByO l w) := by
  obtain ⟨i0, hi, hz0, hz1, hz2⟩ := info_parts Try.infoByte
  have hsv0 := hsv
  obtain ⟨a, cap, rfl, hcap, h0⟩ := hsv
  rcases a with _ | ad
  · have hl : l = [] := by
      rcases h0 with h0 | ⟨_, _, h, _⟩
      · exact h0
      · cases h
    subst hl
    have hnil := fun w => Lib.run_eql_slice_nil (P := Try.prog) w 35 5 none 0 cap 0 0 Try.underlying35
    change Calls _ _ #[.slice none 0 cap] _ _
    go_enter Try.func54, Try.ntmps54
    go_wp2
    go_ret
    exact ⟨_, rfl, World.ownsRow_nil _ _ _ _, Below.refl _ _⟩
  · clear h0
    have hnil := fun w => Lib.run_eql_slice_nil (P := Try.prog) w 35 5 (some ad) l.length cap 0 0 Try.underlying35
    generalize hL : l.length = len at *
    have HL := Lib.hid hL
    clear hL
    go_enter Try.func54, Try.ntmps54
    go_wp2_with (at_builtin; refine wpList_append_b _ rfl _ _ 35 rfl w.heap.size 5 i0 (.int .u8 0) Try.underlying35 hi hz0 hz1 hz2 rfl _ 0 [] rfl (World.ownsRow_lit w #[] 0 (Nat.le_refl _) (by unfold maxLen; omega) rfl) _ l rfl (hsv0.below ((Below.refl hi' w).alloc hhi _) (Nat.le_refl _)) (by rw [HL.out]; omega) (by simp) ?_; intro v' w1 hown' hgrow)
    go_ret
    refine ⟨_, rfl, by simpa using hown', ((chain0 w _).grown hgrow (by simp) (fun k e => ?_))⟩
    have : w.heap.size = k := Option.some.inj e
    omega

end Go.Proofs.Ytigdenlnnnfjlaa

namespace Go.Proofs.Ytigdenlnnnfjlaa
open Go.RowKit Go.Shelf
attribute [local go_sem] Oper.semAt_some

set_option maxRecDepth 100000 in
set_option maxHeartbeats 4000000 in
theorem valuesB1_in (F : Fence) (n : Nat) (h7 : F.fn 100) (hro : F.round = none) (hn : 1 ≤ n) (l Bs n₀ b off cap : Nat) (zs : List UInt8) (hreach : zs.length ≤ 140737488351232) (hb : b < n₀) (J Jx : List UInt8 → World → Prop)
    (W : World)
    (hY : ∀ pre x W, J pre W → pre.length < zs.length → YieldAt F (n - 1) Try.prog l #[bv x] W fun e W' =>
      (e = .returned (.bool true) ∧ J (pre ++ [x]) W' ∧ Below n₀ W W') ∨ (e = .returned (.bool false) ∧ Jx (pre ++ [x]) W'))
    (hBs : W.cell? ⟨Bs, 0, none⟩ = some (.slice (some ⟨b, off, none⟩) zs.length cap)) (hc : Octs W b off zs) (h0 : J [] W) :
    CallsIn F n Try.prog 100 #[.func (.yield l) #[] #[], .pointer (some ⟨Bs, 0, none⟩)] W fun e W' => (∃ v, e = .returned v) ∧
      ((∃ ys, ys = zs ∧ J ys W') ∨ (∃ pre, True ∧ Jx pre W')) := by
  refine callsIn_of_wp Try.func100 rfl h7 ?_ hro
  simp only [Try.ntmps100, List.size_toArray, List.length_cons, List.length_nil, Nat.reduceAdd, Nat.reduceSub, Array.replicate_succ, Array.replicate_zero, List.push_toArray, List.append_toArray, List.nil_append, List.cons_append]
  gi_wp2
  gi_loopw [7] (fun i wr => ∃ k : Nat, k ≤ zs.length ∧ i = .int .i64 k ∧ J (zs.take k) wr ∧ Below n₀ W wr) (fun i _ => zs.length - (intOf i).toNat)
  case atStart => exact ⟨0, Nat.zero_le _, rfl, h0, Below.refl _ _⟩
  case round =>
    obtain ⟨k, hk, rfl, hJs, hnx⟩ := hrel
    by_cases hlt : k < zs.length
    · obtain ⟨x, hx⟩ : ∃ x, zs[k]? = some x := ⟨_, List.getElem?_eq_getElem hlt⟩
      have c0 := (hc.below hnx hb) k x hx
      have hk0 : (k : Int) < (zs.length : Int) := by omega
      obtain ⟨fn, tmps, assign, body, hy, hR⟩ := hY (zs.take k) x wr hJs (by simp; omega)
      have ht : zs.take (k + 1) = zs.take k ++ [x] := by rw [List.take_add_one, hx]; rfl
      rw [← ht] at hR
      clear ht
      have HX := Lib.hid hx
      clear hx
      generalize hL : zs.length = len at *
      have HL := Lib.hid hL
      clear hL
      gi_wp2
      refine hR.mono ?_
      rintro e W3 (⟨rfl, hJ3, hk3⟩ | ⟨rfl, hJx3⟩)
      · gi_wp2
        go_roundw
        case rel => exact ⟨k + 1, by omega, by simp, hJ3, hnx.trans hk3⟩
        case measure => simp [intOf]; omega
      · gi_wp2
        refine bodyPost_ret (results_none rfl _ _ _) rfl ?_
        exact ⟨⟨_, rfl⟩, .inr ⟨_, trivial, hJx3⟩⟩
    · obtain rfl : k = zs.length := by omega
      gi_wp2
      go_end0
      rw [List.take_length] at hJs
      exact ⟨⟨_, rfl⟩, .inl ⟨_, rfl, hJs⟩⟩

set_option maxRecDepth 100000 in
set_option maxHeartbeats 1000000 in
/-- .. at a slice of none: no round. -/
theorem valuesB1_nil_in (F : Fence) (n : Nat) (h7 : F.fn 100) (hro : F.round = none) (l Bs : Nat) (a : Option Addr) (cap : Nat) (J : List UInt8 → World → Prop) (W : World) (hBs : W.cell? ⟨Bs, 0, none⟩ = some (.slice a 0 cap)) (h0 : J [] W) :
    CallsIn F n Try.prog 100 #[.func (.yield l) #[] #[], .pointer (some ⟨Bs, 0, none⟩)] W fun e W' => (∃ v, e = .returned v) ∧ J [] W' := by
  refine callsIn_of_wp Try.func100 rfl h7 ?_ hro
  simp only [Try.ntmps100, List.size_toArray, List.length_cons, List.length_nil, Nat.reduceAdd, Nat.reduceSub, Array.replicate_succ, Array.replicate_zero, List.push_toArray, List.append_toArray, List.nil_append, List.cons_append]
  gi_wp2
  gi_loopw [7] (fun i wr => i = .int .i64 0 ∧ J [] wr) (fun _ _ => 0)
  case atStart => exact ⟨rfl, h0⟩
  case round =>
    obtain ⟨rfl, hJs⟩ := hrel
    gi_wp2
    go_end0
    exact ⟨⟨_, rfl⟩, hJs⟩

set_option maxHeartbeats 1000000 in
theorem valuesB_in (F : Fence) (n : Nat) (h5 : F.fn 98) (hro : F.round = none) (a : Option Addr) (len cap : Nat) (w : World) :
    CallsIn F n Try.prog 98 #[.slice a len cap] w fun e w' => e = .returned (.func (.func 100) #[] #[.pointer (some ⟨w.heap.size, 0, none⟩)]) ∧ w' = w.alloc (.cells #[.slice a len cap] 35) := by
  refine callsIn_of_wp Try.func98 rfl h5 ?_ hro
  simp only [Try.ntmps98, List.size_toArray, List.length_cons, List.length_nil, Nat.reduceAdd, Nat.reduceSub, Array.replicate_succ, Array.replicate_zero, List.push_toArray, List.append_toArray, List.nil_append, List.cons_append]
  gi_wp2
  go_ret
  exact ⟨rfl, rfl⟩

theorem valuesB_stops (F : Fence) (n : Nat) (h7 : F.fn 100) (hro : F.round = none) (hn : 1 ≤ n) (Bs n₀ : Nat) (sv : Value) (zs : List UInt8) (hreach : zs.length ≤ 140737488351232) (w : World) (hn₀ : n₀ ≤ w.heap.size)
    (hk : Boxed w Bs 35 sv) (hI : BSl 0 n₀ w sv zs) :
    SeqStopsK F n Try.prog 100 #[.pointer (some ⟨Bs, 0, none⟩)] (fun x => #[bv x]) (Below n₀) (fun ys => ys = zs) (fun _ => True) zs.length w := fun l J Jx W hW hJ _ hY h0 => by
  have hc' := (hW.cell (p := ⟨Bs, 0, none⟩) hk.lt).trans hk.cell
  obtain ⟨a, cap, rfl, hcap, rfl | ⟨b, off, rfl, _, hb, hcs⟩⟩ := hI.below hW hn₀
  · exact (valuesB1_nil_in F n h7 hro l Bs a cap J W hc' h0).mono fun e W' ⟨he, hj⟩ => ⟨he, .inl ⟨_, rfl, hj⟩⟩
  · exact valuesB1_in F n h7 hro hn l Bs n₀ b off cap zs hreach hb J Jx W hY hc' hcs h0

end Go.Proofs.Ytigdenlnnnfjlaa

namespace Go.Proofs.Ytigdenlnnnfjlaa
open Go.RowKit Go.Shelf
attribute [local go_sem] Oper.semAt_some

/-- Between two rounds. -/
def IntI (N : Nat) (w : World) (pre : List UInt8) (W : World) : Prop := Boxed W N 3 (.int .i64 (be pre : Nat)) ∧ Below N w W
theorem intI_own {N : Nat} {w : World} {B : Nat} (h : N ≤ w.heap.size) (hB : N ≤ B) : OwnFrom B (IntI N w) :=
  OwnFrom.and (Own.from (fun s X Y row hs hg hr => blk_own N 3 (fun s : List UInt8 => [.int .i64 (be s : Nat)]) s X Y row hs hg hr) _) (ownFrom_below h hB)
/-- A slice's first octets. -/
theorem BSl.take {lo hi : Nat} {W : World} {a : Option Addr} {cap : Nat} {l : List UInt8} (h : BSl lo hi W (.slice a l.length cap) l) (k : Nat) (hk : k ≤ l.length) : BSl lo hi W (.slice a k cap) (l.take k) := by
  obtain ⟨a', cap', e, hc, h0⟩ := h
  cases e
  refine ⟨a, cap, by rw [List.length_take, Nat.min_eq_left hk], by simp; omega, ?_⟩
  rcases h0 with rfl | ⟨b, off, ha, h1, h2, ho⟩
  · exact .inl (by simp)
  · exact .inr ⟨b, off, ha, h1, h2, fun j x hj => ho j x (by
      have hjk : j < k := by have := (List.getElem?_eq_some_iff.1 hj).1; simp at this; omega
      rwa [List.getElem?_take_of_lt hjk] at hj)⟩

set_option maxRecDepth 100000 in
set_option maxHeartbeats 4000000 in
theorem blobInt_in (m : Nat) (hm : 2 ≤ m) (l : List UInt8) (sv : Value) (w : World) (hreach : l.length ≤ 140737488351232) (hsv : BSl 0 w.heap.size w sv l) :
    CallsIn Fence.wide m Try.prog 94 #[sv] w fun e W' => e = .returned (.int .i64 (be (l.take 7) : Nat)) ∧ Below w.heap.size w W' := by
  have h1 : 1 ≤ m := by omega
  have hsv0 := hsv
  obtain ⟨a, cap, rfl, hcap, hcs⟩ := hsv
  clear hcs
  refine callsIn_of_wp_marks Try.func94 rfl trivial ?_ rfl
  simp only [Try.ntmps94, List.size_toArray, List.length_cons, List.length_nil, Nat.reduceAdd, Nat.reduceSub, Array.replicate_succ, Array.replicate_zero, List.push_toArray, List.append_toArray, List.nil_append, List.cons_append]
  have hN : (l.take 7).length ≤ 7 := by rw [List.length_take]; omega
  have hcase : (((l.length : Nat) : Int) ≤ 7 ∧ BSl 0 w.heap.size w (.slice a l.length cap) (l.take 7)) ∨ (¬ ((l.length : Nat) : Int) ≤ 7 ∧ BSl 0 w.heap.size w (.slice a 7 cap) (l.take 7)) := by
    by_cases h : l.length ≤ 7
    · exact .inl ⟨by omega, by rw [List.take_of_length_le h]; exact hsv0⟩
    · exact .inr ⟨by omega, hsv0.take 7 (by omega)⟩
  clear hsv0
  generalize l.take 7 = z at *
  rcases hcase with ⟨h7, hT⟩ | ⟨h7, hT⟩
  all_goals
    gi_wp2_with (refine ⟨trivial, ?_⟩; gi_at_call 98; refine (valuesB_in Fence.wide (m - 1) trivial rfl _ _ _ _).mono ?_; rintro e w' ⟨rfl, rfl⟩)
    generalize hW5 : World.alloc _ _ = W5
    have k0 : Boxed W5 w.heap.size 3 (.int .i64 (be [] : Nat)) := by rw [← hW5]; exact (Boxed.new _ _ (.int .i64 (be [] : Nat))).alloc _
    have k2 := show Boxed W5 (w.heap.size + 1) 35 (.slice a _ cap) by rw [← hW5]; exact Blk.new' (vs := [_]) (by simp)
    have hB0 : Below w.heap.size w W5 := by rw [← hW5]; exact chainA (chain0 _ _) _
    have hz : W5.heap.size = w.heap.size + 2 := by rw [← hW5]; simp
    clear hW5
    refine wpIn_rangeFunc_ownF (S := fun ys => ys = z) rfl h1 (gf := 100) (lb := #[.pointer (some ⟨w.heap.size + 1, 0, none⟩)]) rfl trivial (enters_of Try.func100 (by kernel_rfl) rfl)
      (valuesB_stops Fence.wide (m - 1) trivial rfl (by omega) (w.heap.size + 1) w.heap.size _ z (by omega) W5 (by omega) k2 (hT.below hB0 (Nat.le_refl _))) belowK_t (belowK_b (by omega)) (Below.refl _ _) (fun _ => rfl)
      (IntI w.heap.size w) (fun _ _ _ => False) (intI_own (Nat.le_refl _) (by omega)) (fun _ _ _ _ _ hs _ _ => hs)
      ⟨k0, hB0⟩ ?_ ?_ ?_ ?_ ?_
    rotate_left
    · intro l x W K hK
      gi_wp2
      exact hK
    · rintro r pre x W ⟨k0, hB⟩ hlt
      have co := k0.cell
      have cf := k0.frozen
      have hsn := be_snoc pre x
      have HS := Lib.hid hsn
      have hl1 : be pre ≤ 281474976710655 := by have := be_lt' (l := pre) (k := 6) (by omega); omega
      have hor := or_byte64 (a := be pre) (x := x.toNat) (by omega) x.toNat_lt
      have HO := Lib.hid hor
      clear hor hsn
      generalize be pre = y at *
      have hy : (y : Int) ≤ 281474976710655 := by omega
      have hxl := x.toNat_lt
      have hxl' : (x.toNat : Int) ≤ 255 := by omega
      gi_wp2
      rw [HO.out, ← HS.out]
      have hbw := (Below.refl w.heap.size W).setCell (p := ⟨w.heap.size, 0, none⟩) (Nat.le_refl _) (.int .i64 (be (pre ++ [x]) : Nat))
      exact ⟨KeepsOthers.setCell _ _ _, hbw, k0.set _, hB.trans hbw⟩
    · rintro D ys W hD rfl ⟨k0, hB⟩ hK
      have co := k0.cell
      have HZ := Lib.hid hz
      clear hz
      gi_wp2
      have hB' := hB.trans (belowK_b (w := w) (Nat.le_refl _) _ D _ (.deferred none) (by have := HZ.out; omega) hK rfl rfl)
      refine ⟨by simp, .inl ⟨_, _, rfl, run_takeDeferred hK, ?_⟩⟩
      refine ⟨.int .i64 (be ys : Nat), ?_, ?_⟩
      · simp [results, Try.f94, go_sem]
      · exact ⟨rfl, hB'⟩
    · rintro D c pre W _ _ h _
      exact h.elim

theorem blobInt_any (l : List UInt8) (sv : Value) (w : World) (hreach : l.length ≤ 140737488351232) (hsv : BSl 0 w.heap.size w sv l) :
    Calls Try.prog 94 #[sv] w fun e W' => e = .returned (.int .i64 (be (l.take 7) : Nat)) ∧ Below w.heap.size w W' := callsIn_wide.1 (blobInt_in 2 (by omega) l sv w hreach hsv)

end Go.Proofs.Ytigdenlnnnfjlaa

namespace Go.Proofs.Ytigdenlnnnfjlaa
open Go.RowKit Go.Shelf
attribute [local go_sem] Oper.semAt_some

/-- The elements els stand for the octets zs with their places. -/
def Places {α : Type} (encs : α → Array Value) (els : List α) (zs : List UInt8) : Prop := els.length = zs.length ∧ ∀ (k : Nat) (e : α), els[k]? = some e → ∃ x, zs[k]? = some x ∧ encs e = #[.int .i64 (k : Int), bv x]

set_option maxRecDepth 100000 in
set_option maxHeartbeats 4000000 in
theorem all1_in {α : Type} (encs : α → Array Value) (els : List α) (F : Fence) (n : Nat) (h7 : F.fn 99) (hro : F.round = none) (hn : 1 ≤ n) (l Bs n₀ b off cap : Nat) (zs : List UInt8) (hreach : zs.length ≤ 140737488351232) (hb : b < n₀) (hels : Places encs els zs) (J Jx : List α → World → Prop)
    (W : World)
    (hY : ∀ pre x W, J pre W → pre.length < zs.length → YieldAt F (n - 1) Try.prog l (encs x) W fun e W' =>
      (e = .returned (.bool true) ∧ J (pre ++ [x]) W' ∧ Below n₀ W W') ∨ (e = .returned (.bool false) ∧ Jx (pre ++ [x]) W'))
    (hBs : W.cell? ⟨Bs, 0, none⟩ = some (.slice (some ⟨b, off, none⟩) zs.length cap)) (hc : Octs W b off zs) (h0 : J [] W) :
    CallsIn F n Try.prog 99 #[.func (.yield l) #[] #[], .pointer (some ⟨Bs, 0, none⟩)] W fun e W' => (∃ v, e = .returned v) ∧
      ((∃ ys, ys = els ∧ J ys W') ∨ (∃ pre, True ∧ Jx pre W')) := by
  refine callsIn_of_wp Try.func99 rfl h7 ?_ hro
  simp only [Try.ntmps99, List.size_toArray, List.length_cons, List.length_nil, Nat.reduceAdd, Nat.reduceSub, Array.replicate_succ, Array.replicate_zero, List.push_toArray, List.append_toArray, List.nil_append, List.cons_append]
  gi_wp2
  gi_loopw [7] (fun i wr => ∃ k : Nat, k ≤ zs.length ∧ i = .int .i64 k ∧ J (els.take k) wr ∧ Below n₀ W wr) (fun i _ => zs.length - (intOf i).toNat)
  case atStart => exact ⟨0, Nat.zero_le _, rfl, h0, Below.refl _ _⟩
  case round =>
    obtain ⟨k, hk, rfl, hJs, hnx⟩ := hrel
    by_cases hlt : k < zs.length
    · obtain ⟨e, he⟩ : ∃ e, els[k]? = some e := ⟨_, List.getElem?_eq_getElem (by rw [hels.1]; exact hlt)⟩
      obtain ⟨x, hx, hen⟩ := hels.2 k e he
      have c0 := (hc.below hnx hb) k x hx
      have hk0 : (k : Int) < (zs.length : Int) := by omega
      obtain ⟨fn, tmps, assign, body, hy, hR⟩ := hY (els.take k) e wr hJs (by simp; omega)
      have ht : els.take (k + 1) = els.take k ++ [e] := by rw [List.take_add_one, he]; rfl
      rw [← ht] at hR
      rw [hen] at hy
      clear ht he hen
      have HX := Lib.hid hx
      clear hx
      have HE := Lib.hid hels
      clear hels
      generalize hL : zs.length = len at *
      have HL := Lib.hid hL
      clear hL
      gi_wp2
      refine hR.mono ?_
      rintro e W3 (⟨rfl, hJ3, hk3⟩ | ⟨rfl, hJx3⟩)
      · gi_wp2
        go_roundw
        case rel => exact ⟨k + 1, by omega, by simp, hJ3, hnx.trans hk3⟩
        case measure => simp [intOf]; omega
      · gi_wp2
        refine bodyPost_ret (results_none rfl _ _ _) rfl ?_
        exact ⟨⟨_, rfl⟩, .inr ⟨_, trivial, hJx3⟩⟩
    · obtain rfl : k = zs.length := by omega
      gi_wp2
      go_end0
      rw [List.take_of_length_le (by rw [hels.1]; exact Nat.le_refl _)] at hJs
      exact ⟨⟨_, rfl⟩, .inl ⟨_, rfl, hJs⟩⟩

set_option maxRecDepth 100000 in
set_option maxHeartbeats 1000000 in
/-- .. at a slice of none: no round. -/
theorem all1_nil_in {α : Type} (F : Fence) (n : Nat) (h7 : F.fn 99) (hro : F.round = none) (l Bs : Nat) (a : Option Addr) (cap : Nat) (J : List α → World → Prop) (W : World) (hBs : W.cell? ⟨Bs, 0, none⟩ = some (.slice a 0 cap)) (h0 : J [] W) :
    CallsIn F n Try.prog 99 #[.func (.yield l) #[] #[], .pointer (some ⟨Bs, 0, none⟩)] W fun e W' => (∃ v, e = .returned v) ∧ J [] W' := by
  refine callsIn_of_wp Try.func99 rfl h7 ?_ hro
  simp only [Try.ntmps99, List.size_toArray, List.length_cons, List.length_nil, Nat.reduceAdd, Nat.reduceSub, Array.replicate_succ, Array.replicate_zero, List.push_toArray, List.append_toArray, List.nil_append, List.cons_append]
  gi_wp2
  gi_loopw [7] (fun i wr => i = .int .i64 0 ∧ J [] wr) (fun _ _ => 0)
  case atStart => exact ⟨rfl, h0⟩
  case round =>
    obtain ⟨rfl, hJs⟩ := hrel
    gi_wp2
    go_end0
    exact ⟨⟨_, rfl⟩, hJs⟩

set_option maxHeartbeats 1000000 in
theorem all_in (F : Fence) (n : Nat) (h5 : F.fn 95) (hro : F.round = none) (a : Option Addr) (len cap : Nat) (w : World) :
    CallsIn F n Try.prog 95 #[.slice a len cap] w fun e w' => e = .returned (.func (.func 99) #[] #[.pointer (some ⟨w.heap.size, 0, none⟩)]) ∧ w' = w.alloc (.cells #[.slice a len cap] 35) := by
  refine callsIn_of_wp Try.func95 rfl h5 ?_ hro
  simp only [Try.ntmps95, List.size_toArray, List.length_cons, List.length_nil, Nat.reduceAdd, Nat.reduceSub, Array.replicate_succ, Array.replicate_zero, List.push_toArray, List.append_toArray, List.nil_append, List.cons_append]
  gi_wp2
  go_ret
  exact ⟨rfl, rfl⟩

theorem all_stops {α : Type} (encs : α → Array Value) (els : List α) (F : Fence) (n : Nat) (h7 : F.fn 99) (hro : F.round = none) (hn : 1 ≤ n) (Bs n₀ : Nat) (sv : Value) (zs : List UInt8) (hreach : zs.length ≤ 140737488351232) (w : World) (hn₀ : n₀ ≤ w.heap.size)
    (hk : Boxed w Bs 35 sv) (hI : BSl 0 n₀ w sv zs) (hels : Places encs els zs) :
    SeqStopsK F n Try.prog 99 #[.pointer (some ⟨Bs, 0, none⟩)] encs (Below n₀) (fun ys => ys = els) (fun _ => True) zs.length w := fun l J Jx W hW hJ _ hY h0 => by
  have hc' := (hW.cell (p := ⟨Bs, 0, none⟩) hk.lt).trans hk.cell
  obtain ⟨a, cap, rfl, hcap, rfl | ⟨b, off, rfl, _, hb, hcs⟩⟩ := hI.below hW hn₀
  · exact (all1_nil_in F n h7 hro l Bs a cap J W hc' h0).mono fun e W' ⟨he, hj⟩ => ⟨he, .inl ⟨_, (List.eq_nil_of_length_eq_zero hels.1).symm, hj⟩⟩
  · exact all1_in encs els F n h7 hro hn l Bs n₀ b off cap zs hreach hb hels J Jx W hY hc' hcs h0

end Go.Proofs.Ytigdenlnnnfjlaa

namespace Go.Proofs.Ytigdenlnnnfjlaa
open Go.RowKit Go.Shelf
attribute [local go_sem] Oper.semAt_some

/-- The number of 32 octets and true; else zero and false. -/
def UnW (l : List UInt8) (w : World) (e : Ending) (W' : World) : Prop :=
  (l.length = 32 ∧ e = .returned (.tuple #[wv (uwd l 32 0) (uwd l 32 1) (uwd l 32 2) (uwd l 32 3), .bool true]) ∧ Below w.heap.size w W') ∨
  (l.length ≠ 32 ∧ NoW w e W')
/-- Between two rounds. -/
def UnI (N : Nat) (w : World) (pre : List PX) (W : World) : Prop :=
  (Blk W N 24 (ws fun _ => 0) ∧ Blk W (N + 1) 24 (ws (unF pre))) ∧ Below N w W
theorem unI_own {N : Nat} {w : World} {B : Nat} (h : N ≤ w.heap.size) (hB : N ≤ B) : OwnFrom B (UnI N w) :=
  OwnFrom.and (Own.from (fun s X Y row hs hg hr => ⟨blk_own N 24 (fun (_ : Unit) => ws fun _ => 0) () X Y row hs.1 hg hr, blk_own (N + 1) 24 (fun s : List PX => ws (unF s)) s X Y row hs.2 hg hr⟩) _) (ownFrom_below h hB)
theorem pxs_places {l : List UInt8} (h : l.length = 32) : Places pxEnc (pxs l h) l := ⟨by rw [pxs_length, h], fun k e he => by
  obtain ⟨h2, hx⟩ := pxs_at h he
  exact ⟨_, hx, by unfold pxEnc; rw [h2]⟩⟩

set_option maxRecDepth 100000 in
set_option maxHeartbeats 4000000 in
theorem unwide_no (m : Nat) (l : List UInt8) (sv : Value) (w : World) (hl : l.length ≠ 32) (hsv : BSl 0 w.heap.size w sv l) :
    CallsIn Fence.wide m Try.prog 84 #[sv] w (NoW w) := by
  obtain ⟨a, cap, rfl, hcap, hcs⟩ := hsv
  clear hcs
  refine callsIn_of_wp_marks Try.func84 rfl trivial ?_ rfl
  simp only [Try.ntmps84, List.size_toArray, List.length_cons, List.length_nil, Nat.reduceAdd, Nat.reduceSub, Array.replicate_succ, Array.replicate_zero, List.push_toArray, List.append_toArray, List.nil_append, List.cons_append]
  have hb : (((l.length : Nat) : Int) == 32) = false := by simp; omega
  have hne : ((l.length : Nat) : Int) ≠ 32 := by omega
  have hb2 : (((l.length : Nat) : Int) != 32) = true := by simp; omega
  gi_wp2
  refine ⟨.tuple #[wv 0 0 0 0, .bool false], ?_, ?_⟩
  · simp [results, Try.f84, go_sem]
  · exact ⟨rfl, chainA (chain0 _ _) _⟩

set_option maxRecDepth 100000 in
set_option maxHeartbeats 4000000 in
theorem unwide_yes (m : Nat) (hm : 2 ≤ m) (l : List UInt8) (sv : Value) (w : World) (hl : l.length = 32) (hsv : BSl 0 w.heap.size w sv l) :
    CallsIn Fence.wide m Try.prog 84 #[sv] w fun e W' => e = .returned (.tuple #[wv (uwd l 32 0) (uwd l 32 1) (uwd l 32 2) (uwd l 32 3), .bool true]) ∧ Below w.heap.size w W' := by
  have h1 : 1 ≤ m := by omega
  have hsv0 := hsv
  obtain ⟨a, cap, rfl, hcap, hcs⟩ := hsv
  clear hcs
  have HL := Lib.hid hl
  rw [hl] at hsv0 hcap ⊢
  clear hl
  refine callsIn_of_wp_marks Try.func84 rfl trivial ?_ rfl
  simp only [Try.ntmps84, List.size_toArray, List.length_cons, List.length_nil, Nat.reduceAdd, Nat.reduceSub, Array.replicate_succ, Array.replicate_zero, List.push_toArray, List.append_toArray, List.nil_append, List.cons_append]
  gi_wp2_with (refine ⟨trivial, ?_⟩; gi_at_call 95; refine (all_in Fence.wide (m - 1) trivial rfl _ _ _ _).mono ?_; rintro e w' ⟨rfl, rfl⟩)
  generalize hW5 : World.alloc _ _ = W5
  have k0 : Blk W5 w.heap.size 24 (ws fun _ => 0) := by rw [← hW5]; exact ((Blk.new' rfl).alloc _).alloc _
  have k1 : Blk W5 (w.heap.size + 1) 24 (ws (unF [])) := by rw [← hW5]; exact (Blk.new' (by simp)).alloc _
  have k2 : Boxed W5 (w.heap.size + 1 + 1) 35 (.slice a 32 cap) := by rw [← hW5]; exact Blk.new' (vs := [_]) (by simp)
  have hB0 : Below w.heap.size w W5 := by rw [← hW5]; exact chainA (chainA (chain0 _ _) _) _
  have hz : W5.heap.size = w.heap.size + 3 := by rw [← hW5]; simp
  clear hW5
  refine wpIn_rangeFunc_ownF (S := fun ys => ys = pxs l HL.out) rfl h1 (gf := 99) (lb := #[.pointer (some ⟨w.heap.size + 1 + 1, 0, none⟩)]) rfl trivial (enters_of Try.func99 (by kernel_rfl) rfl)
    (all_stops pxEnc (pxs l HL.out) Fence.wide (m - 1) trivial rfl (by omega) (w.heap.size + 1 + 1) w.heap.size (.slice a 32 cap) l (by rw [HL.out]; omega) W5 (by omega) k2 (hsv0.below hB0 (Nat.le_refl _)) (pxs_places HL.out)) belowK_t (belowK_b (by omega)) (Below.refl _ _) (fun _ => rfl)
    (UnI w.heap.size w) (fun _ _ _ => False) (unI_own (Nat.le_refl _) (by omega)) (fun _ _ _ _ _ hs _ _ => hs)
    ⟨⟨k0, k1⟩, hB0⟩ ?_ ?_ ?_ ?_ ?_
  rotate_left
  · intro l x W K hK
    gi_wp2
    exact hK
  · rintro r pre ⟨⟨x, i⟩, hi⟩ W ⟨⟨k0, k1⟩, hB⟩ hlt
    have hi' : (i : Int) ≤ 31 := by omega
    have hq : 3 - i / 8 < 4 := by omega
    have e3 : (3 : Int) - (i : Int) / 8 = ((3 - i / 8 : Nat) : Int) := by omega
    have cs := k1.cell (3 - i / 8)
    rw [ws_at _ hq] at cs
    have cf := k1.frozen (3 - i / 8)
    have hsn := unF_snoc pre ⟨(x, i), hi⟩
    unfold unS at hsn
    have hor := or_wrap (a := unF pre (3 - i / 8)) (x := x.toNat) x.toNat_lt
    have hl1 := unF_lt pre (3 - i / 8)
    dsimp only at hsn
    have HS := Lib.hid hsn
    clear hsn
    have HO := Lib.hid hor
    clear hor
    generalize unF pre (3 - i / 8) = y at *
    generalize 3 - i / 8 = q at *
    have HE := Lib.hid e3
    gi_wp2
    rw [wr_u64 (x.toNat : Int) (by omega) (by have := x.toNat_lt; omega), HO.out]
    have kk := k1.set q (.int .u64 ((y * 256 % M ||| x.toNat : Nat) : Int))
    rw [ws_set _ hq, ← HS.out] at kk
    have hbw := (Below.refl w.heap.size W).setCell (p := ⟨w.heap.size + 1, q, none⟩) (by simp) (.int .u64 ((y * 256 % M ||| x.toNat : Nat) : Int))
    exact ⟨KeepsOthers.setCell _ _ _, hbw, ⟨k0.other q _ (by omega), kk⟩, hB.trans hbw⟩
  · rintro D ys W hD rfl ⟨⟨k0, k1⟩, hB⟩ hK
    rw [unF_all HL.out] at k1
    have c10 : W.cell? ⟨w.heap.size + 1, 0, none⟩ = some (.int .u64 (uwd l 32 0 : Nat)) := k1.cell 0
    have c11 : W.cell? ⟨w.heap.size + 1, 1, none⟩ = some (.int .u64 (uwd l 32 1 : Nat)) := k1.cell 1
    have c12 : W.cell? ⟨w.heap.size + 1, 2, none⟩ = some (.int .u64 (uwd l 32 2 : Nat)) := k1.cell 2
    have c13 : W.cell? ⟨w.heap.size + 1, 3, none⟩ = some (.int .u64 (uwd l 32 3 : Nat)) := k1.cell 3
    have c00 : W.cell? ⟨w.heap.size, 0, none⟩ = some (.int .u64 ((0 : Nat) : Int)) := k0.cell 0
    have c01 : W.cell? ⟨w.heap.size, 1, none⟩ = some (.int .u64 ((0 : Nat) : Int)) := k0.cell 1
    have c02 : W.cell? ⟨w.heap.size, 2, none⟩ = some (.int .u64 ((0 : Nat) : Int)) := k0.cell 2
    have c03 : W.cell? ⟨w.heap.size, 3, none⟩ = some (.int .u64 ((0 : Nat) : Int)) := k0.cell 3
    have f0 := k0.frozen 0
    have f1 := k0.frozen 1
    have f2 := k0.frozen 2
    have f3 := k0.frozen 3
    have HZ := Lib.hid hz
    clear hz
    generalize hs0 : uwd l 32 0 = s0 at *
    have H0 := Lib.hid hs0
    clear hs0
    generalize hs1 : uwd l 32 1 = s1 at *
    have H1 := Lib.hid hs1
    clear hs1
    generalize hs2 : uwd l 32 2 = s2 at *
    have H2 := Lib.hid hs2
    clear hs2
    generalize hs3 : uwd l 32 3 = s3 at *
    have H3 := Lib.hid hs3
    clear hs3
    gi_wp2
    have hD' : w.heap.size < D := by have := HZ.out; omega
    have KO : KeepsOthers W ((((W.setCell ⟨w.heap.size, 0, none⟩ (.int .u64 (s0 : Nat))).setCell ⟨w.heap.size, 1, none⟩ (.int .u64 (s1 : Nat))).setCell ⟨w.heap.size, 2, none⟩ (.int .u64 (s2 : Nat))).setCell ⟨w.heap.size, 3, none⟩ (.int .u64 (s3 : Nat))) :=
      (((KeepsOthers.setCell _ _ _).trans (KeepsOthers.setCell _ _ _)).trans (KeepsOthers.setCell _ _ _)).trans (KeepsOthers.setCell _ _ _)
    have hK' := KO.same D _ hK rfl
    have k2' := ((((k0.set 0 (.int .u64 (s0 : Nat))).set 1 (.int .u64 (s1 : Nat))).set 2 (.int .u64 (s2 : Nat))).set 3 (.int .u64 (s3 : Nat))).kept (grownBy_putObj' _ D (.deferred none)) (by intro e; cases e; omega)
    have r0 := k2'.cell 0
    have r1 := k2'.cell 1
    have r2 := k2'.cell 2
    have r3 := k2'.cell 3
    simp only [ws, List.set_cons_zero, List.set_cons_succ, List.getElem?_cons_zero, List.getElem?_cons_succ] at r0 r1 r2 r3
    have hB' := ((((hB.setCell (p := ⟨w.heap.size, 0, none⟩) (Nat.le_refl _) (.int .u64 (s0 : Nat))).setCell (p := ⟨w.heap.size, 1, none⟩) (Nat.le_refl _) (.int .u64 (s1 : Nat))).setCell (p := ⟨w.heap.size, 2, none⟩) (Nat.le_refl _) (.int .u64 (s2 : Nat))).setCell (p := ⟨w.heap.size, 3, none⟩) (Nat.le_refl _) (.int .u64 (s3 : Nat))).trans (belowK_b (w := w) (Nat.le_refl _) _ D _ (.deferred none) (by omega) hK' rfl rfl)
    refine ⟨by simp, .inl ⟨_, _, rfl, run_takeDeferred hK', ?_⟩⟩
    refine ⟨.tuple #[wv s0 s1 s2 s3, .bool true], ?_, ?_⟩
    · simp [results, Try.f84, go_sem, r0, r1, r2, r3]
    · exact ⟨by rw [H0.out, H1.out, H2.out, H3.out], hB'⟩
  · rintro D c pre W _ _ h _
    exact h.elim

theorem unwide_any (l : List UInt8) (sv : Value) (w : World) (hsv : BSl 0 w.heap.size w sv l) : Calls Try.prog 84 #[sv] w (UnW l w) := by
  by_cases hl : l.length = 32
  · exact (callsIn_wide.1 (unwide_yes 2 (by omega) l sv w hl hsv)).mono fun e W' h => .inl ⟨hl, h.1, h.2⟩
  · exact (callsIn_wide.1 (unwide_no 2 l sv w hl hsv)).mono fun e W' h => .inr ⟨hl, h⟩

end Go.Proofs.Ytigdenlnnnfjlaa
