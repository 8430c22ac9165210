/-
  A transfer and a side's data as plain things; whether they may be; what is put of them, and read, as states of octets.
  Digits of 16 bits: rows of numbers that a call owns; what digits come to.
  What digits of 16 bits come to, word by word.
  Numbers of sixteen digits: what digits, sums and differences digit by digit come to.
  An ask and a bid as plain things; whether they may be; what is put of them, and read, as states of octets.
  '==' and '!=' of two wide numbers are those of their words.
  wide.down hands back a sequence of a number's four words with their places, the highest first.
  wide.Cmp tells which of two wide numbers is greater.
  An element of an array by value.
  The cells of a block that is known whole.
  A region that draws: the condition on the world may be strengthened on the way.
  Which asks and bids may be: bid's CheckAsk and Check.
-/
import Derived.Laws.StructEq
import Derived.WalkSpells
import Derived.Laws.CopyOwn
import Derived.Deep.RegionHeld3
import Derived.Test.YtiibeahgleaonaaGreatProg
import Derived.Outline
import Derived.Deep.Cut
import Derived.Test.YtiibeahgleaonaaGreatK01
namespace Go.Proofs.YtiibeahgleaonaaGreat
open Go.RowKit Go.Shelf

structure Trf where
  us : Int
  rt : ByteArray
  ro : Int
  se : Int
  re : Int
  to : Int
  id : ByteArray
/-- A transfer as a value. -/
abbrev ivv (i : Trf) : Value := .agg #[.int .i64 i.us, .string i.rt, .int .i64 i.ro, .int .i64 i.se, .int .i64 i.re, .int .i64 i.to, .string i.id]
/-- Its cells. -/
abbrev ivc (i : Trf) : List Value := [.int .i64 i.us, .string i.rt, .int .i64 i.ro, .int .i64 i.se, .int .i64 i.re, .int .i64 i.to, .string i.id]
structure OkI (i : Trf) : Prop where
  rs : i.rt.size ≤ 140737488351232
  is : i.id.size ≤ 140737488351232
def emptyB : ByteArray := ⟨#[]⟩
def noI : Trf := ⟨0, ⟨#[]⟩, 0, 0, 0, 0, ⟨#[]⟩⟩
def maybeI (i : Trf) : Prop := (0 ≤ i.us ∧ i.us ≤ 1) ∧ i.rt.size = 8 ∧ (2 ≤ i.ro ∧ i.ro ≤ 3) ∧ (0 ≤ i.se ∧ i.se ≤ 1) ∧ (0 ≤ i.re ∧ i.re ≤ 1) ∧ (0 ≤ i.to ∧ i.to ≤ 7) ∧ 1 ≤ i.id.size ∧ i.id.size ≤ 16
instance (i : Trf) : Decidable (maybeI i) := by unfold maybeI; infer_instance
def errI (i : Trf) : Int := if maybeI i then 0 else 39
theorem errI_zero {i : Trf} (h : maybeI i) : errI i = 0 := if_pos h
theorem errI_bad {i : Trf} (h : ¬ maybeI i) : errI i = 39 := if_neg h

structure Sid where
  a0 : Nat
  a1 : Nat
  a2 : Nat
  a3 : Nat
  x : Int
abbrev svv (v : Sid) : Value := .agg #[.int .u64 (v.a0 : Nat), .int .u64 (v.a1 : Nat), .int .u64 (v.a2 : Nat), .int .u64 (v.a3 : Nat), .int .i64 v.x]
abbrev svc (v : Sid) : List Value := [.int .u64 (v.a0 : Nat), .int .u64 (v.a1 : Nat), .int .u64 (v.a2 : Nat), .int .u64 (v.a3 : Nat), .int .i64 v.x]
def noV : Sid := ⟨0, 0, 0, 0, 0⟩
def maybeV (v : Sid) : Prop := ¬ (v.a0 = 0 ∧ v.a1 = 0 ∧ v.a2 = 0 ∧ v.a3 = 0) ∧ 0 ≤ v.x ∧ v.x ≤ 1099511627776
instance (v : Sid) : Decidable (maybeV v) := by unfold maybeV; infer_instance
def errV (v : Sid) : Int := if maybeV v then 0 else 36
theorem errV_zero {v : Sid} (h : maybeV v) : errV v = 0 := if_pos h
theorem errV_bad {v : Sid} (h : ¬ maybeV v) : errV v = 36 := if_neg h

/-- The texts "inv", "act". -/
def invB : ByteArray := ⟨#[105, 110, 118]⟩
def actB : ByteArray := ⟨#[97, 99, 116]⟩
def putI1 (s : St) (i : Trf) : St := txtS (numS (txtS s invB) i.us) i.rt
def putI2 (s : St) (i : Trf) : St := numS (numS (numS (numS s i.ro) i.se) i.re) i.to
def putI (s : St) (i : Trf) : St := txtS (putI2 (putI1 s i) i) i.id
def putV (s : St) (v : Sid) : St := numS (wideS s v.a0 v.a1 v.a2 v.a3) v.x
def paySt (act : Int) (key : ByteArray) (a0 a1 a2 a3 : Nat) : St := wideS (txtS (numS (txtS ([], 0) actB) act) key) a0 a1 a2 a3
theorem okS_new : OkS ([], 0) := ⟨fun _ => rfl, by simp⟩
theorem okS_putI1 {s : St} (h : OkS s) (i : Trf) : OkS (putI1 s i) := okS_txt (okS_num (okS_txt h _) _) _
theorem okS_putI2 {s : St} (h : OkS s) (i : Trf) : OkS (putI2 s i) := okS_num (okS_num (okS_num (okS_num h _) _) _) _
theorem okS_putI {s : St} (h : OkS s) (i : Trf) : OkS (putI s i) := okS_txt (okS_putI2 (okS_putI1 h i) i) _
theorem okS_putV {s : St} (h : OkS s) (v : Sid) : OkS (putV s v) := okS_num (okS_wide h _ _ _ _) _

/-- The number 'most' of a field of a transfer. -/
abbrev big : Int := 1099511627776
def str (l : List UInt8) : ByteArray := ⟨l.toArray⟩
/-- What is read of octets: the first text, the transfer's things, and the state behind. -/
def rd0 (s : St) : List UInt8 × St := gtxtS s 16
def rd1 (s : St) : Nat × St := mostS (rd0 s).2 6 big
def rd2 (s : St) : List UInt8 × St := gtxtS (rd1 s).2 8
def rd3 (s : St) : Nat × St := mostS (rd2 s).2 6 big
def rd4 (s : St) : Nat × St := mostS (rd3 s).2 6 big
def rd5 (s : St) : Nat × St := mostS (rd4 s).2 6 big
def rd6 (s : St) : Nat × St := mostS (rd5 s).2 6 big
def rd7 (s : St) : List UInt8 × St := gtxtS (rd6 s).2 16
def rawI (s : St) : Trf := ⟨(rd1 s).1, str (rd2 s).1, (rd3 s).1, (rd4 s).1, (rd5 s).1, (rd6 s).1, str (rd7 s).1⟩
def goodI (s : St) : Prop := str (rd0 s).1 = invB ∧ maybeI (rawI s)
instance (s : St) : Decidable (goodI s) := by unfold goodI; infer_instance
/-- The transfer that is read, and the state behind it. -/
def getI (s : St) : Trf × St := if (rd7 s).2.2 = 0 ∧ goodI s then (rawI s, (rd7 s).2) else (noI, errS (rd7 s).2 16)
def vd0 (s : St) : List UInt8 × St := takeS s 32
def vd1 (s : St) : Nat × St := mostS (vd0 s).2 6 big
def rawV (s : St) : Sid := ⟨wdS (vd0 s).1 0, wdS (vd0 s).1 1, wdS (vd0 s).1 2, wdS (vd0 s).1 3, (vd1 s).1⟩
def getV (s : St) : Sid × St := if (vd1 s).2.2 = 0 ∧ maybeV (rawV s) then (rawV s, (vd1 s).2) else (noV, errS (vd1 s).2 16)
theorem okS_rd7 {s : St} (h : OkS s) : OkS (rd7 s).2 := okS_gtxt (okS_most (okS_most (okS_most (okS_most (okS_gtxt (okS_most (okS_gtxt h _) _ _) _) _ _) _ _) _ _) _ _) _
theorem okS_vd1 {s : St} (h : OkS s) : OkS (vd1 s).2 := okS_most (okS_take h _) _ _
theorem okS_getI {s : St} (h : OkS s) : OkS (getI s).2 := by
  unfold getI; split
  · exact okS_rd7 h
  · exact okS_err (okS_rd7 h) _
theorem okS_getV {s : St} (h : OkS s) : OkS (getV s).2 := by
  unfold getV; split
  · exact okS_vd1 h
  · exact okS_err (okS_vd1 h) _
end Go.Proofs.YtiibeahgleaonaaGreat

namespace Go.Proofs.YtiibeahgleaonaaGreat
open Go.RowKit

theorem Tryz.infoInt : (Tryz.prog.info? 3).map (fun i => (i.zero, i.size, i.bytes)) = some (some (.int .i64 0), 1, 8) := by kernel_rfl

/-- The slice value v owns a row of n numbers, f 0, f 1, .. -/
def OR (W : World) (base : Nat) (v : Value) (n : Nat) (f : Nat → Nat) : Prop := W.ownsRow base 3 1 v n ((List.range n).map fun k => Value.int .i64 (f k : Nat))
theorem OR.nil (W : World) (base : Nat) (f : Nat → Nat) : OR W base (.slice none 0 0) 0 f := ⟨rfl, .inl ⟨rfl, rfl⟩⟩
theorem OR.out {W : World} {base : Nat} {v : Value} {n : Nat} {f : Nat → Nat} (h : OR W base v n f) : W.ownsRow base 3 1 v n ((List.range n).map fun k => Value.int .i64 (f k : Nat)) := h
theorem OR.step {W : World} {base : Nat} {v : Value} {n : Nat} {f : Nat → Nat} {x : Int} (h : W.ownsRow base 3 1 v (n + 1) (((List.range n).map fun k => Value.int .i64 (f k : Nat)) ++ [.int .i64 x])) (hx : x = (f n : Nat)) : OR W base v (n + 1) f := by
  unfold OR
  rw [List.range_succ, List.map_append]
  rw [hx] at h
  exact h
theorem OR.alloc {W : World} {base : Nat} {v : Value} {n : Nat} {f : Nat → Nat} (h : OR W base v n f) (o : Obj) : OR (W.alloc o) base v n f := World.ownsRow.alloc h o
theorem OR.grown {W w1 : World} {base n : Nat} {u v' : Value} {f : Nat → Nat} {o : Obj} {x : Int} (hown : OR W base u n f) (hsz : base ≤ W.heap.size)
    (hown' : w1.ownsRow base 3 1 v' (n + 1) (((List.range n).map fun k => Value.int .i64 (f k : Nat)) ++ [.int .i64 x])) (hg : (W.alloc o).grownBy w1 u.ownBlock) (hx : x = (f n : Nat)) :
    OR w1 base v' (n + 1) f ∧ base ≤ w1.heap.size ∧ Below base W w1 := by
  have hb : Below base W w1 := ((Below.refl base W).alloc hsz o).grown hg (by simp; omega) (fun j hj => (World.ownsRow.lt hown.out j hj).1)
  exact ⟨OR.step hown' hx, Nat.le_trans hsz hb.size, hb⟩
/-- The slice at block g holds n numbers. -/
def Nums (W : World) (g n : Nat) (f : Nat → Nat) : Prop := ∀ k, k < n → W.cell? ⟨g, k, none⟩ = some (.int .i64 (f k : Nat))
theorem OR.nums {W : World} {base : Nat} {v : Value} {n : Nat} {f : Nat → Nat} (h : OR W base v n f) (hn : 0 < n) :
    ∃ g cap, v = .slice (some ⟨g, 0, none⟩) n cap ∧ base ≤ g ∧ g < W.heap.size ∧ Nums W g n f := by
  obtain ⟨hl, ⟨_, h0⟩ | ⟨g, cap, cur, rfl, hg, hb, hnc, hcm, hsz, htake⟩⟩ := h
  · omega
  · refine ⟨g, cap, rfl, hg, (Array.getElem?_eq_some_iff.1 hb).1, fun k hk => ?_⟩
    have e : cur[k]? = (cur.toList.take (n * 1))[k]? := by
      rw [List.getElem?_take_of_lt (by omega)]
      simp
    simp only [World.cell?, hb]
    rw [show (if (none : Option Nat).isSome = true then (none : Option Value) else cur[k]?) = cur[k]? from rfl, e, htake]
    simp [hk]
theorem Nums.below {W W' : World} {m g n : Nat} {f : Nat → Nat} (h : Nums W g n f) (hb : Below m W W') (hg : g < m) : Nums W' g n f := fun k hk => (hb.cell (p := ⟨g, k, none⟩) hg).trans (h k hk)

/-- A slice of n numbers, and nothing that was there has turned. -/
def SlW (n : Nat) (f : Nat → Nat) (w : World) (e : Ending) (W' : World) : Prop :=
  ∃ g cap, e = .returned (.slice (some ⟨g, 0, none⟩) n cap) ∧ w.heap.size ≤ g ∧ g < W'.heap.size ∧ Nums W' g n f ∧ Below w.heap.size w W'

/-- x without its t lowest digits. -/
def sh (x : Nat) : Nat → Nat
  | 0 => x
  | t + 1 => sh x t / 65536
/-- The digit at place n. -/
def dg (a0 a1 a2 a3 n : Nat) : Nat := sh (word a0 a1 a2 a3 (n / 4)) (n % 4) % 65536
theorem dg_at {a0 a1 a2 a3 k t : Nat} (ht : t < 4) : dg a0 a1 a2 a3 (4 * k + t) = sh (word a0 a1 a2 a3 k) t % 65536 := by
  unfold dg
  rw [show (4 * k + t) / 4 = k by omega, show (4 * k + t) % 4 = t by omega]
theorem sh_lt {x : Nat} (h : x < M) (t : Nat) : sh x t < M := by
  induction t with
  | zero => exact h
  | succ t ih => show sh x t / 65536 < M; omega

/-- n numbers as cells. -/
def ds (f : Nat → Nat) (n : Nat) : List Value := (List.range n).map fun k => .int .i64 (f k : Nat)
theorem ds_at (f : Nat → Nat) {n k : Nat} (h : k < n) : (ds f n)[k]? = some (.int .i64 (f k : Nat)) := by
  unfold ds; rw [List.getElem?_map, List.getElem?_range h]; rfl
theorem ds_set (f : Nat → Nat) {n k : Nat} (v : Nat) : (ds f n).set k (.int .i64 (v : Nat)) = ds (upd f k v) n := by
  apply List.ext_getElem?
  intro j
  rw [List.getElem?_set]
  by_cases hj : k = j
  · subst hj
    by_cases hk : k < n
    · rw [if_pos rfl, if_pos (by simp [ds]; exact hk), ds_at _ hk]; simp [upd]
    · rw [if_pos rfl, if_neg (by simp [ds]; omega), eq_comm, List.getElem?_eq_none]; simp [ds]; omega
  · rw [if_neg hj]
    by_cases hk : j < n
    · rw [ds_at _ hk, ds_at _ hk]; simp [upd, Ne.symm hj]
    · rw [List.getElem?_eq_none (by simp [ds]; omega), List.getElem?_eq_none (by simp [ds]; omega)]
theorem Blk.numsOf {W : World} {B n : Nat} {f : Nat → Nat} (h : Blk W B 3 (ds f n)) : Nums W B n f := fun k hk => (h.cell k).trans (ds_at f hk)
end Go.Proofs.YtiibeahgleaonaaGreat

namespace Go.Proofs.YtiibeahgleaonaaGreat
open Go.RowKit

/-- What the digits below place i come to, in word j. -/
def wdg (f : Nat → Nat) (i j : Nat) : Nat :=
  (if 4 * j < i then f (4 * j) else 0) + (if 4 * j + 1 < i then f (4 * j + 1) * 65536 else 0) + (if 4 * j + 2 < i then f (4 * j + 2) * 4294967296 else 0) + (if 4 * j + 3 < i then f (4 * j + 3) * 281474976710656 else 0)
def p16 : Nat → Nat | 0 => 1 | 1 => 65536 | 2 => 4294967296 | _ => 281474976710656

theorem p16_0 : p16 0 = 1 := rfl
theorem p16_1 : p16 1 = 65536 := rfl
theorem p16_2 : p16 2 = 4294967296 := rfl
theorem p16_3 : p16 3 = 281474976710656 := rfl
theorem wdg_zero (f : Nat → Nat) : wdg f 0 = fun _ => 0 := by funext j; simp [wdg]
theorem wdg_high (f : Nat → Nat) {i : Nat} (hi : 16 ≤ i) : ws (wdg f (i + 1)) = ws (wdg f i) := by
  have e : ∀ j, j < 4 → wdg f (i + 1) j = wdg f i j := fun j hj => by
    unfold wdg
    rw [if_pos (by omega), if_pos (by omega), if_pos (by omega), if_pos (by omega), if_pos (by omega), if_pos (by omega), if_pos (by omega), if_pos (by omega)]
  unfold ws
  rw [e 0 (by omega), e 1 (by omega), e 2 (by omega), e 3 (by omega)]
theorem wdg_0 (f : Nat → Nat) (q : Nat) : wdg f (4 * q) q = 0 := by
  unfold wdg; rw [if_neg (by omega), if_neg (by omega), if_neg (by omega), if_neg (by omega)]
theorem wdg_1 (f : Nat → Nat) (q : Nat) : wdg f (4 * q + 1) q = f (4 * q) := by
  unfold wdg; rw [if_pos (by omega), if_neg (by omega), if_neg (by omega), if_neg (by omega)]; omega
theorem wdg_2 (f : Nat → Nat) (q : Nat) : wdg f (4 * q + 2) q = f (4 * q) + f (4 * q + 1) * 65536 := by
  unfold wdg; rw [if_pos (by omega), if_pos (by omega), if_neg (by omega), if_neg (by omega)]; omega
theorem wdg_3 (f : Nat → Nat) (q : Nat) : wdg f (4 * q + 3) q = f (4 * q) + f (4 * q + 1) * 65536 + f (4 * q + 2) * 4294967296 := by
  unfold wdg; rw [if_pos (by omega), if_pos (by omega), if_pos (by omega), if_neg (by omega)]; omega
theorem wdg_4 (f : Nat → Nat) {i q : Nat} (h : 4 * q + 4 ≤ i) : wdg f i q = f (4 * q) + f (4 * q + 1) * 65536 + f (4 * q + 2) * 4294967296 + f (4 * q + 3) * 281474976710656 := by
  unfold wdg; rw [if_pos (by omega), if_pos (by omega), if_pos (by omega), if_pos (by omega)]
theorem wdg_step (f : Nat → Nat) (i : Nat) : wdg f (i + 1) = upd (wdg f i) (i / 4) (wdg f i (i / 4) + f i * p16 (i % 4)) := by
  funext j
  obtain ⟨q, r, hr, rfl⟩ : ∃ q r, r < 4 ∧ i = 4 * q + r := ⟨i / 4, i % 4, by omega, by omega⟩
  have e1 : (4 * q + r) / 4 = q := by omega
  have e2 : (4 * q + r) % 4 = r := by omega
  rw [e1, e2]
  unfold upd
  by_cases hj : j = q
  · subst hj
    rw [if_pos rfl]
    have : r = 0 ∨ r = 1 ∨ r = 2 ∨ r = 3 := by omega
    rcases this with rfl | rfl | rfl | rfl
    · simp only [Nat.add_zero]; rw [wdg_1, wdg_0, p16_0, Nat.zero_add, Nat.mul_one]
    · rw [wdg_2 f j, wdg_1, p16_1]
    · rw [wdg_3 f j, wdg_2, p16_2]
    · rw [wdg_4 f (i := 4 * j + 3 + 1) (by omega), wdg_3, p16_3]
  · rw [if_neg hj]
    unfold wdg
    have k : ∀ t, t < 4 → (4 * j + t < 4 * q + r + 1 ↔ 4 * j + t < 4 * q + r) := fun t ht => by omega
    have k0 := k 0 (by omega)
    simp only [Nat.add_zero] at k0
    simp only [k0, k 1 (by omega), k 2 (by omega), k 3 (by omega)]
theorem wdg_lt {f : Nat → Nat} {i : Nat} (hf : ∀ k, k ≤ i → f k < 65536) : wdg f i (i / 4) + f i * p16 (i % 4) ≤ 18446744073709551615 := by
  obtain ⟨q, r, hr, rfl⟩ : ∃ q r, r < 4 ∧ i = 4 * q + r := ⟨i / 4, i % 4, by omega, by omega⟩
  have e1 : (4 * q + r) / 4 = q := by omega
  have e2 : (4 * q + r) % 4 = r := by omega
  rw [e1, e2]
  have : r = 0 ∨ r = 1 ∨ r = 2 ∨ r = 3 := by omega
  rcases this with rfl | rfl | rfl | rfl
  · have h0 := hf (4 * q) (by omega)
    simp only [Nat.add_zero]; rw [wdg_0, p16_0]; omega
  · have h0 := hf (4 * q) (by omega)
    have h1 := hf (4 * q + 1) (by omega)
    rw [wdg_1, p16_1]; omega
  · have h0 := hf (4 * q) (by omega)
    have h1 := hf (4 * q + 1) (by omega)
    have h2 := hf (4 * q + 2) (by omega)
    rw [wdg_2, p16_2]; omega
  · have h0 := hf (4 * q) (by omega)
    have h1 := hf (4 * q + 1) (by omega)
    have h2 := hf (4 * q + 2) (by omega)
    have h3 := hf (4 * q + 3) (by omega)
    rw [wdg_3, p16_3]; omega
theorem p16_step {r : Nat} (h : r < 3) : p16 (r + 1) = p16 r * 65536 := by
  have : r = 0 ∨ r = 1 ∨ r = 2 := by omega
  rcases this with rfl | rfl | rfl
  · rw [p16_1, p16_0]
  · rw [p16_2, p16_1]
  · rw [p16_3, p16_2]
theorem p16_le (r : Nat) : p16 r ≤ 281474976710656 := by unfold p16; split <;> omega
theorem p16_le2 {r : Nat} (h : r < 3) : p16 r ≤ 4294967296 := by
  have : r = 0 ∨ r = 1 ∨ r = 2 := by omega
  rcases this with rfl | rfl | rfl
  · rw [p16_0]; omega
  · rw [p16_1]; omega
  · rw [p16_2]; omega

end Go.Proofs.YtiibeahgleaonaaGreat

namespace Go.Proofs.YtiibeahgleaonaaGreat
open Go.RowKit

/-- What n digits come to. -/
def nv (f : Nat → Nat) : Nat → Nat
  | 0 => 0
  | n + 1 => nv f n + f n * 65536 ^ n

theorem nv_congr {f g : Nat → Nat} : ∀ {n : Nat}, (∀ k, k < n → f k = g k) → nv f n = nv g n
  | 0, _ => rfl
  | n + 1, h => by
    show nv f n + f n * 65536 ^ n = nv g n + g n * 65536 ^ n
    rw [nv_congr (fun k hk => h k (by omega)), h n (by omega)]
theorem nv_lt {f : Nat → Nat} : ∀ {n : Nat}, (∀ k, k < n → f k < 65536) → nv f n < 65536 ^ n
  | 0, _ => by simp [nv]
  | n + 1, h => by
    have h1 := nv_lt (n := n) (fun k hk => h k (by omega))
    have h2 := h n (by omega)
    have h3 : (f n + 1) * 65536 ^ n ≤ 65536 * 65536 ^ n := Nat.mul_le_mul_right _ (by omega)
    rw [Nat.add_mul] at h3
    show nv f n + f n * 65536 ^ n < 65536 ^ n * 65536
    omega

theorem pow16 : 65536 ^ 4 = M := by unfold M; decide
theorem pow_M4 : 65536 ^ 16 = M4 := by unfold M4 M; decide

theorem nv4 (f : Nat → Nat) (n : Nat) : nv f (n + 4) = nv f n + (f n + f (n + 1) * 65536 + f (n + 2) * 4294967296 + f (n + 3) * 281474976710656) * 65536 ^ n := by
  show nv f n + f n * 65536 ^ n + f (n + 1) * 65536 ^ (n + 1) + f (n + 2) * 65536 ^ (n + 2) + f (n + 3) * 65536 ^ (n + 3) = _
  rw [Nat.pow_add 65536 n 1, Nat.pow_add 65536 n 2, Nat.pow_add 65536 n 3]
  generalize 65536 ^ n = P
  have e1 : 65536 ^ 1 = 65536 := by decide
  have e2 : 65536 ^ 2 = 4294967296 := by decide
  have e3 : 65536 ^ 3 = 281474976710656 := by decide
  rw [e1, e2, e3, Nat.add_mul, Nat.add_mul, Nat.add_mul]
  rw [Nat.mul_comm P 65536, Nat.mul_comm P 4294967296, Nat.mul_comm P 281474976710656, ← Nat.mul_assoc, ← Nat.mul_assoc, ← Nat.mul_assoc]
  omega

theorem nv_val (f : Nat → Nat) {n : Nat} (hn : 16 ≤ n) : val (wdg f n 0) (wdg f n 1) (wdg f n 2) (wdg f n 3) = nv f 16 := by
  rw [wdg_4 f (q := 0) (by omega), wdg_4 f (q := 1) (by omega), wdg_4 f (q := 2) (by omega), wdg_4 f (q := 3) (by omega)]
  rw [show (16 : Nat) = 0 + 4 + 4 + 4 + 4 from rfl, nv4, nv4, nv4, nv4]
  have m0 : nv f 0 = 0 := rfl
  have p0 : 65536 ^ 0 = 1 := rfl
  have p4 : 65536 ^ (0 + 4) = M := pow16
  have p8 : 65536 ^ (0 + 4 + 4) = M * M := by rw [Nat.pow_add, p4]
  have p12 : 65536 ^ (0 + 4 + 4 + 4) = M * M * M := by rw [Nat.pow_add, p8, pow16]
  rw [m0, p0, p4, p8, p12]
  simp only [Nat.mul_zero, Nat.zero_add, Nat.mul_one, Nat.reduceMul, Nat.reduceAdd]
  generalize f 0 + f 1 * 65536 + f 2 * 4294967296 + f 3 * 281474976710656 = c0
  generalize f 4 + f 5 * 65536 + f 6 * 4294967296 + f 7 * 281474976710656 = c1
  generalize f 8 + f 9 * 65536 + f 10 * 4294967296 + f 11 * 281474976710656 = c2
  generalize f 12 + f 13 * 65536 + f 14 * 4294967296 + f 15 * 281474976710656 = c3
  unfold val
  rw [Nat.mul_add, Nat.mul_add, Nat.mul_add, Nat.mul_comm M c1, Nat.mul_comm c2 (M * M), Nat.mul_comm c3 (M * M * M)]
  simp only [Nat.mul_assoc, Nat.add_assoc]

theorem wdg_ok {f : Nat → Nat} {n : Nat} (hn : 16 ≤ n) (hf : ∀ k, k < 16 → f k < 65536) : Ok4 (wdg f n 0) (wdg f n 1) (wdg f n 2) (wdg f n 3) := by
  have h : ∀ j, j < 4 → wdg f n j < M := fun j hj => by
    have h0 := hf (4 * j) (by omega)
    have h1 := hf (4 * j + 1) (by omega)
    have h2 := hf (4 * j + 2) (by omega)
    have h3 := hf (4 * j + 3) (by omega)
    rw [wdg_4 f (by omega), M_eq]
    omega
  exact ⟨h 0 (by omega), h 1 (by omega), h 2 (by omega), h 3 (by omega)⟩

theorem word_digits {x : Nat} (h : x < M) : x = sh x 0 % 65536 + sh x 1 % 65536 * 65536 + sh x 2 % 65536 * 4294967296 + sh x 3 % 65536 * 281474976710656 := by
  have s0 : sh x 0 = x := rfl
  have s1 : sh x 1 = x / 65536 := rfl
  have s2 : sh x 2 = x / 65536 / 65536 := rfl
  have s3 : sh x 3 = x / 65536 / 65536 / 65536 := rfl
  rw [s0, s1, s2, s3]
  rw [M_eq] at h
  omega

theorem wdg_dg {a0 a1 a2 a3 : Nat} (ha : Ok4 a0 a1 a2 a3) {n : Nat} (hn : 16 ≤ n) (j : Nat) (hj : j < 4) : wdg (dg a0 a1 a2 a3) n j = word a0 a1 a2 a3 j := by
  rw [wdg_4 _ (by omega)]
  have e0 := dg_at (a0 := a0) (a1 := a1) (a2 := a2) (a3 := a3) (k := j) (t := 0) (by omega)
  rw [Nat.add_zero] at e0
  rw [e0, dg_at (t := 1) (by omega), dg_at (t := 2) (by omega), dg_at (t := 3) (by omega)]
  exact (word_digits (word_lt ha.h0 ha.h1 ha.h2 ha.h3 j)).symm

theorem nv_dg {a0 a1 a2 a3 : Nat} (ha : Ok4 a0 a1 a2 a3) : nv (dg a0 a1 a2 a3) 16 = val a0 a1 a2 a3 := by
  rw [← nv_val _ (Nat.le_refl 16), wdg_dg ha (by omega) 0 (by omega), wdg_dg ha (by omega) 1 (by omega), wdg_dg ha (by omega) 2 (by omega), wdg_dg ha (by omega) 3 (by omega)]
  rfl

theorem dg_lt (a0 a1 a2 a3 k : Nat) : dg a0 a1 a2 a3 k < 65536 := Nat.mod_lt _ (by omega)

/-! ### Adding -/
def cyA (x y : Nat → Nat) : Nat → Nat
  | 0 => 0
  | k + 1 => (cyA x y k + x k + y k) / 65536
def sdA (x y : Nat → Nat) (k : Nat) : Nat := if k = 16 then cyA x y 16 else (cyA x y k + x k + y k) % 65536
theorem cyA_le {x y : Nat → Nat} (hx : ∀ k, x k < 65536) (hy : ∀ k, y k < 65536) : ∀ k, cyA x y k ≤ 1
  | 0 => by simp [cyA]
  | k + 1 => by
    have := cyA_le hx hy k
    have := hx k
    have := hy k
    show (cyA x y k + x k + y k) / 65536 ≤ 1
    omega
theorem nv_add (x y : Nat → Nat) : ∀ n, nv (fun k => (cyA x y k + x k + y k) % 65536) n + cyA x y n * 65536 ^ n = nv x n + nv y n
  | 0 => by simp [nv, cyA]
  | n + 1 => by
    have ih := nv_add x y n
    show nv _ n + (cyA x y n + x n + y n) % 65536 * 65536 ^ n + (cyA x y n + x n + y n) / 65536 * 65536 ^ (n + 1) = nv x n + x n * 65536 ^ n + (nv y n + y n * 65536 ^ n)
    have e : (cyA x y n + x n + y n) % 65536 + 65536 * ((cyA x y n + x n + y n) / 65536) = cyA x y n + x n + y n := Nat.mod_add_div _ _
    generalize (cyA x y n + x n + y n) % 65536 = r at *
    generalize (cyA x y n + x n + y n) / 65536 = q at *
    have e2 : (r + 65536 * q) * 65536 ^ n = (cyA x y n + x n + y n) * 65536 ^ n := by rw [e]
    rw [Nat.add_mul, Nat.add_mul, Nat.add_mul] at e2
    rw [Nat.pow_succ]
    rw [show 65536 * q * 65536 ^ n = q * (65536 ^ n * 65536) by rw [Nat.mul_comm 65536 q, Nat.mul_assoc, Nat.mul_comm 65536 (65536 ^ n)]] at e2
    omega

theorem sum_digits {a0 a1 a2 a3 b0 b1 b2 b3 : Nat} (ha : Ok4 a0 a1 a2 a3) (hb : Ok4 b0 b1 b2 b3) :
    nv (sdA (dg a0 a1 a2 a3) (dg b0 b1 b2 b3)) 16 + cyA (dg a0 a1 a2 a3) (dg b0 b1 b2 b3) 16 * M4 = val a0 a1 a2 a3 + val b0 b1 b2 b3 := by
  rw [← nv_dg ha, ← nv_dg hb, ← pow_M4, ← nv_add]
  rw [nv_congr (f := sdA (dg a0 a1 a2 a3) (dg b0 b1 b2 b3)) (g := fun k => (cyA (dg a0 a1 a2 a3) (dg b0 b1 b2 b3) k + dg a0 a1 a2 a3 k + dg b0 b1 b2 b3 k) % 65536)]
  intro k hk
  unfold sdA
  rw [if_neg (by omega)]

/-! ### Which one is greater -/
def cmpN (a b : Nat) : Int := if a < b then -1 else if b < a then 1 else 0
theorem nv_less {x y : Nat → Nat} {j : Nat} (hx : ∀ k, x k < 65536) (h : x j < y j) : ∀ n, j < n → (∀ t, j < t → t < n → x t = y t) → nv x n < nv y n
  | 0, hj, _ => by omega
  | n + 1, hj, he => by
    show nv x n + x n * 65536 ^ n < nv y n + y n * 65536 ^ n
    by_cases e : n = j
    · subst e
      have h1 := nv_lt (f := x) (n := n) (fun k _ => hx k)
      have h2 : (x n + 1) * 65536 ^ n ≤ y n * 65536 ^ n := Nat.mul_le_mul_right _ h
      rw [Nat.add_mul] at h2
      omega
    · have ih := nv_less hx h n (by omega) (fun t h1 h2 => he t h1 (by omega))
      rw [he n (by omega) (by omega)]
      omega

/-! ### Taking away -/
def bwS (x y : Nat → Nat) : Nat → Nat
  | 0 => 0
  | k + 1 => if x k < y k + bwS x y k then 1 else 0
def sdS (x y : Nat → Nat) (k : Nat) : Nat := if x k < y k + bwS x y k then x k + 65536 - y k - bwS x y k else x k - y k - bwS x y k
theorem bwS_le (x y : Nat → Nat) : ∀ k, bwS x y k ≤ 1
  | 0 => by simp [bwS]
  | k + 1 => by
    show (if x k < y k + bwS x y k then 1 else 0) ≤ 1
    split <;> omega
theorem sdS_lt {x y : Nat → Nat} (hx : ∀ k, x k < 65536) (hy : ∀ k, y k < 65536) (k : Nat) : sdS x y k < 65536 := by
  have := hx k
  have := hy k
  unfold sdS
  split <;> omega
theorem nv_sub {x y : Nat → Nat} (hx : ∀ k, x k < 65536) (hy : ∀ k, y k < 65536) : ∀ n, nv (sdS x y) n + nv y n = nv x n + bwS x y n * 65536 ^ n
  | 0 => by simp [nv, bwS]
  | n + 1 => by
    have ih := nv_sub hx hy n
    have h1 := hx n
    have h2 := hy n
    have h3 := bwS_le x y n
    have e : sdS x y n + y n + bwS x y n = x n + 65536 * bwS x y (n + 1) := by
      show sdS x y n + y n + bwS x y n = x n + 65536 * (if x n < y n + bwS x y n then 1 else 0)
      unfold sdS
      split <;> omega
    show nv (sdS x y) n + sdS x y n * 65536 ^ n + (nv y n + y n * 65536 ^ n) = nv x n + x n * 65536 ^ n + bwS x y (n + 1) * 65536 ^ (n + 1)
    generalize bwS x y (n + 1) = q at *
    have e2 : (sdS x y n + y n + bwS x y n) * 65536 ^ n = (x n + 65536 * q) * 65536 ^ n := by rw [e]
    rw [Nat.add_mul, Nat.add_mul, Nat.add_mul] at e2
    rw [Nat.pow_succ]
    rw [show 65536 * q * 65536 ^ n = q * (65536 ^ n * 65536) by rw [Nat.mul_comm 65536 q, Nat.mul_assoc, Nat.mul_comm 65536 (65536 ^ n)]] at e2
    omega

end Go.Proofs.YtiibeahgleaonaaGreat

namespace Go.Proofs.YtiibeahgleaonaaGreat
open Go.RowKit Go.Shelf

structure Ak where
  us : Int
  se : Int
  re : Int
  to : Int
  a0 : Nat
  a1 : Nat
  a2 : Nat
  a3 : Nat
  id : ByteArray
/-- An ask as a value. -/
abbrev akv (a : Ak) : Value := .agg #[.int .i64 a.us, .int .i64 a.se, .int .i64 a.re, .int .i64 a.to, .int .u64 (a.a0 : Nat), .int .u64 (a.a1 : Nat), .int .u64 (a.a2 : Nat), .int .u64 (a.a3 : Nat), .string a.id]
/-- Its cells. -/
abbrev akc (a : Ak) : List Value := [.int .i64 a.us, .int .i64 a.se, .int .i64 a.re, .int .i64 a.to, .int .u64 (a.a0 : Nat), .int .u64 (a.a1 : Nat), .int .u64 (a.a2 : Nat), .int .u64 (a.a3 : Nat), .string a.id]
def noA : Ak := ⟨0, 0, 0, 0, 0, 0, 0, 0, ⟨#[]⟩⟩
/-- A number's words are all 0. -/
def zw (a0 a1 a2 a3 : Nat) : Prop := a0 = 0 ∧ a1 = 0 ∧ a2 = 0 ∧ a3 = 0
instance (a0 a1 a2 a3 : Nat) : Decidable (zw a0 a1 a2 a3) := by unfold zw; infer_instance
def maybeA (a : Ak) : Prop := (0 ≤ a.us ∧ a.us ≤ 1) ∧ (0 ≤ a.se ∧ a.se ≤ 1) ∧ (0 ≤ a.re ∧ a.re ≤ 1) ∧ (0 ≤ a.to ∧ a.to ≤ 7) ∧ ¬ zw a.a0 a.a1 a.a2 a.a3 ∧ 1 ≤ a.id.size ∧ a.id.size ≤ 16
instance (a : Ak) : Decidable (maybeA a) := by unfold maybeA; infer_instance
def errA (a : Ak) : Int := if maybeA a then 0 else 39
theorem errA_zero {a : Ak} (h : maybeA a) : errA a = 0 := if_pos h
theorem errA_bad {a : Ak} (h : ¬ maybeA a) : errA a = 39 := if_neg h

structure Bd where
  ro : Int
  k : Ak
  b0 : Nat
  b1 : Nat
  b2 : Nat
  b3 : Nat
  un : Int
  sg : ByteArray
abbrev bdv (b : Bd) : Value := .agg #[.int .i64 b.ro, .int .i64 b.k.us, .int .i64 b.k.se, .int .i64 b.k.re, .int .i64 b.k.to, .int .u64 (b.k.a0 : Nat), .int .u64 (b.k.a1 : Nat), .int .u64 (b.k.a2 : Nat), .int .u64 (b.k.a3 : Nat), .string b.k.id, .int .u64 (b.b0 : Nat), .int .u64 (b.b1 : Nat), .int .u64 (b.b2 : Nat), .int .u64 (b.b3 : Nat), .int .i64 b.un, .string b.sg]
abbrev bdc (b : Bd) : List Value := [.int .i64 b.ro, .int .i64 b.k.us, .int .i64 b.k.se, .int .i64 b.k.re, .int .i64 b.k.to, .int .u64 (b.k.a0 : Nat), .int .u64 (b.k.a1 : Nat), .int .u64 (b.k.a2 : Nat), .int .u64 (b.k.a3 : Nat), .string b.k.id, .int .u64 (b.b0 : Nat), .int .u64 (b.b1 : Nat), .int .u64 (b.b2 : Nat), .int .u64 (b.b3 : Nat), .int .i64 b.un, .string b.sg]
def noB : Bd := ⟨0, noA, 0, 0, 0, 0, 0, ⟨#[]⟩⟩
/-- Its words are words. -/
structure OkA (a : Ak) : Prop where
  k : Ok4 a.a0 a.a1 a.a2 a.a3
structure OkB (b : Bd) : Prop where
  k : Ok4 b.k.a0 b.k.a1 b.k.a2 b.k.a3
  b : Ok4 b.b0 b.b1 b.b2 b.b3
def maybeB (b : Bd) : Prop := (2 ≤ b.ro ∧ b.ro ≤ 3) ∧ maybeA b.k ∧ ¬ zw b.b0 b.b1 b.b2 b.b3 ∧ val b.b0 b.b1 b.b2 b.b3 ≤ val b.k.a0 b.k.a1 b.k.a2 b.k.a3 ∧ (0 ≤ b.un ∧ b.un ≤ 1099511627776) ∧ b.sg.size ≤ 1024
instance (b : Bd) : Decidable (maybeB b) := by unfold maybeB; infer_instance
def errB (b : Bd) : Int := if maybeB b then 0 else 39
theorem errB_zero {b : Bd} (h : maybeB b) : errB b = 0 := if_pos h
theorem errB_bad {b : Bd} (h : ¬ maybeB b) : errB b = 39 := if_neg h

/-- The text "bid". -/
def bidB : ByteArray := ⟨#[98, 105, 100]⟩
def putA4 (s : St) (a : Ak) : St := numS (numS (numS (numS s a.us) a.se) a.re) a.to
def putA (s : St) (a : Ak) : St := txtS (wideS (putA4 s a) a.a0 a.a1 a.a2 a.a3) a.id
def putB (s : St) (b : Bd) : St := numS (wideS (putA (numS (txtS s bidB) b.ro) b.k) b.b0 b.b1 b.b2 b.b3) b.un
theorem okS_putA4 {s : St} (h : OkS s) (a : Ak) : OkS (putA4 s a) := okS_num (okS_num (okS_num (okS_num h _) _) _) _
theorem okS_putA {s : St} (h : OkS s) (a : Ak) : OkS (putA s a) := okS_txt (okS_wide (okS_putA4 h a) _ _ _ _) _
theorem okS_putB {s : St} (h : OkS s) (b : Bd) : OkS (putB s b) := okS_num (okS_wide (okS_putA (okS_num (okS_txt h _) _) _) _ _ _ _) _
def textL (b : Bd) : List UInt8 := if maybeB b then (putB ([], 0) b).1 else []
theorem textL_yes {b : Bd} (h : maybeB b) : textL b = (putB ([], 0) b).1 := if_pos h
theorem textL_no {b : Bd} (h : ¬ maybeB b) : textL b = [] := if_neg h
theorem textL_len (b : Bd) : (textL b).length ≤ 8192 := by
  unfold textL; split
  · exact (okS_putB okS_new b).2
  · simp

/-- What is read of octets: an ask's things, and the state behind. -/
def ad0 (s : St) : Nat × St := mostS s 6 big
def ad1 (s : St) : Nat × St := mostS (ad0 s).2 6 big
def ad2 (s : St) : Nat × St := mostS (ad1 s).2 6 big
def ad3 (s : St) : Nat × St := mostS (ad2 s).2 6 big
def ad4 (s : St) : List UInt8 × St := takeS (ad3 s).2 32
def ad5 (s : St) : List UInt8 × St := gtxtS (ad4 s).2 16
def rawA (s : St) : Ak := ⟨(ad0 s).1, (ad1 s).1, (ad2 s).1, (ad3 s).1, wdS (ad4 s).1 0, wdS (ad4 s).1 1, wdS (ad4 s).1 2, wdS (ad4 s).1 3, str (ad5 s).1⟩
/-- The ask that is read, and the state behind it. -/
def getA (s : St) : Ak × St := if (ad5 s).2.2 = 0 ∧ maybeA (rawA s) then (rawA s, (ad5 s).2) else (noA, errS (ad5 s).2 16)
theorem okS_ad5 {s : St} (h : OkS s) : OkS (ad5 s).2 := okS_gtxt (okS_take (okS_most (okS_most (okS_most (okS_most h _ _) _ _) _ _) _ _) _) _
theorem okS_getA {s : St} (h : OkS s) : OkS (getA s).2 := by
  unfold getA; split
  · exact okS_ad5 h
  · exact okS_err (okS_ad5 h) _
theorem getA_yes {s : St} (h : (ad5 s).2.2 = 0) (g : maybeA (rawA s)) : getA s = (rawA s, (ad5 s).2) := if_pos ⟨h, g⟩
theorem getA_bad {s : St} (h : (ad5 s).2.2 ≠ 0) : getA s = (noA, (ad5 s).2) := by unfold getA; rw [if_neg (fun e => h e.1), errS_bad h]
theorem getA_no {s : St} (h : ¬ maybeA (rawA s)) : getA s = (noA, errS (ad5 s).2 16) := if_neg fun e => h e.2

/-- a offers more than b, or as much by a lower router. -/
def betB (a b : Bd) : Bool := decide (val b.b0 b.b1 b.b2 b.b3 < val a.b0 a.b1 a.b2 a.b3 ∨ (val a.b0 a.b1 a.b2 a.b3 = val b.b0 b.b1 b.b2 b.b3 ∧ a.ro < b.ro))
theorem betB_self (a : Bd) : betB a a = false := by unfold betB; simp
theorem betB_asym {a b : Bd} (h : betB a b = true) : betB b a = false := by
  unfold betB at *
  simp only [decide_eq_true_eq] at h
  simp only [decide_eq_false_iff_not]
  omega
theorem betB_trans {a b c : Bd} (h : betB a b = true) (g : betB b c = true) : betB a c = true := by
  unfold betB at *
  simp only [decide_eq_true_eq] at *
  omega
end Go.Proofs.YtiibeahgleaonaaGreat

namespace Go.Proofs.YtiibeahgleaonaaGreat
open Go.RowKit Go.Shelf

/-- The same words. -/
def wEq (a0 a1 a2 a3 b0 b1 b2 b3 : Int) : Bool := decide (a0 = b0 ∧ a1 = b1 ∧ a2 = b2 ∧ a3 = b3)
theorem wEq_refl (a0 a1 a2 a3 : Int) : wEq a0 a1 a2 a3 a0 a1 a2 a3 = true := by simp [wEq]
theorem wEq_of {a0 a1 a2 a3 b0 b1 b2 b3 : Int} (h : a0 = b0 ∧ a1 = b1 ∧ a2 = b2 ∧ a3 = b3) : wEq a0 a1 a2 a3 b0 b1 b2 b3 = true := decide_eq_true h
theorem wEq_not {a0 a1 a2 a3 b0 b1 b2 b3 : Int} (h : ¬ (a0 = b0 ∧ a1 = b1 ∧ a2 = b2 ∧ a3 = b3)) : wEq a0 a1 a2 a3 b0 b1 b2 b3 = false := decide_eq_false h

theorem run_equalIn_wide' (d : Nat) (a0 a1 a2 a3 b0 b1 b2 b3 : Int) (w : World) :
    (Op.equalIn (d + 2) 24 (.agg #[.int .u64 a0, .int .u64 a1, .int .u64 a2, .int .u64 a3]) (.agg #[.int .u64 b0, .int .u64 b1, .int .u64 b2, .int .u64 b3])).run Tryz.prog w = .ok (wEq a0 a1 a2 a3 b0 b1 b2 b3) w := by
  have e : ∀ a b : Int, (Op.equalIn (d + 1) 22 (.int .u64 a) (.int .u64 b)).run Tryz.prog w = .ok (a == b) w := fun a b => run_equalIn_int w d 22 .u64 .u64 a b Tryz.underlying22
  rw [show d + 2 = (d + 1) + 1 from rfl]
  unfold Op.equalIn
  by_cases h0 : a0 = b0
  · subst h0
    by_cases h1 : a1 = b1
    · subst h1
      by_cases h2 : a2 = b2
      · subst h2
        by_cases h3 : a3 = b3
        · subst h3
          simp [run_underlying Tryz.underlying24, List.range', part, e, Result.andThen, wEq]
        · simp [run_underlying Tryz.underlying24, List.range', part, e, Result.andThen, wEq, h3]
      · simp [run_underlying Tryz.underlying24, List.range', part, e, Result.andThen, wEq, h2]
    · simp [run_underlying Tryz.underlying24, List.range', part, e, Result.andThen, wEq, h1]
  · simp [run_underlying Tryz.underlying24, List.range', part, e, Result.andThen, wEq, h0]

/-- As the walk meets it. -/
theorem run_equalIn_wide (a0 a1 a2 a3 b0 b1 b2 b3 : Int) (w : World) :
    (Op.equalIn 10000 24 (.agg #[.int .u64 a0, .int .u64 a1, .int .u64 a2, .int .u64 a3]) (.agg #[.int .u64 b0, .int .u64 b1, .int .u64 b2, .int .u64 b3])).run Tryz.prog w = .ok (wEq a0 a1 a2 a3 b0 b1 b2 b3) w :=
  run_equalIn_wide' 9998 a0 a1 a2 a3 b0 b1 b2 b3 w

end Go.Proofs.YtiibeahgleaonaaGreat

namespace Go.Proofs.YtiibeahgleaonaaGreat
open Go.RowKit Go.Shelf
attribute [local go_sem] Oper.semAt_some

set_option maxRecDepth 100000 in
set_option maxHeartbeats 4000000 in
theorem down1_stops (F : Fence) (n : Nat) (h : F.fn 74) (hro : F.round = none) (hn : 1 ≤ n) {a0 a1 a2 a3 : Nat} (ha : Ok4 a0 a1 a2 a3) (B : Nat) (w : World) (hb : BlkW w B a0 a1 a2 a3) :
    SeqStopsK F n Tryz.prog 74 #[.pointer (some ⟨B, 0, none⟩)] pwEnc (KeepB B) (fun ys => ys = downs ha) (fun pre => pre <+: downs ha) 4 w := fun l J Jx W hW _ _ hY h0 => by
  have hb' : BlkW W B a0 a1 a2 a3 := hb.below hW hb.lt
  clear hb
  refine callsIn_of_wp Tryz.func74 rfl h ?_ hro
  simp only [Tryz.ntmps74, List.size_toArray, List.length_cons, List.length_nil, Nat.reduceAdd, Nat.reduceSub, Array.replicate_succ, Array.replicate_zero, List.push_toArray, List.append_toArray, List.nil_append, List.cons_append]
  gi_wp2
  gi_loopw [3] (fun i wr => ∃ k : Nat, k ≤ 4 ∧ i = .int .i64 (3 - (k : Int)) ∧ BlkW wr B a0 a1 a2 a3 ∧ J ((downs ha).take k) wr) (fun i _ => ((intOf i) + 1).toNat)
  case atStart => exact ⟨0, by omega, rfl, hb', h0⟩
  case round =>
    obtain ⟨k, hk, rfl, hbr, hJs⟩ := hrel
    obtain ⟨x0, x1, x2, x3⟩ := hbr.c4
    have hk' : k = 0 ∨ k = 1 ∨ k = 2 ∨ k = 3 ∨ k = 4 := by omega
    rcases hk' with rfl | rfl | rfl | rfl | rfl
    · obtain ⟨fn, tmps, assign, body, hy, hR⟩ := hY _ (pw 3 a3 (by omega) ha.h3) wr hJs (by simp [downs])
      change (Instr.yield l #[.int .i64 3, .int .u64 (a3 : Int)]).run _ _ = _ at hy
      gi_wp2
      refine hR.mono ?_
      rintro e W3 (⟨rfl, hJ3, hk3⟩ | ⟨rfl, hJx3⟩)
      · replace hbr : BlkW W3 B a0 a1 a2 a3 := hk3.trans hbr
        clear x0 x1 x2 x3
        gi_wp2
        go_roundw
        case rel => exact ⟨1, by omega, by simp, hbr, hJ3⟩
        case measure => simp [intOf]
      · gi_wp2
        refine bodyPost_ret (results_none rfl _ _ _) rfl ?_
        exact ⟨⟨_, rfl⟩, .inr ⟨(downs ha).take 1, List.take_prefix _ _, hJx3⟩⟩
    · obtain ⟨fn, tmps, assign, body, hy, hR⟩ := hY _ (pw 2 a2 (by omega) ha.h2) wr hJs (by simp [downs])
      change (Instr.yield l #[.int .i64 2, .int .u64 (a2 : Int)]).run _ _ = _ at hy
      gi_wp2
      refine hR.mono ?_
      rintro e W3 (⟨rfl, hJ3, hk3⟩ | ⟨rfl, hJx3⟩)
      · replace hbr : BlkW W3 B a0 a1 a2 a3 := hk3.trans hbr
        clear x0 x1 x2 x3
        gi_wp2
        go_roundw
        case rel => exact ⟨2, by omega, by simp, hbr, hJ3⟩
        case measure => simp [intOf]
      · gi_wp2
        refine bodyPost_ret (results_none rfl _ _ _) rfl ?_
        exact ⟨⟨_, rfl⟩, .inr ⟨(downs ha).take 2, List.take_prefix _ _, hJx3⟩⟩
    · obtain ⟨fn, tmps, assign, body, hy, hR⟩ := hY _ (pw 1 a1 (by omega) ha.h1) wr hJs (by simp [downs])
      change (Instr.yield l #[.int .i64 1, .int .u64 (a1 : Int)]).run _ _ = _ at hy
      gi_wp2
      refine hR.mono ?_
      rintro e W3 (⟨rfl, hJ3, hk3⟩ | ⟨rfl, hJx3⟩)
      · replace hbr : BlkW W3 B a0 a1 a2 a3 := hk3.trans hbr
        clear x0 x1 x2 x3
        gi_wp2
        go_roundw
        case rel => exact ⟨3, by omega, by simp, hbr, hJ3⟩
        case measure => simp [intOf]
      · gi_wp2
        refine bodyPost_ret (results_none rfl _ _ _) rfl ?_
        exact ⟨⟨_, rfl⟩, .inr ⟨(downs ha).take 3, List.take_prefix _ _, hJx3⟩⟩
    · obtain ⟨fn, tmps, assign, body, hy, hR⟩ := hY _ (pw 0 a0 (by omega) ha.h0) wr hJs (by simp [downs])
      change (Instr.yield l #[.int .i64 0, .int .u64 (a0 : Int)]).run _ _ = _ at hy
      gi_wp2
      refine hR.mono ?_
      rintro e W3 (⟨rfl, hJ3, hk3⟩ | ⟨rfl, hJx3⟩)
      · replace hbr : BlkW W3 B a0 a1 a2 a3 := hk3.trans hbr
        clear x0 x1 x2 x3
        gi_wp2
        go_roundw
        case rel => exact ⟨4, by omega, by simp, hbr, hJ3⟩
        case measure => simp [intOf]
      · gi_wp2
        refine bodyPost_ret (results_none rfl _ _ _) rfl ?_
        exact ⟨⟨_, rfl⟩, .inr ⟨(downs ha).take 4, List.take_prefix _ _, hJx3⟩⟩
    · gi_wp2
      go_end0
      exact ⟨⟨_, rfl⟩, .inl ⟨_, rfl, hJs⟩⟩

set_option maxHeartbeats 1000000 in
theorem down_in (F : Fence) (n : Nat) (h : F.fn 44) (hro : F.round = none) (a0 a1 a2 a3 : Nat) (w : World) :
    CallsIn F n Tryz.prog 44 #[wv a0 a1 a2 a3] w fun e w' => e = .returned (.func (.func 74) #[] #[.pointer (some ⟨w.heap.size, 0, none⟩)]) ∧ w' = w.alloc (.cells #[.int .u64 a0, .int .u64 a1, .int .u64 a2, .int .u64 a3] 24) := by
  refine callsIn_of_wp Tryz.func44 rfl h ?_ hro
  simp only [Tryz.ntmps44, List.size_toArray, List.length_cons, List.length_nil, Nat.reduceAdd, Nat.reduceSub, Array.replicate_succ, Array.replicate_zero, List.push_toArray, List.append_toArray, List.nil_append, List.cons_append]
  gi_wp2
  go_ret
  exact ⟨rfl, rfl⟩

end Go.Proofs.YtiibeahgleaonaaGreat

namespace Go.Proofs.YtiibeahgleaonaaGreat
open Go.RowKit Go.Shelf
attribute [local go_sem] Oper.semAt_some

set_option maxHeartbeats 1000000 in
theorem compare_any (x y : Nat) (w : World) : Calls Tryz.prog 45 #[.int .u64 (x : Int), .int .u64 (y : Int)] w fun e w' => e = .returned (.int .i64 (cmpN x y)) ∧ w' = w := by
  have hxx : ((x : Int) == (x : Int)) = true := by simp
  have hyy : ((y : Int) == (y : Int)) = true := by simp
  rcases Nat.lt_trichotomy x y with h | h | h
  · have h1 : (x : Int) < (y : Int) := by omega
    have HC : Hid (cmpN x y = -1) := Lib.hid (by unfold cmpN; rw [if_pos h])
    go_enter Tryz.func45, Tryz.ntmps45
    go_wp2
    go_ret
    exact ⟨by rw [HC.out]; rfl, rfl⟩
  · have h1 : ¬ (x : Int) < (y : Int) := by omega
    have h2 : ¬ (y : Int) < (x : Int) := by omega
    have HC : Hid (cmpN x y = 0) := Lib.hid (by unfold cmpN; rw [if_neg (by omega), if_neg (by omega)])
    clear h
    go_enter Tryz.func45, Tryz.ntmps45
    go_wp2
    go_ret
    exact ⟨by rw [HC.out]; rfl, rfl⟩
  · have h1 : ¬ (x : Int) < (y : Int) := by omega
    have h2 : (y : Int) < (x : Int) := by omega
    have HC : Hid (cmpN x y = 1) := Lib.hid (by unfold cmpN; rw [if_neg (by omega), if_pos h])
    go_enter Tryz.func45, Tryz.ntmps45
    go_wp2
    go_ret
    exact ⟨by rw [HC.out]; rfl, rfl⟩

/-- The first word that differs. -/
def fd (b : Nat → Nat) (pre : List PW) : Option PW := pre.find? fun p => decide (p.1.2 ≠ b p.1.1)
theorem fd_hit {b : Nat → Nat} {pre : List PW} {x : PW} (h : fd b pre = none) (hx : x.1.2 ≠ b x.1.1) : fd b (pre ++ [x]) = some x := by
  unfold fd at *; rw [List.find?_append, h]; simp [hx]
theorem fd_miss {b : Nat → Nat} {pre : List PW} {x : PW} (h : fd b pre = none) (hx : x.1.2 = b x.1.1) : fd b (pre ++ [x]) = none := by
  unfold fd at *; rw [List.find?_append, h]; simp [hx]
theorem fd_prefix {b : Nat → Nat} {pre ys : List PW} {p : PW} (h : fd b pre = some p) (hp : pre <+: ys) : fd b ys = some p := by
  obtain ⟨t, rfl⟩ := hp
  unfold fd at *; rw [List.find?_append, h]; rfl

theorem cmp_words {a0 a1 a2 a3 b0 b1 b2 b3 : Nat} (ha : Ok4 a0 a1 a2 a3) (hb : Ok4 b0 b1 b2 b3) :
    cmpN (val a0 a1 a2 a3) (val b0 b1 b2 b3) = if a3 ≠ b3 then cmpN a3 b3 else if a2 ≠ b2 then cmpN a2 b2 else if a1 ≠ b1 then cmpN a1 b1 else if a0 ≠ b0 then cmpN a0 b0 else 0 := by
  obtain ⟨h0, h1, h2, h3⟩ := ha
  obtain ⟨k0, k1, k2, k3⟩ := hb
  have less : ∀ {x y X Y : Nat}, x < M → y < M → X < Y → x + M * X < y + M * Y := fun {x y X Y} hx hy h => by
    have : M * (X + 1) ≤ M * Y := Nat.mul_le_mul_left _ h
    rw [Nat.mul_add] at this
    omega
  have step : ∀ {x y X Y : Nat}, x < M → y < M → cmpN (x + M * X) (y + M * Y) = if X ≠ Y then cmpN X Y else cmpN x y := fun {x y X Y} hx hy => by
    unfold cmpN
    rcases Nat.lt_trichotomy X Y with h | h | h
    · rw [if_pos (less hx hy h), if_pos (by omega), if_pos h]
    · subst h
      rw [if_neg (by omega : ¬ X ≠ X)]
      simp only [Nat.add_lt_add_iff_right]
    · have := less hy hx h
      rw [if_neg (by omega), if_pos this, if_pos (by omega), if_neg (by omega), if_pos h]
  unfold val
  rw [step h0 k0, step h1 k1, step h2 k2]
  by_cases e3 : a3 = b3
  · subst e3
    by_cases e2 : a2 = b2
    · subst e2
      by_cases e1 : a1 = b1
      · subst e1
        by_cases e0 : a0 = b0
        · subst e0; simp [cmpN]
        · simp [e0]
      · have : a1 + M * (a2 + M * a3) ≠ b1 + M * (a2 + M * a3) := by omega
        simp [e1]
    · have l1 : a2 + M * a3 ≠ b2 + M * a3 := by omega
      have l2 : a1 + M * (a2 + M * a3) ≠ b1 + M * (b2 + M * a3) := by
        rcases Nat.lt_trichotomy (a2 + M * a3) (b2 + M * a3) with h | h | h
        · have := less h1 k1 h; omega
        · exact absurd h l1
        · have := less k1 h1 h; omega
      simp [e2, l2]
  · have l1 : a2 + M * a3 ≠ b2 + M * b3 := by
      rcases Nat.lt_trichotomy a3 b3 with h | h | h
      · have := less h2 k2 h; omega
      · exact absurd h e3
      · have := less k2 h2 h; omega
    have l2 : a1 + M * (a2 + M * a3) ≠ b1 + M * (b2 + M * b3) := by
      rcases Nat.lt_trichotomy (a2 + M * a3) (b2 + M * b3) with h | h | h
      · have := less h1 k1 h; omega
      · exact absurd h l1
      · have := less k1 h1 h; omega
    simp [e3, l1, l2]

theorem fd_downs {a0 a1 a2 a3 b0 b1 b2 b3 : Nat} (ha : Ok4 a0 a1 a2 a3) (hb : Ok4 b0 b1 b2 b3) : ((fd (word b0 b1 b2 b3) (downs ha)).map fun p => cmpN p.1.2 (word b0 b1 b2 b3 p.1.1)).getD 0 = cmpN (val a0 a1 a2 a3) (val b0 b1 b2 b3) := by
  rw [cmp_words ha hb]
  by_cases h3 : a3 = b3
  · by_cases h2 : a2 = b2
    · by_cases h1 : a1 = b1
      · by_cases h0 : a0 = b0
        · simp [fd, downs, pw, word, List.find?, h0, h1, h2, h3]
        · simp [fd, downs, pw, word, List.find?, h0, h1, h2, h3]
      · simp [fd, downs, pw, word, List.find?, h1, h2, h3]
    · simp [fd, downs, pw, word, List.find?, h2, h3]
  · simp [fd, downs, pw, word, h3]

set_option maxRecDepth 100000 in
set_option maxHeartbeats 4000000 in
theorem cmp_in (n : Nat) (hn : 3 ≤ n) {a0 a1 a2 a3 b0 b1 b2 b3 : Nat} (ha : Ok4 a0 a1 a2 a3) (hb : Ok4 b0 b1 b2 b3) (w : World) :
    CallsIn Fence.wide n Tryz.prog 24 #[wv a0 a1 a2 a3, wv b0 b1 b2 b3] w fun e W' => e = .returned (.int .i64 (cmpN (val a0 a1 a2 a3) (val b0 b1 b2 b3))) ∧ Below w.heap.size w W' := by
  have h1 : 1 ≤ n := by omega
  refine callsIn_of_wp_marks Tryz.func24 rfl trivial ?_ rfl
  simp only [Tryz.ntmps24, List.size_toArray, List.length_cons, List.length_nil, Nat.reduceAdd, Nat.reduceSub, Array.replicate_succ, Array.replicate_zero, List.push_toArray, List.append_toArray, List.nil_append, List.cons_append]
  gi_wp2_with (refine ⟨trivial, ?_⟩; gi_at_call 44; refine (down_in Fence.wide (n - 1) trivial rfl _ _ _ _ _).mono ?_; rintro e w' ⟨rfl, rfl⟩)
  generalize hW5 : World.alloc _ _ = W5
  have k1 : Blk W5 (w.heap.size + 1) 24 (ws (word b0 b1 b2 b3)) := by rw [← hW5]; exact ((Blk.new' (by simp)).alloc _).alloc _
  have k2 : Blk W5 (w.heap.size + 1 + 1) 3 [.int .i64 0] := by rw [← hW5]; exact (Blk.new' (by simp)).alloc _
  have k5 : BlkW W5 (w.heap.size + 1 + 1 + 1) a0 a1 a2 a3 := by rw [← hW5]; exact Blk.new' (by simp)
  have hB0 : Below w.heap.size w W5 := by rw [← hW5]; exact chainA (chainA (chainA (chain0 _ _) _) _) _
  have hz : W5.heap.size = w.heap.size + 4 := by rw [← hW5]; simp
  clear hW5
  refine wpIn_rangeFunc_ownF (S := fun ys => ys = downs ha) rfl h1 (gf := 74) (lb := #[.pointer (some ⟨w.heap.size + 1 + 1 + 1, 0, none⟩)]) rfl trivial (enters_of Tryz.func74 (by kernel_rfl) rfl)
    (down1_stops Fence.wide (n - 1) trivial rfl (by omega) ha (w.heap.size + 1 + 1 + 1) W5 k5) KeepB.t (KeepB.b k5.lt) (Below.refl _ _) (fun _ => rfl)
    (fun pre W => (Blk W (w.heap.size + 1) 24 (ws (word b0 b1 b2 b3)) ∧ Blk W (w.heap.size + 1 + 1) 3 [.int .i64 0] ∧ fd (word b0 b1 b2 b3) pre = none) ∧ Below w.heap.size w W)
    (fun c pre W => (Blk W (w.heap.size + 1 + 1) 3 [.int .i64 (((fd (word b0 b1 b2 b3) pre).map fun p => cmpN p.1.2 (word b0 b1 b2 b3 p.1.1)).getD 0)] ∧ c = .ret ∧ ∃ p, fd (word b0 b1 b2 b3) pre = some p) ∧ Below w.heap.size w W)
    (OwnFrom.and (Own.from (fun s A B row hs hg hr => ⟨blk_own _ _ (fun _ => _) s A B row hs.1 hg hr, blk_own _ _ (fun _ => _) s A B row hs.2.1 hg hr, hs.2.2⟩) _) (ownFrom_below (Nat.le_refl _) (by omega)))
    (fun c => OwnFrom.and (Own.from (fun s A B row hs hg hr => ⟨blk_own _ _ (fun pre => [.int .i64 (((fd (word b0 b1 b2 b3) pre).map fun p => cmpN p.1.2 (word b0 b1 b2 b3 p.1.1)).getD 0)]) s A B row hs.1 hg hr, hs.2⟩) _) (ownFrom_below (Nat.le_refl _) (by omega)))
    ⟨⟨k1, k2, rfl⟩, hB0⟩
    (fun x => { tmps := #[wv a0 a1 a2 a3, wv b0 b1 b2 b3, .pointer (some ⟨w.heap.size, 0, none⟩), .pointer (some ⟨w.heap.size + 1, 0, none⟩), .pointer (some ⟨w.heap.size + 1 + 1, 0, none⟩), .int .i64 (x.1.1 : Int), .int .u64 (x.1.2 : Int), undef, wv a0 a1 a2 a3, .func (.func 74) #[] #[.pointer (some ⟨w.heap.size + 1 + 1 + 1, 0, none⟩)], .int .i64 (x.1.1 : Int), .int .u64 (x.1.2 : Int), undef, undef, undef, undef, undef, undef, undef, undef], defers := [] }) ?assign ?body ?done ?stop
  case assign =>
    intro l x W K hK
    gi_wp2
    exact hK
  case body =>
    rintro l pre ⟨⟨i, x⟩, hi, hx⟩ W ⟨⟨k1, k2, hf⟩, hB⟩ _
    dsimp only at hi hx
    have hf' := fun (e : x ≠ word b0 b1 b2 b3 i) => fd_hit (b := word b0 b1 b2 b3) (x := ⟨(i, x), hi, hx⟩) hf e
    have hg' := fun (e : x = word b0 b1 b2 b3 i) => fd_miss (b := word b0 b1 b2 b3) (x := ⟨(i, x), hi, hx⟩) hf e
    have HF := Lib.hid hf'
    have HG := Lib.hid hg'
    clear hf hf' hg'
    have hi' : (i : Int) < 4 := by omega
    have c1 := k1.cell i
    rw [ws_at _ hi] at c1
    have c2 : W.cell? ⟨w.heap.size + 1 + 1, 0, none⟩ = some (.int .i64 0) := k2.cell 0
    have f2 := k2.frozen 0
    have hne : cmpN x (word b0 b1 b2 b3 i) = 0 ↔ x = word b0 b1 b2 b3 i := by
      unfold cmpN
      split
      · omega
      · split <;> omega
    have HN := Lib.hid hne
    clear hne
    gi_wp2_with fail
    refine ⟨trivial, (fun _ => by omega), ?_⟩
    refine (CallsIn.inRound l (callsIn_wide.2 (compare_any _ _ _))).mono ?_
    rintro e w' ⟨rfl, rfl⟩
    generalize hcg : cmpN x (word b0 b1 b2 b3 i) = c at *
    have HC := Lib.hid hcg
    clear hcg
    by_cases hc0 : c = 0
    · have hcb : (c == 0) = true := by simp [hc0]
      have hxe := HN.out.1 hc0
      have HX := Lib.hid hxe
      clear hxe hc0
      gi_wp2
      exact ⟨KeepsOthers.refl _, KeepB.refl _ _, ⟨k1, k2, HG.out HX.out⟩, hB⟩
    · have hcb : (c == 0) = false := by simp [hc0]
      have hxe : x ≠ word b0 b1 b2 b3 i := fun e => hc0 (HN.out.2 e)
      have HX := Lib.hid hxe
      clear hxe hc0
      gi_wp2
      refine ⟨KeepsOthers.setCell _ _ _, ⟨?_, rfl, _, HF.out HX.out⟩, hB.setCell (p := ⟨w.heap.size + 1 + 1, 0, none⟩) (by simp; omega) _⟩
      rw [HF.out HX.out]
      have kk := k2.set 0 (.int .i64 c)
      rw [← HC.out] at kk ⊢
      exact kk
  case done =>
    rintro D ys W hD rfl ⟨⟨k1, k2, hf⟩, hB⟩ hK
    have c2 : W.cell? ⟨w.heap.size + 1 + 1, 0, none⟩ = some (.int .i64 0) := k2.cell 0
    have f2 := k2.frozen 0
    have hbits := fd_downs ha hb
    rw [hf] at hbits
    have HB := Lib.hid hbits
    have HF := Lib.hid hf
    clear hbits hf
    gi_wp2
    have hK' := (KeepsOthers.setCell W ⟨w.heap.size + 1 + 1, 0, none⟩ (.int .i64 0)).same D _ hK rfl
    have k2' := (k2.set 0 (.int .i64 0)).kept (grownBy_putObj' _ D (.deferred none)) (by intro e; cases e; omega)
    have r0 := k2'.cell 0
    simp only [List.set_cons_zero, List.getElem?_cons_zero] at r0
    have hB' := (hB.setCell (p := ⟨w.heap.size + 1 + 1, 0, none⟩) (by simp; omega) (.int .i64 0)).trans (belowK_b (w := w) (Nat.le_refl _) _ D _ (.deferred none) (by omega) hK' rfl rfl)
    refine ⟨by simp, .inl ⟨_, _, rfl, run_takeDeferred hK', ?_⟩⟩
    refine ⟨.int .i64 0, ?_, ?_⟩
    · simp [results, Tryz.f24, go_sem, r0]
    · exact ⟨by rw [← HB.out]; rfl, hB'⟩
  case stop =>
    rintro D c pre W hD hpre ⟨⟨k2, rfl, hp⟩, hB⟩ hK
    obtain ⟨p, hp⟩ := hp
    have hbits : ((fd (word b0 b1 b2 b3) pre).map fun p => cmpN p.1.2 (word b0 b1 b2 b3 p.1.1)).getD 0 = cmpN (val a0 a1 a2 a3) (val b0 b1 b2 b3) := by rw [hp, ← fd_prefix hp hpre]; exact fd_downs ha hb
    rw [hbits] at k2
    clear hbits hp
    gi_wp2
    have k2' := k2.kept (grownBy_putObj' _ D (.deferred none)) (by intro e; cases e; omega)
    have r0 := k2'.cell 0
    simp only [List.getElem?_cons_zero] at r0
    have hB' := hB.trans (belowK_b (w := w) (Nat.le_refl _) _ D _ (.deferred none) (by omega) hK rfl rfl)
    refine ⟨by simp, .inl ⟨_, _, rfl, run_takeDeferred hK, ?_⟩⟩
    refine ⟨.int .i64 (cmpN (val a0 a1 a2 a3) (val b0 b1 b2 b3)), ?_, ?_⟩
    · simp [results, Tryz.f24, go_sem, r0]
    · exact ⟨rfl, hB'⟩

theorem cmp_any {a0 a1 a2 a3 b0 b1 b2 b3 : Nat} (ha : Ok4 a0 a1 a2 a3) (hb : Ok4 b0 b1 b2 b3) (w : World) :
    Calls Tryz.prog 24 #[wv a0 a1 a2 a3, wv b0 b1 b2 b3] w fun e W' => e = .returned (.int .i64 (cmpN (val a0 a1 a2 a3) (val b0 b1 b2 b3))) ∧ Below w.heap.size w W' := callsIn_wide.1 (cmp_in 3 (by omega) ha hb w)
end Go.Proofs.YtiibeahgleaonaaGreat

namespace Go.Proofs.YtiibeahgleaonaaGreat
open Go.RowKit Go.Shelf

/-- An element of an array by value. -/
theorem wpList_indexTo {P : Program} {ops : Array Oper} {rest : List Oper} {o : Oper} {a : Act} {w : World} {Q : Exit → Act → World → Prop} (hg : o.guard = none) (t : TypeId) (x y : Operand) (ho : o.op = .index t x y)
    (d : Option Tmp) (hd : o.dst = d) (v : Value) (hf : (Instr.index t (a.eval x) (a.eval y)).run P w = .ok v w)
    (h : wpList P ops Q rest (a.put d v) w) : wpList P ops Q (o :: rest) a w := by
  subst hd
  refine wpList_plain hg fun K hK => ?_
  unfold Oper.wp execOp
  simp only [ho, Sem.run_bind, hf, Result.andThen_ok]
  exact hK _ _ h
end Go.Proofs.YtiibeahgleaonaaGreat

namespace Go.Proofs.YtiibeahgleaonaaGreat
open Go.RowKit Go.Shelf

theorem Blk.c7 {W : World} {B : Nat} {t : TypeId} {v0 v1 v2 v3 v4 v5 v6 : Value} (h : Blk W B t [v0, v1, v2, v3, v4, v5, v6]) :
    W.cell? ⟨B, 0, none⟩ = some v0 ∧ W.cell? ⟨B, 1, none⟩ = some v1 ∧ W.cell? ⟨B, 2, none⟩ = some v2 ∧ W.cell? ⟨B, 3, none⟩ = some v3 ∧ W.cell? ⟨B, 4, none⟩ = some v4 ∧ W.cell? ⟨B, 5, none⟩ = some v5 ∧ W.cell? ⟨B, 6, none⟩ = some v6 :=
  ⟨h.cell 0, h.cell 1, h.cell 2, h.cell 3, h.cell 4, h.cell 5, h.cell 6⟩
theorem Blk.c5 {W : World} {B : Nat} {t : TypeId} {v0 v1 v2 v3 v4 : Value} (h : Blk W B t [v0, v1, v2, v3, v4]) :
    W.cell? ⟨B, 0, none⟩ = some v0 ∧ W.cell? ⟨B, 1, none⟩ = some v1 ∧ W.cell? ⟨B, 2, none⟩ = some v2 ∧ W.cell? ⟨B, 3, none⟩ = some v3 ∧ W.cell? ⟨B, 4, none⟩ = some v4 :=
  ⟨h.cell 0, h.cell 1, h.cell 2, h.cell 3, h.cell 4⟩
theorem Blk.c6 {W : World} {B : Nat} {t : TypeId} {v0 v1 v2 v3 v4 v5 : Value} (h : Blk W B t [v0, v1, v2, v3, v4, v5]) :
    W.cell? ⟨B, 0, none⟩ = some v0 ∧ W.cell? ⟨B, 1, none⟩ = some v1 ∧ W.cell? ⟨B, 2, none⟩ = some v2 ∧ W.cell? ⟨B, 3, none⟩ = some v3 ∧ W.cell? ⟨B, 4, none⟩ = some v4 ∧ W.cell? ⟨B, 5, none⟩ = some v5 :=
  ⟨h.cell 0, h.cell 1, h.cell 2, h.cell 3, h.cell 4, h.cell 5⟩
theorem Blk.c9 {W : World} {B : Nat} {t : TypeId} {v0 v1 v2 v3 v4 v5 v6 v7 v8 : Value} (h : Blk W B t [v0, v1, v2, v3, v4, v5, v6, v7, v8]) :
    W.cell? ⟨B, 0, none⟩ = some v0 ∧ W.cell? ⟨B, 1, none⟩ = some v1 ∧ W.cell? ⟨B, 2, none⟩ = some v2 ∧ W.cell? ⟨B, 3, none⟩ = some v3 ∧ W.cell? ⟨B, 4, none⟩ = some v4 ∧ W.cell? ⟨B, 5, none⟩ = some v5 ∧ W.cell? ⟨B, 6, none⟩ = some v6 ∧ W.cell? ⟨B, 7, none⟩ = some v7 ∧ W.cell? ⟨B, 8, none⟩ = some v8 :=
  ⟨h.cell 0, h.cell 1, h.cell 2, h.cell 3, h.cell 4, h.cell 5, h.cell 6, h.cell 7, h.cell 8⟩
theorem Blk.c16 {W : World} {B : Nat} {t : TypeId} {v0 v1 v2 v3 v4 v5 v6 v7 v8 v9 v10 v11 v12 v13 v14 v15 : Value} (h : Blk W B t [v0, v1, v2, v3, v4, v5, v6, v7, v8, v9, v10, v11, v12, v13, v14, v15]) :
    W.cell? ⟨B, 0, none⟩ = some v0 ∧ W.cell? ⟨B, 1, none⟩ = some v1 ∧ W.cell? ⟨B, 2, none⟩ = some v2 ∧ W.cell? ⟨B, 3, none⟩ = some v3 ∧ W.cell? ⟨B, 4, none⟩ = some v4 ∧ W.cell? ⟨B, 5, none⟩ = some v5 ∧ W.cell? ⟨B, 6, none⟩ = some v6 ∧ W.cell? ⟨B, 7, none⟩ = some v7 ∧ W.cell? ⟨B, 8, none⟩ = some v8 ∧ W.cell? ⟨B, 9, none⟩ = some v9 ∧ W.cell? ⟨B, 10, none⟩ = some v10 ∧ W.cell? ⟨B, 11, none⟩ = some v11 ∧ W.cell? ⟨B, 12, none⟩ = some v12 ∧ W.cell? ⟨B, 13, none⟩ = some v13 ∧ W.cell? ⟨B, 14, none⟩ = some v14 ∧ W.cell? ⟨B, 15, none⟩ = some v15 :=
  ⟨h.cell 0, h.cell 1, h.cell 2, h.cell 3, h.cell 4, h.cell 5, h.cell 6, h.cell 7, h.cell 8, h.cell 9, h.cell 10, h.cell 11, h.cell 12, h.cell 13, h.cell 14, h.cell 15⟩
end Go.Proofs.YtiibeahgleaonaaGreat

namespace Go.Proofs.YtiibeahgleaonaaGreat

theorem wpAnyH_mono {P : Program} {ops : Array Oper} {Q : Exit → Act → World → Prop} {md : Region.Mode} {S S' : World → Prop} (h : ∀ w, S' w → S w) :
    ∀ (fuel : Nat) (listed : Array Bool) (a : Act) (w : World), wpAnyH P md ops Q S' fuel listed a w → wpAnyH P md ops Q S fuel listed a w
  | 0, _, _, _, H => H
  | fuel + 1, _, _, _, H => ⟨H.1, fun i hi => wpOp_mono (fun a' w' h' => ⟨h _ h'.1, wpAnyH_mono h fuel _ a' w' h'.2⟩) (H.2 i hi)⟩
end Go.Proofs.YtiibeahgleaonaaGreat

namespace Go.Proofs.YtiibeahgleaonaaGreat
open Go.RowKit Go.Shelf

/-- A number is where it may be. -/
def inB (n l m : Int) : Bool := decide (l ≤ n ∧ n ≤ m)
theorem within_any (n l m : Int) (w : World) :
    Calls Tryz.prog 21 #[.int .i64 n, .int .i64 l, .int .i64 m] w fun e W' => e = .returned (.bool (inB n l m)) ∧ w = W' := by
  by_cases h1 : l ≤ n
  · by_cases h2 : n ≤ m
    · rw [show inB n l m = true from decide_eq_true ⟨h1, h2⟩]
      go_enter Tryz.func21, Tryz.ntmps21
      go_wp2
      go_ret
      exact ⟨rfl, rfl⟩
    · rw [show inB n l m = false from decide_eq_false (by omega)]
      go_enter Tryz.func21, Tryz.ntmps21
      go_wp2
      go_ret
      exact ⟨rfl, rfl⟩
  · rw [show inB n l m = false from decide_eq_false (by omega)]
    go_enter Tryz.func21, Tryz.ntmps21
    go_wp2
    go_ret
    exact ⟨rfl, rfl⟩

/-- Rule k of six. -/
def bAt (b0 b1 b2 b3 b4 b5 : Bool) (k : Nat) : Bool := match k with | 0 => b0 | 1 => b1 | 2 => b2 | 3 => b3 | 4 => b4 | _ => b5
def judgeI (b0 b1 b2 b3 b4 b5 : Bool) : Int := if b0 = true ∧ b1 = true ∧ b2 = true ∧ b3 = true ∧ b4 = true ∧ b5 = true then 0 else 39
theorem judge_all {b0 b1 b2 b3 b4 b5 : Bool} (h : ∀ j, j < 6 → bAt b0 b1 b2 b3 b4 b5 j = true) : judgeI b0 b1 b2 b3 b4 b5 = 0 :=
  if_pos ⟨h 0 (by omega), h 1 (by omega), h 2 (by omega), h 3 (by omega), h 4 (by omega), h 5 (by omega)⟩
theorem judge_not {b0 b1 b2 b3 b4 b5 : Bool} {j : Nat} (hj : j < 6) (h : bAt b0 b1 b2 b3 b4 b5 j = false) : judgeI b0 b1 b2 b3 b4 b5 = 39 := by
  refine if_neg fun ⟨h0, h1, h2, h3, h4, h5⟩ => ?_
  match j, hj with
  | 0, _ => exact absurd (h0.symm.trans h) (by decide)
  | 1, _ => exact absurd (h1.symm.trans h) (by decide)
  | 2, _ => exact absurd (h2.symm.trans h) (by decide)
  | 3, _ => exact absurd (h3.symm.trans h) (by decide)
  | 4, _ => exact absurd (h4.symm.trans h) (by decide)
  | 5, _ => exact absurd (h5.symm.trans h) (by decide)
set_option maxRecDepth 100000 in
theorem idx_rules (b0 b1 b2 b3 b4 b5 : Bool) (w : World) {k : Nat} (hk : k < 6) :
    (Instr.index 52 (.agg #[.bool b0, .bool b1, .bool b2, .bool b3, .bool b4, .bool b5]) (.int .i64 k)).run Tryz.prog w = .ok (.bool (bAt b0 b1 b2 b3 b4 b5 k)) w := by
  have hs : ∀ j : Nat, (sizeOf 4).run Tryz.prog w = .ok 1 w := fun _ => by kernel_rfl
  obtain rfl | rfl | rfl | rfl | rfl | rfl : k = 0 ∨ k = 1 ∨ k = 2 ∨ k = 3 ∨ k = 4 ∨ k = 5 := by omega
  all_goals
    simp [Instr.index, run_underlying Tryz.underlying52, asIntOf, hs 0, go_sem, bAt]
set_option maxRecDepth 100000 in
set_option maxHeartbeats 1000000 in
theorem judge_any (b0 b1 b2 b3 b4 b5 : Bool) (w : World) :
    Calls Tryz.prog 20 #[.agg #[.bool b0, .bool b1, .bool b2, .bool b3, .bool b4, .bool b5]] w fun e W' => e = .returned (.int .i64 (judgeI b0 b1 b2 b3 b4 b5)) ∧ Below w.heap.size w W' := by
  have kB := Blk.new w 52 [.bool b0, .bool b1, .bool b2, .bool b3, .bool b4, .bool b5]
  have hB := chain0 w (.cells #[.bool b0, .bool b1, .bool b2, .bool b3, .bool b4, .bool b5] 52)
  obtain ⟨c0, c1, c2, c3, c4, c5⟩ := Blk.c6 kB
  have HJ : Hid (∀ (j : Nat), j < 6 → ∀ W, (Instr.index 52 (.agg #[.bool b0, .bool b1, .bool b2, .bool b3, .bool b4, .bool b5]) (.int .i64 j)).run Tryz.prog W = .ok (.bool (bAt b0 b1 b2 b3 b4 b5 j)) W) := Lib.hid fun j hj W => idx_rules b0 b1 b2 b3 b4 b5 W hj
  have HA1 := Lib.hid (fun h => judge_all (b0 := b0) (b1 := b1) (b2 := b2) (b3 := b3) (b4 := b4) (b5 := b5) h)
  have HA2 := Lib.hid (fun j hj h => judge_not (b0 := b0) (b1 := b1) (b2 := b2) (b3 := b3) (b4 := b4) (b5 := b5) (j := j) hj h)
  generalize bAt b0 b1 b2 b3 b4 b5 = f at *
  go_enter Tryz.func20, Tryz.ntmps20
  go_wp2_with fail
  clear c0 c1 c2 c3 c4 c5 kB
  go_loopw [6] (fun n wr => ∃ k : Nat, k ≤ 6 ∧ n = .int .i64 k ∧ (∀ j, j < k → f j = true) ∧ Below w.heap.size w wr) (fun n _ => 6 - (intOf n).toNat)
  case atStart => exact ⟨0, by omega, rfl, fun j hj => absurd hj (by omega), hB⟩
  case round =>
    clear hB
    obtain ⟨k, hk, rfl, hall, hB⟩ := hrel
    have HA := Lib.hid hall
    clear hall
    by_cases hlt : k < 6
    · have hlt' : (k : Int) < 6 := by omega
      have HI := Lib.hid (fun W => HJ.out k hlt W)
      by_cases hb : f k = true
      · have HN : Hid (∀ j, j < k + 1 → f j = true) := Lib.hid fun j hj => by
          by_cases hjk : j < k
          · exact HA.out j hjk
          · obtain rfl : j = k := by omega
            exact hb
        rw [hb] at HI
        clear hb HA
        go_wp2_with (refine wpList_indexTo rfl 52 (.tmp 5) (.tmp 6) rfl (some 8) rfl _ (HI.out _) ?_)
        go_roundw
        case rel => exact ⟨k + 1, by omega, by go_num, HN.out, hB⟩
        case measure => simp [intOf]; omega
      · replace hb : f k = false := by simpa using hb
        have HX := Lib.hid (HA2.out k hlt hb)
        rw [hb] at HI
        clear hb HA
        go_wp2_with (refine wpList_indexTo rfl 52 (.tmp 5) (.tmp 6) rfl (some 8) rfl _ (HI.out _) ?_)
        go_ret
        exact ⟨by rw [HX.out]; rfl, hB⟩
    · obtain rfl : k = 6 := by omega
      go_wp2
      go_ret
      exact ⟨by rw [HA1.out HA.out]; rfl, hB⟩

theorem errA_judge {a : Ak} {z : Bool} (hz : z = true ↔ zw a.a0 a.a1 a.a2 a.a3) :
    judgeI (inB a.us 0 1) (inB a.se 0 1) (inB a.re 0 1) (inB a.to 0 7) (!z) (inB a.id.size 1 16) = errA a := by
  unfold judgeI errA
  congr 1
  simp only [inB, decide_eq_true_eq, maybeA, Bool.not_eq_true', eq_iff_iff]
  have e : (z = false) ↔ ¬ zw a.a0 a.a1 a.a2 a.a3 := by rw [← hz]; simp
  rw [e]
  constructor
  · rintro ⟨h0, h1, h2, h3, h4, h5⟩
    exact ⟨h0, h1, h2, h3, h4, by omega, by omega⟩
  · rintro ⟨h0, h1, h2, h3, h4, h5, h6⟩
    exact ⟨h0, h1, h2, h3, h4, by omega, by omega⟩
theorem zw_eq (a0 a1 a2 a3 : Nat) : (wEq a0 a1 a2 a3 0 0 0 0 = true ↔ zw a0 a1 a2 a3) := by
  unfold wEq zw; rw [decide_eq_true_eq]; omega

set_option maxRecDepth 100000 in
set_option maxHeartbeats 2000000 in
theorem checkAsk_any (a : Ak) (w : World) :
    Calls Tryz.prog 6 #[akv a] w fun e W' => e = .returned (.int .i64 (errA a)) ∧ Below w.heap.size w W' := by
  have hmx : Tryz.prog.follows .mixedOrders = true := by kernel_rfl
  have HE := Lib.hid (errA_judge (a := a) (zw_eq a.a0 a.a1 a.a2 a.a3))
  have hweq := @run_equalIn_wide
  generalize hz : wEq (a.a0 : Nat) (a.a1 : Nat) (a.a2 : Nat) (a.a3 : Nat) 0 0 0 0 = z at *
  have kB := Blk.new w 26 (akc a)
  have hB := chain0 w (.cells (akc a).toArray 26)
  go_enter Tryz.func6, Tryz.ntmps6
  go_wp2_with fail
  refine wp_region_held_drew (S := fun W => Blk W w.heap.size 26 (akc a)) hmx kB ?_
  intro hS
  replace hB := hB.drew
  clear kB
  generalize World.drew _ = Y at *
  refine' wpAnyH_take (i := 0) (oi := _) (v := _) ?hi1 (by kernel_rfl) (by kernel_rfl) (by kernel_rfl) ?hQ1 (Or.inl ⟨?hw1, ?hy1⟩) hS ?rest1
  case hi1 => simp only [List.getElem?_toArray, List.getElem?_cons_zero]; rfl
  case hQ1 => exact fun _ _ _ h => h
  case hw1 => rfl
  case hy1 => intro W' hS'; go_simp; with_reducible rfl
  try simp only [Act.put, List.setIfInBounds_toArray, List.set_cons_zero, List.set_cons_succ]
  refine' wpAnyH_take (i := 1) (oi := _) (v := _) ?hi2 (by kernel_rfl) (by kernel_rfl) (by kernel_rfl) ?hQ2 (Or.inl ⟨?hw2, ?hy2⟩) hS ?rest2
  case hi2 => simp only [List.getElem?_toArray, List.getElem?_cons_succ, List.getElem?_cons_zero]; rfl
  case hQ2 => exact fun _ _ _ h => h
  case hw2 => rfl
  case hy2 => intro W' hS'; obtain ⟨c0, c1, c2, c3, c4, c5, c6, c7, c8⟩ := Blk.c9 hS'; go_simp; with_reducible rfl
  try simp only [Act.put, List.setIfInBounds_toArray, List.set_cons_zero, List.set_cons_succ]
  refine' wpAnyH_take (i := 3) (oi := _) (v := _) ?hi3 (by kernel_rfl) (by kernel_rfl) (by kernel_rfl) ?hQ3 (Or.inl ⟨?hw3, ?hy3⟩) hS ?rest3
  case hi3 => simp only [List.getElem?_toArray, List.getElem?_cons_succ, List.getElem?_cons_zero]; rfl
  case hQ3 => exact fun _ _ _ h => h
  case hw3 => rfl
  case hy3 => intro W' hS'; go_simp; with_reducible rfl
  try simp only [Act.put, List.setIfInBounds_toArray, List.set_cons_zero, List.set_cons_succ]
  refine' wpAnyH_take (i := 4) (oi := _) (v := _) ?hi4 (by kernel_rfl) (by kernel_rfl) (by kernel_rfl) ?hQ4 (Or.inl ⟨?hw4, ?hy4⟩) hS ?rest4
  case hi4 => simp only [List.getElem?_toArray, List.getElem?_cons_succ, List.getElem?_cons_zero]; rfl
  case hQ4 => exact fun _ _ _ h => h
  case hw4 => rfl
  case hy4 => intro W' hS'; obtain ⟨c0, c1, c2, c3, c4, c5, c6, c7, c8⟩ := Blk.c9 hS'; go_simp; with_reducible rfl
  try simp only [Act.put, List.setIfInBounds_toArray, List.set_cons_zero, List.set_cons_succ]
  refine' wpAnyH_take (i := 6) (oi := _) (v := _) ?hi5 (by kernel_rfl) (by kernel_rfl) (by kernel_rfl) ?hQ5 (Or.inl ⟨?hw5, ?hy5⟩) hS ?rest5
  case hi5 => simp only [List.getElem?_toArray, List.getElem?_cons_succ, List.getElem?_cons_zero]; rfl
  case hQ5 => exact fun _ _ _ h => h
  case hw5 => rfl
  case hy5 => intro W' hS'; go_simp; with_reducible rfl
  try simp only [Act.put, List.setIfInBounds_toArray, List.set_cons_zero, List.set_cons_succ]
  refine' wpAnyH_take (i := 7) (oi := _) (v := _) ?hi6 (by kernel_rfl) (by kernel_rfl) (by kernel_rfl) ?hQ6 (Or.inl ⟨?hw6, ?hy6⟩) hS ?rest6
  case hi6 => simp only [List.getElem?_toArray, List.getElem?_cons_succ, List.getElem?_cons_zero]; rfl
  case hQ6 => exact fun _ _ _ h => h
  case hw6 => rfl
  case hy6 => intro W' hS'; obtain ⟨c0, c1, c2, c3, c4, c5, c6, c7, c8⟩ := Blk.c9 hS'; go_simp; with_reducible rfl
  try simp only [Act.put, List.setIfInBounds_toArray, List.set_cons_zero, List.set_cons_succ]
  refine' wpAnyH_take (i := 9) (oi := _) (v := _) ?hi7 (by kernel_rfl) (by kernel_rfl) (by kernel_rfl) ?hQ7 (Or.inl ⟨?hw7, ?hy7⟩) hS ?rest7
  case hi7 => simp only [List.getElem?_toArray, List.getElem?_cons_succ, List.getElem?_cons_zero]; rfl
  case hQ7 => exact fun _ _ _ h => h
  case hw7 => rfl
  case hy7 => intro W' hS'; go_simp; with_reducible rfl
  try simp only [Act.put, List.setIfInBounds_toArray, List.set_cons_zero, List.set_cons_succ]
  refine' wpAnyH_take (i := 10) (oi := _) (v := _) ?hi8 (by kernel_rfl) (by kernel_rfl) (by kernel_rfl) ?hQ8 (Or.inl ⟨?hw8, ?hy8⟩) hS ?rest8
  case hi8 => simp only [List.getElem?_toArray, List.getElem?_cons_succ, List.getElem?_cons_zero]; rfl
  case hQ8 => exact fun _ _ _ h => h
  case hw8 => rfl
  case hy8 => intro W' hS'; obtain ⟨c0, c1, c2, c3, c4, c5, c6, c7, c8⟩ := Blk.c9 hS'; go_simp; with_reducible rfl
  try simp only [Act.put, List.setIfInBounds_toArray, List.set_cons_zero, List.set_cons_succ]
  refine' wpAnyH_take (i := 12) (oi := _) (v := _) ?hi9 (by kernel_rfl) (by kernel_rfl) (by kernel_rfl) ?hQ9 (Or.inl ⟨?hw9, ?hy9⟩) hS ?rest9
  case hi9 => simp only [List.getElem?_toArray, List.getElem?_cons_succ, List.getElem?_cons_zero]; rfl
  case hQ9 => exact fun _ _ _ h => h
  case hw9 => rfl
  case hy9 => intro W' hS'; go_simp; with_reducible rfl
  try simp only [Act.put, List.setIfInBounds_toArray, List.set_cons_zero, List.set_cons_succ]
  refine' wpAnyH_take (i := 13) (oi := _) (v := _) ?hi10 (by kernel_rfl) (by kernel_rfl) (by kernel_rfl) ?hQ10 (Or.inl ⟨?hw10, ?hy10⟩) hS ?rest10
  case hi10 => simp only [List.getElem?_toArray, List.getElem?_cons_succ, List.getElem?_cons_zero]; rfl
  case hQ10 => exact fun _ _ _ h => h
  case hw10 => rfl
  case hy10 => intro W' hS'; obtain ⟨c0, c1, c2, c3, c4, c5, c6, c7, c8⟩ := Blk.c9 hS'; go_simp; with_reducible rfl
  try simp only [Act.put, List.setIfInBounds_toArray, List.set_cons_zero, List.set_cons_succ]
  refine' wpAnyH_take (i := 14) (oi := _) (v := _) ?hi11 (by kernel_rfl) (by kernel_rfl) (by kernel_rfl) ?hQ11 (Or.inl ⟨?hw11, ?hy11⟩) hS ?rest11
  case hi11 => simp only [List.getElem?_toArray, List.getElem?_cons_succ, List.getElem?_cons_zero]; rfl
  case hQ11 => exact fun _ _ _ h => h
  case hw11 => rfl
  case hy11 => intro W' hS'; go_simp; with_reducible rfl
  try simp only [Act.put, List.setIfInBounds_toArray, List.set_cons_zero, List.set_cons_succ]
  refine' wpAnyH_take (i := 15) (oi := _) (v := _) ?hi12 (by kernel_rfl) (by kernel_rfl) (by kernel_rfl) ?hQ12 (Or.inl ⟨?hw12, ?hy12⟩) hS ?rest12
  case hi12 => simp only [List.getElem?_toArray, List.getElem?_cons_succ, List.getElem?_cons_zero]; rfl
  case hQ12 => exact fun _ _ _ h => h
  case hw12 => rfl
  case hy12 => intro W' hS'; go_simp; with_reducible rfl
  try simp only [Act.put, List.setIfInBounds_toArray, List.set_cons_zero, List.set_cons_succ]
  refine' wpAnyH_take (i := 16) (oi := _) (v := _) ?hi13 (by kernel_rfl) (by kernel_rfl) (by kernel_rfl) ?hQ13 (Or.inl ⟨?hw13, ?hy13⟩) hS ?rest13
  case hi13 => simp only [List.getElem?_toArray, List.getElem?_cons_succ, List.getElem?_cons_zero]; rfl
  case hQ13 => exact fun _ _ _ h => h
  case hw13 => rfl
  case hy13 => intro W' hS'; go_simp; with_reducible rfl
  try simp only [Act.put, List.setIfInBounds_toArray, List.set_cons_zero, List.set_cons_succ]
  refine' wpAnyH_take (i := 17) (oi := _) (v := _) ?hi14 (by kernel_rfl) (by kernel_rfl) (by kernel_rfl) ?hQ14 (Or.inl ⟨?hw14, ?hy14⟩) hS ?rest14
  case hi14 => simp only [List.getElem?_toArray, List.getElem?_cons_succ, List.getElem?_cons_zero]; rfl
  case hQ14 => exact fun _ _ _ h => h
  case hw14 => rfl
  case hy14 => intro W' hS'; obtain ⟨c0, c1, c2, c3, c4, c5, c6, c7, c8⟩ := Blk.c9 hS'; go_simp; with_reducible rfl
  try simp only [Act.put, List.setIfInBounds_toArray, List.set_cons_zero, List.set_cons_succ]
  refine' wpAnyH_take (i := 18) (oi := _) (v := _) ?hi15 (by kernel_rfl) (by kernel_rfl) (by kernel_rfl) ?hQ15 (Or.inl ⟨?hw15, ?hy15⟩) hS ?rest15
  case hi15 => simp only [List.getElem?_toArray, List.getElem?_cons_succ, List.getElem?_cons_zero]; rfl
  case hQ15 => exact fun _ _ _ h => h
  case hw15 => rfl
  case hy15 => intro W' hS'; go_simp; with_reducible rfl
  try simp only [Act.put, List.setIfInBounds_toArray, List.set_cons_zero, List.set_cons_succ]
  refine wpAnyH_ready (rs := [2]) (by kernel_rfl) (by simp) ?_
  refine' AllReadyH.cons (o := _) ?ho16 (fun K hK => ?st16) AllReadyH.nil
  case ho16 => simp only [List.getElem?_toArray, List.getElem?_cons_succ, List.getElem?_cons_zero]; rfl
  case st16 =>
    go_simp
    refine (within_any a.us 0 1 _).mono ?_
    rintro e Y1 ⟨rfl, rfl⟩
    refine hK.out _ _ hS (fun hS => ?_)
    clear hK K
    try simp only [Act.put, List.setIfInBounds_toArray, List.set_cons_zero, List.set_cons_succ]
    refine wpAnyH_ready (rs := [5]) (by kernel_rfl) (by simp) ?_
    refine' AllReadyH.cons (o := _) ?ho17 (fun K hK => ?st17) AllReadyH.nil
    case ho17 => simp only [List.getElem?_toArray, List.getElem?_cons_succ, List.getElem?_cons_zero]; rfl
    case st17 =>
      go_simp
      refine (within_any a.se 0 1 _).mono ?_
      rintro e Y1 ⟨rfl, rfl⟩
      refine hK.out _ _ hS (fun hS => ?_)
      clear hK K
      try simp only [Act.put, List.setIfInBounds_toArray, List.set_cons_zero, List.set_cons_succ]
      refine wpAnyH_ready (rs := [8]) (by kernel_rfl) (by simp) ?_
      refine' AllReadyH.cons (o := _) ?ho18 (fun K hK => ?st18) AllReadyH.nil
      case ho18 => simp only [List.getElem?_toArray, List.getElem?_cons_succ, List.getElem?_cons_zero]; rfl
      case st18 =>
        go_simp
        refine (within_any a.re 0 1 _).mono ?_
        rintro e Y1 ⟨rfl, rfl⟩
        refine hK.out _ _ hS (fun hS => ?_)
        clear hK K
        try simp only [Act.put, List.setIfInBounds_toArray, List.set_cons_zero, List.set_cons_succ]
        refine wpAnyH_ready (rs := [11]) (by kernel_rfl) (by simp) ?_
        refine' AllReadyH.cons (o := _) ?ho19 (fun K hK => ?st19) AllReadyH.nil
        case ho19 => simp only [List.getElem?_toArray, List.getElem?_cons_succ, List.getElem?_cons_zero]; rfl
        case st19 =>
          go_simp
          refine (within_any a.to 0 7 _).mono ?_
          rintro e Y1 ⟨rfl, rfl⟩
          refine hK.out _ _ hS (fun hS => ?_)
          clear hK K
          try simp only [Act.put, List.setIfInBounds_toArray, List.set_cons_zero, List.set_cons_succ]
          refine wpAnyH_ready (rs := [19]) (by kernel_rfl) (by simp) ?_
          refine' AllReadyH.cons (o := _) ?ho20 (fun K hK => ?st20) AllReadyH.nil
          case ho20 => simp only [List.getElem?_toArray, List.getElem?_cons_succ, List.getElem?_cons_zero]; rfl
          case st20 =>
            go_simp
            refine (within_any a.id.size 1 16 _).mono ?_
            rintro e Y1 ⟨rfl, rfl⟩
            refine hK.out _ _ hS (fun hS => ?_)
            clear hK K
            try simp only [Act.put, List.setIfInBounds_toArray, List.set_cons_zero, List.set_cons_succ]
            refine' wpAnyH_take (i := 20) (oi := _) (v := _) ?hi21 (by kernel_rfl) (by kernel_rfl) (by kernel_rfl) ?hQ21 (Or.inl ⟨?hw21, ?hy21⟩) hS ?rest21
            case hi21 => simp only [List.getElem?_toArray, List.getElem?_cons_succ, List.getElem?_cons_zero]; rfl
            case hQ21 => exact fun _ _ _ h => h
            case hw21 => rfl
            case hy21 => intro W' hS'; go_simp; with_reducible rfl
            try simp only [Act.put, List.setIfInBounds_toArray, List.set_cons_zero, List.set_cons_succ]
            refine wpAnyH_ready (rs := [21]) (by kernel_rfl) (by simp) ?_
            refine' AllReadyH.cons (o := _) ?ho22 (fun K hK => ?st22) AllReadyH.nil
            case ho22 => simp only [List.getElem?_toArray, List.getElem?_cons_succ, List.getElem?_cons_zero]; rfl
            case st22 =>
              go_simp
              refine (judge_any _ _ _ _ _ _ _).mono ?_
              rintro e Y1 ⟨rfl, hb⟩
              refine hK.out _ _ (hS.below hb hS.lt) (fun hS => ?_)
              clear hK K
              try simp only [Act.put, List.setIfInBounds_toArray, List.set_cons_zero, List.set_cons_succ]
              replace hB := chain hB hb
              clear hb
              refine' wpAnyH_take (i := 22) (oi := _) (v := _) ?hi23 (by kernel_rfl) (by kernel_rfl) (by kernel_rfl) ?hQ23 (Or.inl ⟨?hw23, ?hy23⟩) hS ?rest23
              case hi23 => simp only [List.getElem?_toArray, List.getElem?_cons_succ, List.getElem?_cons_zero]; rfl
              case hQ23 => exact fun _ _ _ h => h
              case hw23 => rfl
              case hy23 => intro W' hS'; go_simp; with_reducible rfl
              try simp only [Act.put, List.setIfInBounds_toArray, List.set_cons_zero, List.set_cons_succ]
              refine wpAnyH_done (by kernel_rfl) ?_ _
              go_wp2_with fail
              go_ret
              exact ⟨by rw [HE.out]; rfl, hB⟩

theorem errB_judge {b : Bd} {z : Bool} (hz : z = true ↔ zw b.b0 b.b1 b.b2 b.b3) :
    judgeI (inB b.ro 2 3) (errA b.k == 0) (!z) (decide (cmpN (val b.b0 b.b1 b.b2 b.b3) (val b.k.a0 b.k.a1 b.k.a2 b.k.a3) ≤ 0)) (inB b.un 0 1099511627776) (decide ((b.sg.size : Int) ≤ 1024)) = errB b := by
  unfold judgeI errB
  congr 1
  have e : (z = false) ↔ ¬ zw b.b0 b.b1 b.b2 b.b3 := by rw [← hz]; simp
  have e2 : cmpN (val b.b0 b.b1 b.b2 b.b3) (val b.k.a0 b.k.a1 b.k.a2 b.k.a3) ≤ 0 ↔ val b.b0 b.b1 b.b2 b.b3 ≤ val b.k.a0 b.k.a1 b.k.a2 b.k.a3 := by
    unfold cmpN; split
    · omega
    · split <;> omega
  have e3 : (errA b.k == 0) = true ↔ maybeA b.k := by
    unfold errA; split <;> simp_all
  simp only [inB, decide_eq_true_eq, maybeB, Bool.not_eq_true', eq_iff_iff, e, e2, e3]
  constructor
  · rintro ⟨h0, h1, h2, h3, h4, h5⟩
    exact ⟨h0, h1, h2, h3, h4, by omega⟩
  · rintro ⟨h0, h1, h2, h3, h4, h5⟩
    exact ⟨h0, h1, h2, h3, h4, by omega⟩

set_option maxRecDepth 100000 in
set_option maxHeartbeats 4000000 in
theorem check_any (b : Bd) (hb4 : OkB b) (w : World) :
    Calls Tryz.prog 8 #[bdv b] w fun e W' => e = .returned (.int .i64 (errB b)) ∧ Below w.heap.size w W' := by
  have hmx : Tryz.prog.follows .mixedOrders = true := by kernel_rfl
  have HE := Lib.hid (errB_judge (b := b) (zw_eq b.b0 b.b1 b.b2 b.b3))
  have HC := Lib.hid (checkAsk_any b.k)
  have HV := Lib.hid (fun W => cmp_any hb4.b hb4.k W)
  have hweq := @run_equalIn_wide
  generalize hz : wEq (b.b0 : Nat) (b.b1 : Nat) (b.b2 : Nat) (b.b3 : Nat) 0 0 0 0 = z at *
  generalize errA b.k = ea at *
  generalize cmpN _ _ = cn at *
  have kB := Blk.new w 28 (bdc b)
  have hB := chain0 w (.cells (bdc b).toArray 28)
  go_enter Tryz.func8, Tryz.ntmps8
  go_wp2_with fail
  refine wp_region_held_drew (S := fun W => Blk W w.heap.size 28 (bdc b)) hmx kB ?_
  intro hS
  replace hB := hB.drew
  clear kB
  generalize World.drew _ = Y at *
  refine' wpAnyH_take (i := 0) (oi := _) (v := _) ?hi24 (by kernel_rfl) (by kernel_rfl) (by kernel_rfl) ?hQ24 (Or.inl ⟨?hw24, ?hy24⟩) hS ?rest24
  case hi24 => simp only [List.getElem?_toArray, List.getElem?_cons_zero]; rfl
  case hQ24 => exact fun _ _ _ h => h
  case hw24 => rfl
  case hy24 => intro W' hS'; go_simp; with_reducible rfl
  try simp only [Act.put, List.setIfInBounds_toArray, List.set_cons_zero, List.set_cons_succ]
  refine' wpAnyH_take (i := 1) (oi := _) (v := _) ?hi25 (by kernel_rfl) (by kernel_rfl) (by kernel_rfl) ?hQ25 (Or.inl ⟨?hw25, ?hy25⟩) hS ?rest25
  case hi25 => simp only [List.getElem?_toArray, List.getElem?_cons_succ, List.getElem?_cons_zero]; rfl
  case hQ25 => exact fun _ _ _ h => h
  case hw25 => rfl
  case hy25 => intro W' hS'; obtain ⟨c0, c1, c2, c3, c4, c5, c6, c7, c8, c9, c10, c11, c12, c13, c14, c15⟩ := Blk.c16 hS'; go_simp; with_reducible rfl
  try simp only [Act.put, List.setIfInBounds_toArray, List.set_cons_zero, List.set_cons_succ]
  refine' wpAnyH_take (i := 3) (oi := _) (v := _) ?hi26 (by kernel_rfl) (by kernel_rfl) (by kernel_rfl) ?hQ26 (Or.inl ⟨?hw26, ?hy26⟩) hS ?rest26
  case hi26 => simp only [List.getElem?_toArray, List.getElem?_cons_succ, List.getElem?_cons_zero]; rfl
  case hQ26 => exact fun _ _ _ h => h
  case hw26 => rfl
  case hy26 => intro W' hS'; go_simp; with_reducible rfl
  try simp only [Act.put, List.setIfInBounds_toArray, List.set_cons_zero, List.set_cons_succ]
  refine' wpAnyH_take (i := 4) (oi := _) (v := _) ?hi27 (by kernel_rfl) (by kernel_rfl) (by kernel_rfl) ?hQ27 (Or.inl ⟨?hw27, ?hy27⟩) hS ?rest27
  case hi27 => simp only [List.getElem?_toArray, List.getElem?_cons_succ, List.getElem?_cons_zero]; rfl
  case hQ27 => exact fun _ _ _ h => h
  case hw27 => rfl
  case hy27 => intro W' hS'; obtain ⟨c0, c1, c2, c3, c4, c5, c6, c7, c8, c9, c10, c11, c12, c13, c14, c15⟩ := Blk.c16 hS'; go_simp; with_reducible rfl
  try simp only [Act.put, List.setIfInBounds_toArray, List.set_cons_zero, List.set_cons_succ]
  refine' wpAnyH_take (i := 7) (oi := _) (v := _) ?hi28 (by kernel_rfl) (by kernel_rfl) (by kernel_rfl) ?hQ28 (Or.inl ⟨?hw28, ?hy28⟩) hS ?rest28
  case hi28 => simp only [List.getElem?_toArray, List.getElem?_cons_succ, List.getElem?_cons_zero]; rfl
  case hQ28 => exact fun _ _ _ h => h
  case hw28 => rfl
  case hy28 => intro W' hS'; go_simp; with_reducible rfl
  try simp only [Act.put, List.setIfInBounds_toArray, List.set_cons_zero, List.set_cons_succ]
  refine' wpAnyH_take (i := 8) (oi := _) (v := _) ?hi29 (by kernel_rfl) (by kernel_rfl) (by kernel_rfl) ?hQ29 (Or.inl ⟨?hw29, ?hy29⟩) hS ?rest29
  case hi29 => simp only [List.getElem?_toArray, List.getElem?_cons_succ, List.getElem?_cons_zero]; rfl
  case hQ29 => exact fun _ _ _ h => h
  case hw29 => rfl
  case hy29 => intro W' hS'; obtain ⟨c0, c1, c2, c3, c4, c5, c6, c7, c8, c9, c10, c11, c12, c13, c14, c15⟩ := Blk.c16 hS'; go_simp; with_reducible rfl
  try simp only [Act.put, List.setIfInBounds_toArray, List.set_cons_zero, List.set_cons_succ]
  refine' wpAnyH_take (i := 9) (oi := _) (v := _) ?hi30 (by kernel_rfl) (by kernel_rfl) (by kernel_rfl) ?hQ30 (Or.inl ⟨?hw30, ?hy30⟩) hS ?rest30
  case hi30 => simp only [List.getElem?_toArray, List.getElem?_cons_succ, List.getElem?_cons_zero]; rfl
  case hQ30 => exact fun _ _ _ h => h
  case hw30 => rfl
  case hy30 => intro W' hS'; go_simp; with_reducible rfl
  try simp only [Act.put, List.setIfInBounds_toArray, List.set_cons_zero, List.set_cons_succ]
  refine' wpAnyH_take (i := 10) (oi := _) (v := _) ?hi31 (by kernel_rfl) (by kernel_rfl) (by kernel_rfl) ?hQ31 (Or.inl ⟨?hw31, ?hy31⟩) hS ?rest31
  case hi31 => simp only [List.getElem?_toArray, List.getElem?_cons_succ, List.getElem?_cons_zero]; rfl
  case hQ31 => exact fun _ _ _ h => h
  case hw31 => rfl
  case hy31 => intro W' hS'; go_simp; with_reducible rfl
  try simp only [Act.put, List.setIfInBounds_toArray, List.set_cons_zero, List.set_cons_succ]
  refine' wpAnyH_take (i := 11) (oi := _) (v := _) ?hi32 (by kernel_rfl) (by kernel_rfl) (by kernel_rfl) ?hQ32 (Or.inl ⟨?hw32, ?hy32⟩) hS ?rest32
  case hi32 => simp only [List.getElem?_toArray, List.getElem?_cons_succ, List.getElem?_cons_zero]; rfl
  case hQ32 => exact fun _ _ _ h => h
  case hw32 => rfl
  case hy32 => intro W' hS'; go_simp; with_reducible rfl
  try simp only [Act.put, List.setIfInBounds_toArray, List.set_cons_zero, List.set_cons_succ]
  refine' wpAnyH_take (i := 12) (oi := _) (v := _) ?hi33 (by kernel_rfl) (by kernel_rfl) (by kernel_rfl) ?hQ33 (Or.inl ⟨?hw33, ?hy33⟩) hS ?rest33
  case hi33 => simp only [List.getElem?_toArray, List.getElem?_cons_succ, List.getElem?_cons_zero]; rfl
  case hQ33 => exact fun _ _ _ h => h
  case hw33 => rfl
  case hy33 => intro W' hS'; obtain ⟨c0, c1, c2, c3, c4, c5, c6, c7, c8, c9, c10, c11, c12, c13, c14, c15⟩ := Blk.c16 hS'; go_simp; with_reducible rfl
  try simp only [Act.put, List.setIfInBounds_toArray, List.set_cons_zero, List.set_cons_succ]
  refine' wpAnyH_take (i := 13) (oi := _) (v := _) ?hi34 (by kernel_rfl) (by kernel_rfl) (by kernel_rfl) ?hQ34 (Or.inl ⟨?hw34, ?hy34⟩) hS ?rest34
  case hi34 => simp only [List.getElem?_toArray, List.getElem?_cons_succ, List.getElem?_cons_zero]; rfl
  case hQ34 => exact fun _ _ _ h => h
  case hw34 => rfl
  case hy34 => intro W' hS'; go_simp; with_reducible rfl
  try simp only [Act.put, List.setIfInBounds_toArray, List.set_cons_zero, List.set_cons_succ]
  refine' wpAnyH_take (i := 14) (oi := _) (v := _) ?hi35 (by kernel_rfl) (by kernel_rfl) (by kernel_rfl) ?hQ35 (Or.inl ⟨?hw35, ?hy35⟩) hS ?rest35
  case hi35 => simp only [List.getElem?_toArray, List.getElem?_cons_succ, List.getElem?_cons_zero]; rfl
  case hQ35 => exact fun _ _ _ h => h
  case hw35 => rfl
  case hy35 => intro W' hS'; go_simp; with_reducible rfl
  try simp only [Act.put, List.setIfInBounds_toArray, List.set_cons_zero, List.set_cons_succ]
  refine' wpAnyH_take (i := 15) (oi := _) (v := _) ?hi36 (by kernel_rfl) (by kernel_rfl) (by kernel_rfl) ?hQ36 (Or.inl ⟨?hw36, ?hy36⟩) hS ?rest36
  case hi36 => simp only [List.getElem?_toArray, List.getElem?_cons_succ, List.getElem?_cons_zero]; rfl
  case hQ36 => exact fun _ _ _ h => h
  case hw36 => rfl
  case hy36 => intro W' hS'; obtain ⟨c0, c1, c2, c3, c4, c5, c6, c7, c8, c9, c10, c11, c12, c13, c14, c15⟩ := Blk.c16 hS'; go_simp; with_reducible rfl
  try simp only [Act.put, List.setIfInBounds_toArray, List.set_cons_zero, List.set_cons_succ]
  refine' wpAnyH_take (i := 18) (oi := _) (v := _) ?hi37 (by kernel_rfl) (by kernel_rfl) (by kernel_rfl) ?hQ37 (Or.inl ⟨?hw37, ?hy37⟩) hS ?rest37
  case hi37 => simp only [List.getElem?_toArray, List.getElem?_cons_succ, List.getElem?_cons_zero]; rfl
  case hQ37 => exact fun _ _ _ h => h
  case hw37 => rfl
  case hy37 => intro W' hS'; go_simp; with_reducible rfl
  try simp only [Act.put, List.setIfInBounds_toArray, List.set_cons_zero, List.set_cons_succ]
  refine' wpAnyH_take (i := 19) (oi := _) (v := _) ?hi38 (by kernel_rfl) (by kernel_rfl) (by kernel_rfl) ?hQ38 (Or.inl ⟨?hw38, ?hy38⟩) hS ?rest38
  case hi38 => simp only [List.getElem?_toArray, List.getElem?_cons_succ, List.getElem?_cons_zero]; rfl
  case hQ38 => exact fun _ _ _ h => h
  case hw38 => rfl
  case hy38 => intro W' hS'; obtain ⟨c0, c1, c2, c3, c4, c5, c6, c7, c8, c9, c10, c11, c12, c13, c14, c15⟩ := Blk.c16 hS'; go_simp; with_reducible rfl
  try simp only [Act.put, List.setIfInBounds_toArray, List.set_cons_zero, List.set_cons_succ]
  refine' wpAnyH_take (i := 21) (oi := _) (v := _) ?hi39 (by kernel_rfl) (by kernel_rfl) (by kernel_rfl) ?hQ39 (Or.inl ⟨?hw39, ?hy39⟩) hS ?rest39
  case hi39 => simp only [List.getElem?_toArray, List.getElem?_cons_succ, List.getElem?_cons_zero]; rfl
  case hQ39 => exact fun _ _ _ h => h
  case hw39 => rfl
  case hy39 => intro W' hS'; go_simp; with_reducible rfl
  try simp only [Act.put, List.setIfInBounds_toArray, List.set_cons_zero, List.set_cons_succ]
  refine' wpAnyH_take (i := 22) (oi := _) (v := _) ?hi40 (by kernel_rfl) (by kernel_rfl) (by kernel_rfl) ?hQ40 (Or.inl ⟨?hw40, ?hy40⟩) hS ?rest40
  case hi40 => simp only [List.getElem?_toArray, List.getElem?_cons_succ, List.getElem?_cons_zero]; rfl
  case hQ40 => exact fun _ _ _ h => h
  case hw40 => rfl
  case hy40 => intro W' hS'; obtain ⟨c0, c1, c2, c3, c4, c5, c6, c7, c8, c9, c10, c11, c12, c13, c14, c15⟩ := Blk.c16 hS'; go_simp; with_reducible rfl
  try simp only [Act.put, List.setIfInBounds_toArray, List.set_cons_zero, List.set_cons_succ]
  refine' wpAnyH_take (i := 23) (oi := _) (v := _) ?hi41 (by kernel_rfl) (by kernel_rfl) (by kernel_rfl) ?hQ41 (Or.inl ⟨?hw41, ?hy41⟩) hS ?rest41
  case hi41 => simp only [List.getElem?_toArray, List.getElem?_cons_succ, List.getElem?_cons_zero]; rfl
  case hQ41 => exact fun _ _ _ h => h
  case hw41 => rfl
  case hy41 => intro W' hS'; go_simp; with_reducible rfl
  try simp only [Act.put, List.setIfInBounds_toArray, List.set_cons_zero, List.set_cons_succ]
  refine' wpAnyH_take (i := 24) (oi := _) (v := _) ?hi42 (by kernel_rfl) (by kernel_rfl) (by kernel_rfl) ?hQ42 (Or.inl ⟨?hw42, ?hy42⟩) hS ?rest42
  case hi42 => simp only [List.getElem?_toArray, List.getElem?_cons_succ, List.getElem?_cons_zero]; rfl
  case hQ42 => exact fun _ _ _ h => h
  case hw42 => rfl
  case hy42 => intro W' hS'; go_simp; with_reducible rfl
  try simp only [Act.put, List.setIfInBounds_toArray, List.set_cons_zero, List.set_cons_succ]
  refine wpAnyH_ready (rs := [2]) (by kernel_rfl) (by simp) ?_
  refine' AllReadyH.cons (o := _) ?ho43 (fun K hK => ?st43) AllReadyH.nil
  case ho43 => simp only [List.getElem?_toArray, List.getElem?_cons_succ, List.getElem?_cons_zero]; rfl
  case st43 =>
    go_simp
    refine (within_any b.ro 2 3 _).mono ?_
    rintro e Y1 ⟨rfl, rfl⟩
    refine hK.out _ _ hS (fun hS => ?_)
    clear hK K
    try simp only [Act.put, List.setIfInBounds_toArray, List.set_cons_zero, List.set_cons_succ]
    refine wpAnyH_ready (rs := [5]) (by kernel_rfl) (by simp) ?_
    refine' AllReadyH.cons (o := _) ?ho44 (fun K hK => ?st44) AllReadyH.nil
    case ho44 => simp only [List.getElem?_toArray, List.getElem?_cons_succ, List.getElem?_cons_zero]; rfl
    case st44 =>
      go_simp
      refine (HC.out _).mono ?_
      rintro e Y1 ⟨rfl, hb⟩
      refine hK.out _ _ (hS.below hb hS.lt) (fun hS => ?_)
      clear hK K
      try simp only [Act.put, List.setIfInBounds_toArray, List.set_cons_zero, List.set_cons_succ]
      replace hB := chain hB hb
      clear hb
      refine' wpAnyH_take (i := 6) (oi := _) (v := _) ?hi45 (by kernel_rfl) (by kernel_rfl) (by kernel_rfl) ?hQ45 (Or.inl ⟨?hw45, ?hy45⟩) hS ?rest45
      case hi45 => simp only [List.getElem?_toArray, List.getElem?_cons_succ, List.getElem?_cons_zero]; rfl
      case hQ45 => exact fun _ _ _ h => h
      case hw45 => rfl
      case hy45 => intro W' hS'; go_simp; with_reducible rfl
      try simp only [Act.put, List.setIfInBounds_toArray, List.set_cons_zero, List.set_cons_succ]
      refine wpAnyH_ready (rs := [16]) (by kernel_rfl) (by simp) ?_
      refine' AllReadyH.cons (o := _) ?ho46 (fun K hK => ?st46) AllReadyH.nil
      case ho46 => simp only [List.getElem?_toArray, List.getElem?_cons_succ, List.getElem?_cons_zero]; rfl
      case st46 =>
        go_simp
        refine (HV.out _).mono ?_
        rintro e Y1 ⟨rfl, hb⟩
        refine hK.out _ _ (hS.below hb hS.lt) (fun hS => ?_)
        clear hK K
        try simp only [Act.put, List.setIfInBounds_toArray, List.set_cons_zero, List.set_cons_succ]
        replace hB := chain hB hb
        clear hb
        refine' wpAnyH_take (i := 17) (oi := _) (v := _) ?hi47 (by kernel_rfl) (by kernel_rfl) (by kernel_rfl) ?hQ47 (Or.inl ⟨?hw47, ?hy47⟩) hS ?rest47
        case hi47 => simp only [List.getElem?_toArray, List.getElem?_cons_succ, List.getElem?_cons_zero]; rfl
        case hQ47 => exact fun _ _ _ h => h
        case hw47 => rfl
        case hy47 => intro W' hS'; go_simp; with_reducible rfl
        try simp only [Act.put, List.setIfInBounds_toArray, List.set_cons_zero, List.set_cons_succ]
        refine wpAnyH_ready (rs := [20]) (by kernel_rfl) (by simp) ?_
        refine' AllReadyH.cons (o := _) ?ho48 (fun K hK => ?st48) AllReadyH.nil
        case ho48 => simp only [List.getElem?_toArray, List.getElem?_cons_succ, List.getElem?_cons_zero]; rfl
        case st48 =>
          go_simp
          refine (within_any b.un 0 1099511627776 _).mono ?_
          rintro e Y1 ⟨rfl, rfl⟩
          refine hK.out _ _ hS (fun hS => ?_)
          clear hK K
          try simp only [Act.put, List.setIfInBounds_toArray, List.set_cons_zero, List.set_cons_succ]
          refine' wpAnyH_take (i := 25) (oi := _) (v := _) ?hi49 (by kernel_rfl) (by kernel_rfl) (by kernel_rfl) ?hQ49 (Or.inl ⟨?hw49, ?hy49⟩) hS ?rest49
          case hi49 => simp only [List.getElem?_toArray, List.getElem?_cons_succ, List.getElem?_cons_zero]; rfl
          case hQ49 => exact fun _ _ _ h => h
          case hw49 => rfl
          case hy49 => intro W' hS'; go_simp; with_reducible rfl
          try simp only [Act.put, List.setIfInBounds_toArray, List.set_cons_zero, List.set_cons_succ]
          refine wpAnyH_ready (rs := [26]) (by kernel_rfl) (by simp) ?_
          refine' AllReadyH.cons (o := _) ?ho50 (fun K hK => ?st50) AllReadyH.nil
          case ho50 => simp only [List.getElem?_toArray, List.getElem?_cons_succ, List.getElem?_cons_zero]; rfl
          case st50 =>
            go_simp
            refine (judge_any _ _ _ _ _ _ _).mono ?_
            rintro e Y1 ⟨rfl, hb⟩
            refine hK.out _ _ (hS.below hb hS.lt) (fun hS => ?_)
            clear hK K
            try simp only [Act.put, List.setIfInBounds_toArray, List.set_cons_zero, List.set_cons_succ]
            replace hB := chain hB hb
            clear hb
            refine' wpAnyH_take (i := 27) (oi := _) (v := _) ?hi51 (by kernel_rfl) (by kernel_rfl) (by kernel_rfl) ?hQ51 (Or.inl ⟨?hw51, ?hy51⟩) hS ?rest51
            case hi51 => simp only [List.getElem?_toArray, List.getElem?_cons_succ, List.getElem?_cons_zero]; rfl
            case hQ51 => exact fun _ _ _ h => h
            case hw51 => rfl
            case hy51 => intro W' hS'; go_simp; with_reducible rfl
            try simp only [Act.put, List.setIfInBounds_toArray, List.set_cons_zero, List.set_cons_succ]
            refine wpAnyH_done (by kernel_rfl) ?_ _
            go_wp2_with fail
            go_ret
            exact ⟨by rw [HE.out]; rfl, hB⟩
end Go.Proofs.YtiibeahgleaonaaGreat
