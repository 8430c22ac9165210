/-
  What octets come to, the highest first; the words of 32 octets.
-/
import Derived.Test.YtakeickgjplahaaBytes
import Derived.Laws.BitsLemmas
namespace Go.Proofs.Ytakeickgjplahaa
open Go.RowKit

theorem wr_u64 (n : Int) (h₀ : 0 ≤ n) (h₁ : n < 2 ^ 64) : IntKind.u64.wrap n = n := by rw [IntKind.wrap_u64]; omega
theorem wr_i64 (n : Int) (h₀ : 0 ≤ n) (h₁ : n < 2 ^ 63) : IntKind.i64.wrap n = n := by rw [IntKind.wrap_i64]; omega
/-- What octets come to. -/
def be (l : List UInt8) : Nat := l.foldl (fun n x => n * 256 + x.toNat) 0
theorem be_snoc (l : List UInt8) (x : UInt8) : be (l ++ [x]) = be l * 256 + x.toNat := by simp [be]
theorem be_lt (l : List UInt8) : be l < 256 ^ l.length := by
  rw [← List.reverse_reverse l]
  generalize l.reverse = r
  induction r with
  | nil => decide
  | cons x r ih =>
    rw [List.reverse_cons, be_snoc, List.length_append, List.length_singleton, Nat.pow_succ]
    have := x.toNat_lt
    omega
theorem be_lt' {l : List UInt8} {k : Nat} (h : l.length ≤ k) : be l < 256 ^ k := Nat.lt_of_lt_of_le (be_lt l) (Nat.pow_le_pow_right (by omega) h)
theorem octs_snoc (n s : Nat) : octs n (s + 1) = octs (n / 256) s ++ [oct n 0] := by
  induction s with
  | zero => rfl
  | succ s ih =>
    rw [octs, ih]
    show _ = oct (n / 256) s :: octs (n / 256) s ++ [oct n 0]
    have : oct n (s + 1) = oct (n / 256) s := by
      unfold oct
      rw [show (s + 1) * 8 = 8 + s * 8 by omega, Nat.pow_add, ← Nat.div_div_eq_div_mul]
    rw [this]
    rfl
theorem be_octs (n s : Nat) : be (octs n s) = n % 256 ^ s := by
  induction s generalizing n with
  | zero => simp [octs, be, Nat.mod_one]
  | succ s ih =>
    rw [octs_snoc, be_snoc, ih, Nat.pow_succ]
    unfold oct
    rw [UInt8.toNat_ofNat', show n / 2 ^ (0 * 8) = n by simp, Nat.mul_comm (256 ^ s) 256, Nat.mod_mul]
    omega

theorem or_byte {a x : Nat} (ha : a ≤ 72057594037927935) (hx : x < 256) : bits .or .u64 ((a : Int) * 256) (x : Int) = ((a * 256 + x : Nat) : Int) := by
  have e := (Go.bits_nat .u64 64 (by decide) (fun n h0 h1 => wr_u64 n h0 h1) (a * 256) x (by simp; omega) (by simp; omega)).2
  have h : a * 256 ||| x = a * 256 + x := by
    have := Nat.shiftLeft_add_eq_or_of_lt (show x < 2 ^ 8 by simpa using hx) a
    rw [Nat.shiftLeft_eq] at this
    exact this.symm
  rw [h] at e
  rw [← e]
  simp
theorem or_byte64 {a x : Nat} (ha : a ≤ 36028797018963967) (hx : x < 256) : bits .or .i64 ((a : Int) * 256) (x : Int) = ((a * 256 + x : Nat) : Int) := by
  have e := (Go.bits_nat .i64 63 (by decide) (fun n h0 h1 => wr_i64 n h0 h1) (a * 256) x (by simp; omega) (by simp; omega)).2
  have h : a * 256 ||| x = a * 256 + x := by
    have := Nat.shiftLeft_add_eq_or_of_lt (show x < 2 ^ 8 by simpa using hx) a
    rw [Nat.shiftLeft_eq] at this
    exact this.symm
  rw [h] at e
  rw [← e]
  simp

/-- Of the first k octets: what those of word q come to. -/
def uwd (l : List UInt8) (k q : Nat) : Nat := be (((l.take k).drop (8 * (3 - q))).take 8)
theorem uwd_zero (l : List UInt8) : ws (uwd l 0) = ws fun _ => 0 := by simp [ws, uwd, be]
theorem uwd_step {l : List UInt8} {k : Nat} {x : UInt8} (hx : l[k]? = some x) (hk : k < 32) : ws (uwd l (k + 1)) = ws (upd (uwd l k) (3 - k / 8) (uwd l k (3 - k / 8) * 256 + x.toNat)) := by
  have hkl : k < l.length := (List.getElem?_eq_some_iff.1 hx).1
  have key : ∀ q, q < 4 → uwd l (k + 1) q = upd (uwd l k) (3 - k / 8) (uwd l k (3 - k / 8) * 256 + x.toNat) q := fun q hq => by
    have e1 : l.take (k + 1) = l.take k ++ [x] := by rw [List.take_add_one, hx]; rfl
    have hl : (l.take k).length = k := by simp; omega
    unfold upd
    by_cases h : q = 3 - k / 8
    · subst h
      rw [if_pos rfl]
      unfold uwd
      rw [e1, ← be_snoc]
      have e2 : (3 - (3 - k / 8)) = k / 8 := by omega
      rw [e2, List.drop_append_of_le_length (by rw [hl]; omega), List.take_of_length_le (l := (l.take k).drop (8 * (k / 8)) ++ [x]) (by simp; omega), List.take_of_length_le (l := (l.take k).drop (8 * (k / 8))) (by simp; omega)]
    · rw [if_neg h]
      unfold uwd
      rw [e1]
      by_cases h' : k < 8 * (3 - q)
      · rw [List.drop_of_length_le (by simp; omega), List.drop_of_length_le (by rw [hl]; omega)]
      · rw [List.drop_append_of_le_length (by rw [hl]; omega), List.take_append_of_le_length (by rw [List.length_drop, hl]; omega)]
  unfold ws
  rw [key 0 (by omega), key 1 (by omega), key 2 (by omega), key 3 (by omega)]
theorem uwd_lt {l : List UInt8} {k : Nat} (hk : k < 32) : uwd l k (3 - k / 8) ≤ 72057594037927935 := by
  have : (((l.take k).drop (8 * (3 - (3 - k / 8)))).take 8).length ≤ 7 := by
    simp
    omega
  have := be_lt' this
  unfold uwd
  omega
/-- An octet with its place: below 32. -/
abbrev PX := { p : UInt8 × Nat // p.2 < 32 }
abbrev pxEnc (p : PX) : Array Value := #[.int .i64 (p.1.2 : Int), bv p.1.1]
/-- One round: the word takes the octet. -/
def unS (s : Nat → Nat) (p : PX) : Nat → Nat := upd s (3 - p.1.2 / 8) (s (3 - p.1.2 / 8) * 256 % M ||| p.1.1.toNat)
def unF (pre : List PX) : Nat → Nat := pre.foldl unS fun _ => 0
theorem unF_snoc (pre : List PX) (p : PX) : unF (pre ++ [p]) = unS (unF pre) p := by simp [unF]
theorem unS_lt {s : Nat → Nat} (h : ∀ q, s q < M) (p : PX) (q : Nat) : unS s p q < M := by
  unfold unS upd
  split
  · have h1 : s (3 - p.1.2 / 8) * 256 % M < 2 ^ 64 := by unfold M; omega
    have h2 : p.1.1.toNat < 2 ^ 64 := by have := p.1.1.toNat_lt; omega
    have := Nat.or_lt_two_pow h1 h2
    rw [show (2 : Nat) ^ 64 = M from by unfold M; decide] at this
    exact this
  · exact h q
theorem unF_lt (pre : List PX) (q : Nat) : unF pre q < M := by
  rw [← List.reverse_reverse pre]
  generalize pre.reverse = r
  induction r generalizing q with
  | nil => exact M_pos
  | cons x r ih => rw [List.reverse_cons, unF_snoc]; exact unS_lt ih x q
theorem or_wrap {a x : Nat} (hx : x < 256) : bits .or .u64 (IntKind.u64.wrap ((a : Int) * 256)) (x : Int) = ((a * 256 % M ||| x : Nat) : Int) := by
  have e := (Go.bits_nat .u64 64 (by decide) (fun n h0 h1 => wr_u64 n h0 h1) (a * 256 % M) x (by unfold M; omega) (by omega)).2
  rw [← e, IntKind.wrap_u64]
  unfold M
  simp
theorem mod_or {a x : Nat} (ha : a ≤ 72057594037927935) (hx : x < 256) : a * 256 % M ||| x = a * 256 + x := by
  rw [Nat.mod_eq_of_lt (by unfold M; omega)]
  have := Nat.shiftLeft_add_eq_or_of_lt (show x < 2 ^ 8 by simpa using hx) a
  rw [Nat.shiftLeft_eq] at this
  exact this.symm
/-- The octets with their places. -/
def pxs (l : List UInt8) (_ : l.length = 32) : List PX := (List.range 32).attach.map fun k => ⟨(l.getD k.1 0, k.1), by have := List.mem_range.1 k.2; exact this⟩
theorem pxs_length (l : List UInt8) (h : l.length = 32) : (pxs l h).length = 32 := by simp [pxs]
theorem pxs_at {l : List UInt8} (h : l.length = 32) {k : Nat} {p : PX} (hp : (pxs l h)[k]? = some p) : p.1.2 = k ∧ l[k]? = some p.1.1 := by
  have hk : k < 32 := by have := (List.getElem?_eq_some_iff.1 hp).1; rwa [pxs_length] at this
  simp only [pxs, List.getElem?_map] at hp
  have e : (List.range 32).attach[k]? = some ⟨k, List.mem_range.2 hk⟩ := by
    rw [List.getElem?_eq_getElem (by simpa using hk)]
    simp
  rw [e] at hp
  simp only [Option.map_some, Option.some.injEq] at hp
  subst hp
  exact ⟨rfl, by simp [List.getD, List.getElem?_eq_getElem (show k < l.length by omega)]⟩
theorem unF_take {l : List UInt8} (h : l.length = 32) (k : Nat) (hk : k ≤ 32) : ws (unF ((pxs l h).take k)) = ws (uwd l k) := by
  induction k with
  | zero => rw [uwd_zero]; rfl
  | succ k ih =>
    have ih' := ih (by omega)
    obtain ⟨p, hp⟩ : ∃ p, (pxs l h)[k]? = some p := ⟨_, List.getElem?_eq_getElem (by rw [pxs_length]; omega)⟩
    obtain ⟨h2, hx⟩ := pxs_at h hp
    rw [List.take_add_one, hp, uwd_step hx (by omega)]
    show ws (unF (_ ++ [p])) = _
    rw [unF_snoc]
    unfold unS
    rw [h2]
    have hq : 3 - k / 8 < 4 := by omega
    rw [← ws_set _ hq, ← ws_set _ hq, ih']
    have e : unF ((pxs l h).take k) (3 - k / 8) = uwd l k (3 - k / 8) := by
      have h1 := ws_at (unF ((pxs l h).take k)) hq
      rw [ih', ws_at _ hq] at h1
      have := Option.some.inj h1
      injection this with _ h3
      omega
    rw [e, mod_or (uwd_lt (by omega)) p.1.1.toNat_lt]
theorem unF_all {l : List UInt8} (h : l.length = 32) : ws (unF (pxs l h)) = ws (uwd l 32) := by
  rw [← unF_take h 32 (by omega), List.take_of_length_le (by rw [pxs_length]; omega)]
end Go.Proofs.Ytakeickgjplahaa
