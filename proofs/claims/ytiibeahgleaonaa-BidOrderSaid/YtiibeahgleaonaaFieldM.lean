/-
  Fields as octets: what is written, and what is read, as plain functions; the state of an Out, or of an In: octets, and the first error.
-/
import Derived.Test.YtiibeahgleaonaaBytesMath
import Derived.Test.YtiibeahgleaonaaBlobWide
import Derived.Test.YtiibeahgleaonaaSpares
namespace Go.Proofs.Ytiibeahgleaonaa
open Go.RowKit Go.Shelf

abbrev St := List UInt8 × Int
def errS (s : St) (x : Int) : St := if s.2 = 0 then ([], x) else s
def addS (s : St) (l : List UInt8) : St := if s.2 = 0 then (if s.1.length + l.length ≤ 8192 then (s.1 ++ l, 0) else ([], 5)) else s
def numS (s : St) (n : Int) : St := if 0 ≤ n ∧ n ≤ 1099511627776 then addS s (octs (two n) 6) else errS s 4
def txtS (s : St) (t : ByteArray) : St := if t.size ≤ 1024 then addS s (octs t.size 2 ++ t.data.toList) else errS s 5
def wideS (s : St) (a0 a1 a2 a3 : Nat) : St := addS s (wide8 a0 a1 a2 a3)
/-- What is taken: octets, and the state behind it. -/
def takeS (s : St) (n : Nat) : List UInt8 × St := if s.2 = 0 then (if n ≤ s.1.length then (s.1.take n, (s.1.drop n, 0)) else ([], ([], 16))) else ([], s)
def mostS (s : St) (size : Nat) (most : Int) : Nat × St :=
  if (takeS s size).2.2 = 0 ∧ most < (be ((takeS s size).1.take 7) : Int) then (0, ([], 4)) else (be ((takeS s size).1.take 7), (takeS s size).2)
def gtxtS (s : St) (most : Int) : List UInt8 × St := takeS (mostS s 2 most).2 (mostS s 2 most).1

/-- A state that can be: behind an error there is nothing; there are no more octets than may be. -/
def OkS (s : St) : Prop := (s.2 ≠ 0 → s.1 = []) ∧ s.1.length ≤ 8192
theorem okS_err {s : St} (h : OkS s) (x : Int) : OkS (errS s x) := by
  unfold errS; split
  · exact ⟨fun _ => rfl, by simp⟩
  · exact h
theorem okS_add {s : St} (h : OkS s) (l : List UInt8) : OkS (addS s l) := by
  unfold addS; split
  · split
    · exact ⟨fun k => absurd rfl k, by simpa using ‹_›⟩
    · exact ⟨fun _ => rfl, by simp⟩
  · exact h
theorem okS_num {s : St} (h : OkS s) (n : Int) : OkS (numS s n) := by
  unfold numS; split
  · exact okS_add h _
  · exact okS_err h _
theorem okS_txt {s : St} (h : OkS s) (t : ByteArray) : OkS (txtS s t) := by
  unfold txtS; split
  · exact okS_add h _
  · exact okS_err h _
theorem okS_wide {s : St} (h : OkS s) (a0 a1 a2 a3 : Nat) : OkS (wideS s a0 a1 a2 a3) := okS_add h _
theorem okS_take {s : St} (h : OkS s) (n : Nat) : OkS (takeS s n).2 := by
  unfold takeS; split
  · split
    · refine ⟨fun k => absurd rfl k, ?_⟩
      have := h.2
      simp only [List.length_drop]; omega
    · exact ⟨fun _ => rfl, by simp⟩
  · exact h
theorem okS_most {s : St} (h : OkS s) (n : Nat) (m : Int) : OkS (mostS s n m).2 := by
  unfold mostS; split
  · exact ⟨fun _ => rfl, by simp⟩
  · exact okS_take h n
theorem okS_gtxt {s : St} (h : OkS s) (m : Int) : OkS (gtxtS s m).2 := okS_take (okS_most h _ _) _
theorem addS_bad {s : St} (h : s.2 ≠ 0) (l : List UInt8) : addS s l = s := if_neg h
theorem errS_bad {s : St} (h : s.2 ≠ 0) (x : Int) : errS s x = s := if_neg h
theorem takeS_bad {s : St} (h : s.2 ≠ 0) (n : Nat) : takeS s n = ([], s) := if_neg h
theorem takeS_short {s : St} (h : s.2 = 0) {n : Nat} (k : s.1.length < n) : takeS s n = ([], ([], 16)) := by
  unfold takeS; rw [if_pos h, if_neg (by omega)]
theorem takeS_ok {s : St} (h : s.2 = 0) {n : Nat} (k : n ≤ s.1.length) : takeS s n = (s.1.take n, (s.1.drop n, 0)) := by
  unfold takeS; rw [if_pos h, if_pos k]
theorem takeS_len (s : St) (n : Nat) : (takeS s n).1.length ≤ n := by
  unfold takeS; split
  · split
    · simp only [List.length_take]; omega
    · simp
  · simp

theorem BSl.shape {lo hi : Nat} {W : World} {sv : Value} {l : List UInt8} (h : BSl lo hi W sv l) : ∃ a c, sv = .slice a l.length c ∧ l.length ≤ c := by
  obtain ⟨a, c, e, hc, _⟩ := h
  exact ⟨a, c, e, hc⟩
theorem BSl.shape3 {lo hi : Nat} {W : World} {sv : Value} {l : List UInt8} (h : BSl lo hi W sv l) : ∃ a m c, sv = .slice a m c := by
  obtain ⟨a, c, e, _⟩ := h
  exact ⟨a, _, c, e⟩
theorem takeS_err {s : St} {n : Nat} (h : (takeS s n).2.2 ≠ 0) : (takeS s n).1 = [] := by
  unfold takeS at *; split
  · rename_i h0
    rw [if_pos h0] at h
    split
    · rename_i h1
      rw [if_pos h1] at h
      exact absurd rfl h
    · rfl
  · rfl
/-- The block of r has no octet among its cells. -/
def NoOct (W : World) (r : Nat) : Prop := ∀ i x, W.cell? ⟨r, i, none⟩ ≠ some (bv x)
theorem BSl.to {lo hi : Nat} {W W' : World} {row : Option Nat} {sv : Value} {l : List UInt8} (h : BSl lo hi W sv l) (hhi : hi ≤ W.heap.size) (hg : W.grownBy W' row) (hne : ∀ r, row = some r → NoOct W r) : BSl lo hi W' sv l := by
  obtain ⟨a, cap, e, hc, h0 | ⟨b, off, ha, hl, hh, ho⟩⟩ := h
  · exact ⟨a, cap, e, hc, .inl h0⟩
  · refine ⟨a, cap, e, hc, ?_⟩
    by_cases hl0 : l = []
    · exact .inl hl0
    · refine .inr ⟨b, off, ha, hl, hh, ho.kept (by omega) hg (fun e' => ?_)⟩
      obtain ⟨x, l', rfl⟩ : ∃ x l', l = x :: l' := List.exists_cons_of_ne_nil hl0
      exact hne b e'.symm (off + 0) x (ho 0 x rfl)
theorem noOct_blk {W : World} {B : Nat} {t : TypeId} {vs : List Value} (h : Blk W B t vs) (hv : ∀ v ∈ vs, ∀ x, v ≠ bv x) : NoOct W B := fun i x e => by
  rw [h.cell i] at e
  exact hv _ (List.mem_of_getElem? e) x rfl

/-- The object that p leads to (an Out, or an In) has this state; what nobody made has none, and ErrState. -/
def ObjP (T : TypeId) (W : World) (p : Option Addr) (s : St) : Prop :=
  (p = none ∧ s = ([], 9)) ∨ ∃ B m a n c x, p = some ⟨B, 0, none⟩ ∧ Blk W B T [.bool m, .slice a n c, .int .i64 x] ∧
    ((m = false ∧ s = ([], 9)) ∨ (m = true ∧ s.2 = x ∧ OkS s ∧ BSl 0 W.heap.size W (.slice a n c) s.1))
theorem ObjP.ok {T : TypeId} {W : World} {p : Option Addr} {s : St} (h : ObjP T W p s) : OkS s := by
  rcases h with ⟨_, rfl⟩ | ⟨B, m, a, n, c, x, _, _, ⟨_, rfl⟩ | ⟨_, _, h, _⟩⟩
  · exact ⟨fun _ => rfl, by simp⟩
  · exact ⟨fun _ => rfl, by simp⟩
  · exact h
theorem noOct3 {W : World} {B : Nat} {T : TypeId} {m : Bool} {a : Option Addr} {n c : Nat} {x : Int} (h : Blk W B T [.bool m, .slice a n c, .int .i64 x]) : NoOct W B := noOct_blk h (by
  intro v hv y
  simp only [List.mem_cons, List.not_mem_nil, or_false] at hv
  rcases hv with rfl | rfl | rfl <;> simp [bv])
theorem grew {W W' : World} (h : Below W.heap.size W W') (row : Option Nat) : W.grownBy W' row := ⟨h.os, h.tape, h.output, h.size, fun k hk _ => h.block k hk⟩
theorem Blk.c3 {W : World} {B : Nat} {t : TypeId} {v0 v1 v2 : Value} (h : Blk W B t [v0, v1, v2]) :
    W.cell? ⟨B, 0, none⟩ = some v0 ∧ W.cell? ⟨B, 1, none⟩ = some v1 ∧ W.cell? ⟨B, 2, none⟩ = some v2 := ⟨h.cell 0, h.cell 1, h.cell 2⟩
/-- What is written beside it, and new, leaves it. -/
theorem ObjP.to {T : TypeId} {W W' : World} {p : Option Addr} {s : St} {row : Option Nat} (h : ObjP T W p s) (hg : W.grownBy W' row) (hne : ∀ r, row = some r → NoOct W r ∧ p.map (·.block) ≠ some r) : ObjP T W' p s := by
  rcases h with h | ⟨B, m, a, n, c, x, rfl, hb, hs⟩
  · exact .inl h
  · refine .inr ⟨B, m, a, n, c, x, rfl, hb.kept hg (fun e => (hne B e.symm).2 rfl), ?_⟩
    rcases hs with h | ⟨hm, hx, hok, hsl⟩
    · exact .inl h
    · exact .inr ⟨hm, hx, hok, (hsl.to (Nat.le_refl _) hg (fun r e => (hne r e).1)).mono (Nat.le_refl _) hg.size⟩
theorem ObjP.below {T : TypeId} {W W' : World} {p : Option Addr} {s : St} (h : ObjP T W p s) (hb : Below W.heap.size W W') : ObjP T W' p s := h.to (grew hb none) (fun _ e => by cases e)
/-- A method that hands back nothing: the object's state is s behind it; nothing else has turned. -/
def DidS (T : TypeId) (p : Option Addr) (s : St) (w : World) (e : Ending) (W' : World) : Prop :=
  e = .returned (.tuple #[]) ∧ ObjP T W' p s ∧ w.grownBy W' (p.map (·.block))
/-- Word i of 32 octets; 0, if there are not so many. -/
def wdS (l : List UInt8) (i : Nat) : Nat := if l.length = 32 then uwd l 32 i else 0
theorem ptr_lt {T : TypeId} {W : World} {p : Option Addr} {s : St} (h : ObjP T W p s) {n : Nat} (hn : W.heap.size ≤ n) : some n ≠ p.map (·.block) := by
  rcases h with ⟨rfl, _⟩ | ⟨B, m, a, n', c, x, rfl, hb, _⟩
  · simp
  · intro e
    have := hb.lt
    have : n = B := by simpa using e
    omega
theorem noOct4 {W : World} {B : Nat} {T : TypeId} {b0 b1 b2 b3 : Int} (h : Blk W B T [.int .u64 b0, .int .u64 b1, .int .u64 b2, .int .u64 b3]) : NoOct W B := noOct_blk h (by
  intro v hv y
  simp only [List.mem_cons, List.not_mem_nil, or_false] at hv
  rcases hv with rfl | rfl | rfl | rfl <;> simp [bv])
end Go.Proofs.Ytiibeahgleaonaa
