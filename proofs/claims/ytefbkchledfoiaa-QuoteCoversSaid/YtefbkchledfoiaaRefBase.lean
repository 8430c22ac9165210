/-
  Digits of 16 bits: rows of numbers that a call owns; what digits come to.
-/
import Derived.Test.YtefbkchledfoiaaBase
namespace Go.Proofs.Ytefbkchledfoiaa
open Go.RowKit

theorem Try.infoInt : (Try.prog.info? 3).map (fun i => (i.zero, i.size, i.bytes)) = some (some (.int .i64 0), 1, 8) := by kernel_rfl

/-- The slice value v owns a row of n numbers, f 0, f 1, .. -/
def OR (W : World) (base : Nat) (v : Value) (n : Nat) (f : Nat → Nat) : Prop := W.ownsRow base 3 1 v n ((List.range n).map fun k => Value.int .i64 (f k : Nat))
theorem OR.nil (W : World) (base : Nat) (f : Nat → Nat) : OR W base (.slice none 0 0) 0 f := ⟨rfl, .inl ⟨rfl, rfl⟩⟩
theorem OR.out {W : World} {base : Nat} {v : Value} {n : Nat} {f : Nat → Nat} (h : OR W base v n f) : W.ownsRow base 3 1 v n ((List.range n).map fun k => Value.int .i64 (f k : Nat)) := h
theorem OR.step {W : World} {base : Nat} {v : Value} {n : Nat} {f : Nat → Nat} {x : Int} (h : W.ownsRow base 3 1 v (n + 1) (((List.range n).map fun k => Value.int .i64 (f k : Nat)) ++ [.int .i64 x])) (hx : x = (f n : Nat)) : OR W base v (n + 1) f := by
  unfold OR
  rw [List.range_succ, List.map_append]
  rw [hx] at h
  exact h
theorem OR.alloc {W : World} {base : Nat} {v : Value} {n : Nat} {f : Nat → Nat} (h : OR W base v n f) (o : Obj) : OR (W.alloc o) base v n f := World.ownsRow.alloc h o
theorem OR.grown {W w1 : World} {base n : Nat} {u v' : Value} {f : Nat → Nat} {o : Obj} {x : Int} (hown : OR W base u n f) (hsz : base ≤ W.heap.size)
    (hown' : w1.ownsRow base 3 1 v' (n + 1) (((List.range n).map fun k => Value.int .i64 (f k : Nat)) ++ [.int .i64 x])) (hg : (W.alloc o).grownBy w1 u.ownBlock) (hx : x = (f n : Nat)) :
    OR w1 base v' (n + 1) f ∧ base ≤ w1.heap.size ∧ Below base W w1 := by
  have hb : Below base W w1 := ((Below.refl base W).alloc hsz o).grown hg (by simp; omega) (fun j hj => (World.ownsRow.lt hown.out j hj).1)
  exact ⟨OR.step hown' hx, Nat.le_trans hsz hb.size, hb⟩
/-- The slice at block g holds n numbers. -/
def Nums (W : World) (g n : Nat) (f : Nat → Nat) : Prop := ∀ k, k < n → W.cell? ⟨g, k, none⟩ = some (.int .i64 (f k : Nat))
theorem OR.nums {W : World} {base : Nat} {v : Value} {n : Nat} {f : Nat → Nat} (h : OR W base v n f) (hn : 0 < n) :
    ∃ g cap, v = .slice (some ⟨g, 0, none⟩) n cap ∧ base ≤ g ∧ g < W.heap.size ∧ Nums W g n f := by
  obtain ⟨hl, ⟨_, h0⟩ | ⟨g, cap, cur, rfl, hg, hb, hnc, hcm, hsz, htake⟩⟩ := h
  · omega
  · refine ⟨g, cap, rfl, hg, (Array.getElem?_eq_some_iff.1 hb).1, fun k hk => ?_⟩
    have e : cur[k]? = (cur.toList.take (n * 1))[k]? := by
      rw [List.getElem?_take_of_lt (by omega)]
      simp
    simp only [World.cell?, hb]
    rw [show (if (none : Option Nat).isSome = true then (none : Option Value) else cur[k]?) = cur[k]? from rfl, e, htake]
    simp [hk]
theorem Nums.below {W W' : World} {m g n : Nat} {f : Nat → Nat} (h : Nums W g n f) (hb : Below m W W') (hg : g < m) : Nums W' g n f := fun k hk => (hb.cell (p := ⟨g, k, none⟩) hg).trans (h k hk)

/-- A slice of n numbers, and nothing that was there has turned. -/
def SlW (n : Nat) (f : Nat → Nat) (w : World) (e : Ending) (W' : World) : Prop :=
  ∃ g cap, e = .returned (.slice (some ⟨g, 0, none⟩) n cap) ∧ w.heap.size ≤ g ∧ g < W'.heap.size ∧ Nums W' g n f ∧ Below w.heap.size w W'

/-- x without its t lowest digits. -/
def sh (x : Nat) : Nat → Nat
  | 0 => x
  | t + 1 => sh x t / 65536
/-- The digit at place n. -/
def dg (a0 a1 a2 a3 n : Nat) : Nat := sh (word a0 a1 a2 a3 (n / 4)) (n % 4) % 65536
theorem dg_at {a0 a1 a2 a3 k t : Nat} (ht : t < 4) : dg a0 a1 a2 a3 (4 * k + t) = sh (word a0 a1 a2 a3 k) t % 65536 := by
  unfold dg
  rw [show (4 * k + t) / 4 = k by omega, show (4 * k + t) % 4 = t by omega]
theorem sh_lt {x : Nat} (h : x < M) (t : Nat) : sh x t < M := by
  induction t with
  | zero => exact h
  | succ t ih => show sh x t / 65536 < M; omega

/-- n numbers as cells. -/
def ds (f : Nat → Nat) (n : Nat) : List Value := (List.range n).map fun k => .int .i64 (f k : Nat)
theorem ds_at (f : Nat → Nat) {n k : Nat} (h : k < n) : (ds f n)[k]? = some (.int .i64 (f k : Nat)) := by
  unfold ds; rw [List.getElem?_map, List.getElem?_range h]; rfl
theorem ds_set (f : Nat → Nat) {n k : Nat} (v : Nat) : (ds f n).set k (.int .i64 (v : Nat)) = ds (upd f k v) n := by
  apply List.ext_getElem?
  intro j
  rw [List.getElem?_set]
  by_cases hj : k = j
  · subst hj
    by_cases hk : k < n
    · rw [if_pos rfl, if_pos (by simp [ds]; exact hk), ds_at _ hk]; simp [upd]
    · rw [if_pos rfl, if_neg (by simp [ds]; omega), eq_comm, List.getElem?_eq_none]; simp [ds]; omega
  · rw [if_neg hj]
    by_cases hk : j < n
    · rw [ds_at _ hk, ds_at _ hk]; simp [upd, Ne.symm hj]
    · rw [List.getElem?_eq_none (by simp [ds]; omega), List.getElem?_eq_none (by simp [ds]; omega)]
theorem Blk.numsOf {W : World} {B n : Nat} {f : Nat → Nat} (h : Blk W B 3 (ds f n)) : Nums W B n f := fun k hk => (h.cell k).trans (ds_at f hk)
end Go.Proofs.Ytefbkchledfoiaa
