/-
  Sums and differences told by numbers alone: of the program, and of the plain digits.
-/
import Derived.Test.YtcgfnppknldhbaaPurseLoad
import Derived.Test.YtcgfnppknldhbaaWideCalls
import Derived.Test.YtcgfnppknldhbaaRefAdd
import Derived.Test.YtcgfnppknldhbaaRefSub
namespace Go.Proofs.Ytcgfnppknldhbaa
open Go.RowKit Go.Shelf

/-- The sum, or nothing. -/
def addN (x y : Nat) : Nat := if x + y < M4 then x + y else 0
def fitB (x y : Nat) : Bool := decide (x + y < M4)
def lessB (x y : Nat) : Bool := decide (y ≤ x)
theorem addN_lt {x y : Nat} : addN x y < M4 := by
  unfold addN; split
  · assumption
  · unfold M4 M; decide
theorem wn_zero : wn 0 = wv 0 0 0 0 := by show wv (nw 0 0) (nw 0 1) (nw 0 2) (nw 0 3) = _; rw [nw_zero, nw_zero, nw_zero, nw_zero]
def RetN (n : Nat) (b : Bool) (w : World) (e : Ending) (W' : World) : Prop := e = .returned (.tuple #[wn n, .bool b]) ∧ Below w.heap.size w W'
theorem retN_of_add {x y : Nat} {w : World} {e : Ending} {W' : World} (h : AddW (x + y) w e W') : RetN (addN x y) (fitB x y) w e W' := by
  rcases h with ⟨hl, s0, s1, s2, s3, hs, hv, rfl, hb⟩ | ⟨hg, rfl, hb⟩
  · refine ⟨?_, hb⟩
    rw [wn_of hs hv, show addN x y = x + y from if_pos hl, show fitB x y = true from decide_eq_true hl]
  · refine ⟨?_, hb⟩
    rw [show addN x y = 0 from if_neg (by omega), show fitB x y = false from decide_eq_false (by omega), wn_zero]
theorem retN_of_sub {x y : Nat} {w : World} {e : Ending} {W' : World} (h : SubW x y w e W') : RetN (x - y) (lessB x y) w e W' := by
  rcases h with ⟨hl, s0, s1, s2, s3, hs, hv, rfl, hb⟩ | ⟨hg, rfl, hb⟩
  · refine ⟨?_, hb⟩
    rw [wn_of hs hv, show lessB x y = true from decide_eq_true hl]
  · refine ⟨?_, hb⟩
    rw [show x - y = 0 by omega, show lessB x y = false from decide_eq_false (by omega), wn_zero]
theorem addN_any {x y : Nat} (hx : x < M4) (hy : y < M4) (w : World) :
    Calls Try.prog 17 #[wn x, wn y] w (RetN (addN x y) (fitB x y) w) :=
  (add_any (nw_ok x) (nw_ok y) w).mono fun _ _ h => retN_of_add (by rw [nw_val hx, nw_val hy] at h; exact h)
theorem subN_any {x y : Nat} (hx : x < M4) (hy : y < M4) (w : World) :
    Calls Try.prog 18 #[wn x, wn y] w (RetN (x - y) (lessB x y) w) :=
  (sub_any (nw_ok x) (nw_ok y) w).mono fun _ _ h => retN_of_sub (by rw [nw_val hx, nw_val hy] at h; exact h)
theorem refAddN_any {x y : Nat} (hx : x < M4) (hy : y < M4) (w : World) :
    Calls Try.prog 10 #[wn x, wn y] w (RetN (addN x y) (fitB x y) w) :=
  (refAdd_any (nw_ok x) (nw_ok y) w).mono fun _ _ h => retN_of_add (by rw [nw_val hx, nw_val hy] at h; exact h)
theorem refSubN_any {x y : Nat} (hx : x < M4) (hy : y < M4) (w : World) :
    Calls Try.prog 11 #[wn x, wn y] w (RetN (x - y) (lessB x y) w) :=
  (refSub_any (nw_ok x) (nw_ok y) w).mono fun _ _ h => retN_of_sub (by rw [nw_val hx, nw_val hy] at h; exact h)
theorem ofN_any (n : Nat) (h : n < M) (w : World) : Calls Try.prog 22 #[.int .u64 (n : Int)] w fun e W' => e = .returned (wn n) ∧ Below w.heap.size w W' :=
  (of_any (n : Int) n rfl w).mono fun _ _ ⟨he, hb⟩ => ⟨by rw [he]; obtain ⟨a, b, c, d⟩ := nw_word h; show _ = Ending.returned (wv (nw n 0) (nw n 1) (nw n 2) (nw n 3)); rw [a, b, c, d], hb⟩
/-- A new variable that holds a wide number. -/
def NewN (X : World) (n : Nat) (p : Value) (W : World) : Prop := ∃ B, p = .pointer (some ⟨B, 0, none⟩) ∧ Blk W B 24 (ws (nw n)) ∧ X.heap.size ≤ B ∧ Below X.heap.size X W
/-- A new variable that holds a book. -/
def NewB (X : World) (b : Bk) (p : Value) (W : World) : Prop := ∃ B, p = .pointer (some ⟨B, 0, none⟩) ∧ Blk W B 27 (bkc b) ∧ X.heap.size ≤ B ∧ Below X.heap.size X W
/-- What a function hands back: a book in a cell, and a word. -/
theorem res_book {fn : Func} {p q : Tmp} (h : fn.results = #[.cell p 27, .tmp q]) (tmps : Array Value) {w : World} {g : Nat} {T : TypeId} {b : Bk} {v : Value} (hp : tmps.getD p undef = .pointer (some ⟨g, 0, none⟩)) (hq : tmps.getD q undef = v) (hg : Blk w g T (bkc b)) :
    (results fn tmps).run Try.prog w = .ok (.tuple #[bkv b, v]) w := by
  have hp' : tmps[p]?.getD undef = .pointer (some ⟨g, 0, none⟩) := by simpa using hp
  have hq' : tmps[q]?.getD undef = v := by simpa using hq
  simp [results, h, hp', hq', asAddr, run_loadVar_row w g T 27 (bkc b).toArray (0, 0) _ hg Try.underlying27 rfl (by rw [bkc_size]; exact info_book)]
theorem res_num {fn : Func} {p q : Tmp} (h : fn.results = #[.cell p 24, .tmp q]) (tmps : Array Value) {w : World} {g : Nat} {T : TypeId} {n : Nat} {v : Value} (hp : tmps.getD p undef = .pointer (some ⟨g, 0, none⟩)) (hq : tmps.getD q undef = v) (hg : Blk w g T (ws (nw n))) :
    (results fn tmps).run Try.prog w = .ok (.tuple #[wn n, v]) w := by
  have hp' : tmps[p]?.getD undef = .pointer (some ⟨g, 0, none⟩) := by simpa using hp
  have hq' : tmps[q]?.getD undef = v := by simpa using hq
  simp [results, h, hp', hq', asAddr, run_loadVar_row w g T 24 (ws (nw n)).toArray (0, 0) _ hg Try.underlying24 rfl (by kernel_rfl)]
  rfl
theorem res_bk {fn : Func} {p : Tmp} (h : fn.results = #[.cell p 27]) (tmps : Array Value) {w : World} {g : Nat} {T : TypeId} {b : Bk} (hp : tmps.getD p undef = .pointer (some ⟨g, 0, none⟩)) (hg : Blk w g T (bkc b)) :
    (results fn tmps).run Try.prog w = .ok (bkv b) w :=
  results_cell_row h tmps w g T (bkc b).toArray (0, 0) _ hp hg Try.underlying27 rfl (by rw [bkc_size]; exact info_book)
end Go.Proofs.Ytcgfnppknldhbaa
