/-
  A book in memory: what is loaded of it, what is stored into it.
-/
import Derived.Test.YtcgfnppknldhbaaPurseM
import Derived.Deep.WholeRow
namespace Go.Proofs.Ytcgfnppknldhbaa
open Go.RowKit Go.Shelf

theorem bkc_size (b : Bk) : (bkc b).toArray.size = 64 := by rw [List.size_toArray, bkc_len]
theorem info_book : (Try.prog.info? 27).map (·.size) = some 64 := by kernel_rfl
theorem info_wide : (Try.prog.info? 24).map (·.size) = some 4 := by kernel_rfl
theorem load_book {W : World} {B : Nat} {T : TypeId} {b : Bk} (h : Blk W B T (bkc b)) : (Instr.loadAt 27 (.pointer (some ⟨B, 0, none⟩))).run Try.prog W = .ok (bkv b) W :=
  load_part h 0 (bkc b) (by rw [List.drop_zero, List.take_length]) _ _ Try.underlying27 rfl (by rw [bkc_len]; exact info_book)
theorem off_slot {i j : Nat} : i * 8 + j * 4 = 4 * (2 * i + j) := by omega
theorem load_slot {W : World} {B : Nat} {T : TypeId} {b : Bk} (h : Blk W B T (bkc b)) {i j : Nat} (hi : i < 8) (hj : j < 2) : (Instr.loadAt 24 (.pointer (some ⟨B, i * 8 + j * 4, none⟩))).run Try.prog W = .ok (wn (b (2 * i + j))) W := by
  rw [off_slot]
  exact load_part h (4 * (2 * i + j)) (ws (nw (b (2 * i + j)))) (by rw [ws_len]; exact bkc_part b (by omega)) _ _ Try.underlying24 rfl (by rw [ws_len]; exact info_wide)
theorem load_wn {W : World} {B : Nat} {T : TypeId} {n : Nat} (h : Blk W B T (ws (nw n))) : (Instr.loadAt 24 (.pointer (some ⟨B, 0, none⟩))).run Try.prog W = .ok (wn n) W :=
  load_part h 0 (ws (nw n)) rfl _ _ Try.underlying24 rfl (by kernel_rfl)
/-- A book of nothing. -/
abbrev noK : Bk := fun _ => 0
theorem bkc_no : bkc noK = List.replicate 64 (.int .u64 0) := by
  have h : ∀ s n, rowB noK s n = List.replicate (4 * n) (.int .u64 0) := fun s n => by
    induction n generalizing s with
    | zero => rfl
    | succ n ih => rw [rowB, ih]; unfold noK ws; rw [nw_zero, nw_zero, nw_zero, nw_zero, show 4 * (n + 1) = 4 * n + 1 + 1 + 1 + 1 by omega]; simp only [List.replicate_succ]; rfl
  exact h 0 16
theorem ws_no : ws (nw 0) = [.int .u64 0, .int .u64 0, .int .u64 0, .int .u64 0] := by unfold ws; rw [nw_zero, nw_zero, nw_zero, nw_zero]; rfl
theorem okK_no : OkK noK := fun _ _ => by show 0 < M4; unfold M4 M; decide
theorem row_book {vs : List Value} (b : Bk) (h : vs.length = 64) : laid vs 0 (bkc b) = bkc b := by
  unfold laid
  rw [bkc_len, List.take_zero, Nat.zero_add, List.drop_of_length_le (by omega), List.nil_append, List.append_nil]
theorem one_book (b : Bk) : (bkc b).all (·.oneCell') = true := by
  have h : ∀ s n, (rowB b s n).all (·.oneCell') = true := fun s n => by
    induction n generalizing s with
    | zero => rfl
    | succ n ih => rw [rowB, List.all_append, ih]; rfl
  exact h 0 16
theorem row_slot (b : Bk) (n : Nat) {i j : Nat} (hi : i < 8) (hj : j < 2) : laid (bkc b) (i * 8 + j * 4) (ws (nw n)) = bkc (updB b (2 * i + j) n) := by
  rw [off_slot]; exact bkc_set b n (by omega)
theorem row_wn (n : Nat) (m : Nat) : laid (ws (nw m)) 0 (ws (nw n)) = ws (nw n) := rfl
/-- A whole book is stored. -/
theorem wpList_store_book {ops : Array Oper} {rest : List Oper} {o : Oper} {a : Act} {w : World} {Q : Exit → Act → World → Prop} {T : TypeId} (x y : Operand) {vs : List Value} {B : Nat} (hB : Blk w B T vs) (hv : vs.length = 64) (b : Bk) (ho : o.op = .store 27 x y) (hd : o.dst = none) (hgd : o.guard = none)
    (hx : a.eval x = .pointer (some ⟨B, 0, none⟩)) (hy : a.eval y = bkv b)
    (h : wpList Try.prog ops Q rest a (w.setRow B (bkc b).toArray)) : wpList Try.prog ops Q (o :: rest) a w :=
  wpList_store_part 27 x y (bkc b) hB 0 (bkv b) (bkc b) ho hd hgd hx hy rfl (by rw [bkc_len]; exact info_book) (by rw [bkc_len, hv]; exact Nat.le_refl _) (one_book b) (row_book b hv) h
/-- A wide number is stored. -/
theorem wpList_store_wn {ops : Array Oper} {rest : List Oper} {o : Oper} {a : Act} {w : World} {Q : Exit → Act → World → Prop} {T : TypeId} (x y : Operand) {m : Nat} {B : Nat} (hB : Blk w B T (ws (nw m))) (n : Nat) (ho : o.op = .store 24 x y) (hd : o.dst = none) (hgd : o.guard = none)
    (hx : a.eval x = .pointer (some ⟨B, 0, none⟩)) (hy : a.eval y = wn n)
    (h : wpList Try.prog ops Q rest a (w.setRow B (ws (nw n)).toArray)) : wpList Try.prog ops Q (o :: rest) a w :=
  wpList_store_part 24 x y (ws (nw n)) hB 0 (wn n) (ws (nw n)) ho hd hgd hx hy rfl (by kernel_rfl) (Nat.le_refl _) rfl (row_wn n m) h
/-- A slot of a book is stored. -/
theorem wpList_store_slot {ops : Array Oper} {rest : List Oper} {o : Oper} {a : Act} {w : World} {Q : Exit → Act → World → Prop} {T : TypeId} (x y : Operand) {b : Bk} {B : Nat} (hB : Blk w B T (bkc b)) {i j : Nat} (hi : i < 8) (hj : j < 2) (n : Nat) (ho : o.op = .store 24 x y) (hd : o.dst = none) (hgd : o.guard = none)
    (hx : a.eval x = .pointer (some ⟨B, i * 8 + j * 4, none⟩)) (hy : a.eval y = wn n)
    (h : wpList Try.prog ops Q rest a (w.setRow B (bkc (updB b (2 * i + j) n)).toArray)) : wpList Try.prog ops Q (o :: rest) a w :=
  wpList_store_part 24 x y (bkc (updB b (2 * i + j) n)) hB (i * 8 + j * 4) (wn n) (ws (nw n)) ho hd hgd hx hy rfl (by kernel_rfl) (by rw [ws_len, bkc_len]; omega) rfl (row_slot b n hi hj) h
/-- And in a drawn region. -/
theorem wp_store_slot {o : Oper} {a : Act} {w : World} {K : Act → World → Prop} {Q : Exit → Act → World → Prop} {T : TypeId} (x y : Operand) {b : Bk} {B : Nat} (hB : Blk w B T (bkc b)) {i j : Nat} (hi : i < 8) (hj : j < 2) (n : Nat) (ho : o.op = .store 24 x y) (hd : o.dst = none)
    (hx : a.eval x = .pointer (some ⟨B, i * 8 + j * 4, none⟩)) (hy : a.eval y = wn n)
    (h : K a (w.setRow B (bkc (updB b (2 * i + j) n)).toArray)) : o.wp Try.prog a w K Q :=
  wp_store_part 24 x y (bkc (updB b (2 * i + j) n)) hB (i * 8 + j * 4) (wn n) (ws (nw n)) ho hd hx hy rfl (by kernel_rfl) (by rw [ws_len, bkc_len]; omega) rfl (row_slot b n hi hj) h
theorem wp_store_wn {o : Oper} {a : Act} {w : World} {K : Act → World → Prop} {Q : Exit → Act → World → Prop} {T : TypeId} (x y : Operand) {m : Nat} {B : Nat} (hB : Blk w B T (ws (nw m))) (n : Nat) (ho : o.op = .store 24 x y) (hd : o.dst = none)
    (hx : a.eval x = .pointer (some ⟨B, 0, none⟩)) (hy : a.eval y = wn n)
    (h : K a (w.setRow B (ws (nw n)).toArray)) : o.wp Try.prog a w K Q :=
  wp_store_part 24 x y (ws (nw n)) hB 0 (wn n) (ws (nw n)) ho hd hx hy rfl (by kernel_rfl) (Nat.le_refl _) rfl (row_wn n m) h
theorem wp_store_book {o : Oper} {a : Act} {w : World} {K : Act → World → Prop} {Q : Exit → Act → World → Prop} {T : TypeId} (x y : Operand) {vs : List Value} {B : Nat} (hB : Blk w B T vs) (hv : vs.length = 64) (b : Bk) (ho : o.op = .store 27 x y) (hd : o.dst = none)
    (hx : a.eval x = .pointer (some ⟨B, 0, none⟩)) (hy : a.eval y = bkv b)
    (h : K a (w.setRow B (bkc b).toArray)) : o.wp Try.prog a w K Q :=
  wp_store_part 27 x y (bkc b) hB 0 (bkv b) (bkc b) ho hd hx hy rfl (by rw [bkc_len]; exact info_book) (by rw [bkc_len, hv]; exact Nat.le_refl _) (one_book b) (row_book b hv) h
/-- A whole book is stored into the block that was made last. -/
theorem wpList_storeN_book {ops : Array Oper} {rest : List Oper} {o : Oper} {a : Act} {W : World} {c : Array Value} {Q : Exit → Act → World → Prop} {T : TypeId} (x y : Operand) (hv : c.size = 64) (b : Bk) (ho : o.op = .store 27 x y) (hd : o.dst = none) (hgd : o.guard = none)
    (hx : a.eval x = .pointer (some ⟨W.heap.size, 0, none⟩)) (hy : a.eval y = bkv b)
    (h : wpList Try.prog ops Q rest a (W.alloc (.cells (bkc b).toArray T))) : wpList Try.prog ops Q (o :: rest) a (W.alloc (.cells c T)) := by
  have hB : Blk (W.alloc (.cells c T)) W.heap.size T c.toList := Blk.new W T c.toList
  refine wpList_store_book x y hB (by simpa using hv) b ho hd hgd hx hy ?_
  rw [World.setRow_alloc_new]
  exact h
theorem wp_storeN_book {o : Oper} {a : Act} {W : World} {c : Array Value} {K : Act → World → Prop} {Q : Exit → Act → World → Prop} {T : TypeId} (x y : Operand) (hv : c.size = 64) (b : Bk) (ho : o.op = .store 27 x y) (hd : o.dst = none)
    (hx : a.eval x = .pointer (some ⟨W.heap.size, 0, none⟩)) (hy : a.eval y = bkv b)
    (h : K a (W.alloc (.cells (bkc b).toArray T))) : o.wp Try.prog a (W.alloc (.cells c T)) K Q := by
  have hB : Blk (W.alloc (.cells c T)) W.heap.size T c.toList := Blk.new W T c.toList
  refine wp_store_book x y hB (by simpa using hv) b ho hd hx hy ?_
  rw [World.setRow_alloc_new]
  exact h
end Go.Proofs.Ytcgfnppknldhbaa
