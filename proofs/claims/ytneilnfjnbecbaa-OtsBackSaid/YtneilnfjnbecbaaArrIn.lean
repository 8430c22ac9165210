/-
  Arrays of words, read and stored whole inside a fence.
-/
import Derived.Test.YtneilnfjnbecbaaArr
import Derived.WalkSpells
import Derived.StillTail
import Derived.StillTactics
namespace Go.Proofs.Ytneilnfjnbecbaa
open Go.RowKit Go.Shelf

theorem run_load_us {ty n : Nat} (hT : ArrT ty n) (w : World) (g : Nat) (t : TypeId) (f : Nat → Int) (hg : Blk w g t (us f n)) : (loadVar ty ⟨g, 0, none⟩).run Try.prog w = .ok (uv f n) w := by
  obtain ⟨⟨e, hu⟩, hi⟩ := hT
  exact run_loadVar_row w g t ty _ (0, 0) _ hg hu rfl (by rw [hi]; simp [us_length])
theorem still_load {ty n : Nat} (hT : ArrT ty n) {ops : Array Oper} {rest : List Oper} {o : Oper} {a : Act} {w : World} {Q : Act → Prop} (hgd : o.guard = none) (x : Operand) (ho : o.op = .load ty x)
    (g : Nat) (hx : a.eval x = .pointer (some ⟨g, 0, none⟩)) (t : TypeId) (f : Nat → Int) (hg : Blk w g t (us f n)) (h : wpStill Try.prog ops w Q rest (a.put o.dst (uv f n))) : wpStill Try.prog ops w Q (o :: rest) a := by
  refine wpStill_step fun K hK => ?_
  rw [if_pos (by simp [Region.wanted, hgd])]
  unfold Oper.still execOp
  simp only [ho, hx, Instr.loadAt, Instr.sureAddr, Sem.run_bind, Sem.run_pure, Result.andThen_ok, run_load_us hT w g t f hg, Oper.stillUpon_value]
  exact hK _ h

theorem step_load_us {ty n : Nat} (hT : ArrT ty n) {ops : Array Oper} {o : Oper} {a : Act} {w : World} {K : Act → World → Prop} {Q : Exit → Act → World → Prop} {E : Prop} (hgd : o.guard = none) (x : Operand) (ho : o.op = .load ty x)
    (g : Nat) (hx : a.eval x = .pointer (some ⟨g, 0, none⟩)) (t : TypeId) (f : Nat → Int) (hg : Blk w g t (us f n)) (h : K (a.put o.dst (uv f n)) w) :
    if Region.wanted o (yielded ops a.tmps) = true then Oper.wp Try.prog o a w K Q else E := by
  rw [if_pos (by simp [Region.wanted, hgd])]
  obtain ⟨⟨e, hu⟩, hi⟩ := hT
  exact wp_load_row ty x ho g hx t _ (0, 0) _ hg hu rfl (by rw [hi]; simp [us_length]) h
theorem step_store_us {ty n : Nat} (hT : ArrT ty n) {ops : Array Oper} {o : Oper} {a : Act} {w : World} {K : Act → World → Prop} {Q : Exit → Act → World → Prop} {E : Prop} (hgd : o.guard = none) (x y : Operand) (ho : o.op = .store ty x y)
    (g : Nat) (hx : a.eval x = .pointer (some ⟨g, 0, none⟩)) (f : Nat → Int) (hy : a.eval y = uv f n) (t : TypeId) (old : Nat → Int) (hg : Blk w g t (us old n))
    (h : ∀ w', Blk w' g t (us f n) → w.grownBy w' (some g) → K (a.put o.dst undef) w') :
    if Region.wanted o (yielded ops a.tmps) = true then Oper.wp Try.prog o a w K Q else E := by
  rw [if_pos (by simp [Region.wanted, hgd])]
  obtain ⟨⟨e, hu⟩, hi⟩ := hT
  exact wp_store_row ty x y ho g _ hx hy t _ hg (by rw [hi]; simp [us_length]) (by simp [us_length]) (us_all f n) (h _ (setRow_blk hg _) (setRow_grown _))

theorem arrIn_load {F : Fence} {m : Nat} {ty n : Nat} (hT : ArrT ty n) {ops : Array Oper} {rest : List Oper} {o : Oper} {a : Act} {w : World} {Q : Exit → Act → World → Prop} (hgd : o.guard = none) (x : Operand) (ho : o.op = .load ty x)
    (g : Nat) (hx : a.eval x = .pointer (some ⟨g, 0, none⟩)) (t : TypeId) (f : Nat → Int) (hg : Blk w g t (us f n))
    (h : wpListIn F m Try.prog ops Q rest (a.put o.dst (uv f n)) w) : wpListIn F m Try.prog ops Q (o :: rest) a w := by
  refine wpListIn_plain hgd fun K hK' => ?_
  unfold Oper.wpIn
  refine ⟨?_, ?_⟩
  · simp [Oper.about, ho]
  · rw [Oper.semAt_plain F _ _ (by rw [ho]; intro c hc'; cases hc')]
    unfold execOp
    simp only [ho, hx, Instr.loadAt, Instr.sureAddr, Sem.run_bind, Sem.run_pure, Result.andThen_ok, run_load_us hT w g t f hg]
    exact hK' _ _ h

theorem arrIn_store {F : Fence} {m : Nat} {ty n : Nat} (hT : ArrT ty n) {ops : Array Oper} {rest : List Oper} {o : Oper} {a : Act} {w : World} {Q : Exit → Act → World → Prop} (hgd : o.guard = none) (x y : Operand) (ho : o.op = .store ty x y)
    (g : Nat) (hx : a.eval x = .pointer (some ⟨g, 0, none⟩)) (f : Nat → Int) (hy : a.eval y = uv f n) (t : TypeId) (old : Nat → Int) (hg : Blk w g t (us old n))
    (h : ∀ w', Blk w' g t (us f n) → w.grownBy w' (some g) → wpListIn F m Try.prog ops Q rest (a.put o.dst undef) w') : wpListIn F m Try.prog ops Q (o :: rest) a w := by
  obtain ⟨⟨e, hu⟩, hi⟩ := hT
  refine wpListIn_plain hgd fun K hK' => ?_
  unfold Oper.wpIn
  refine ⟨?_, ?_⟩
  · simp [Oper.about, ho]
  · rw [Oper.semAt_plain F _ _ (by rw [ho]; intro c hc'; cases hc')]
    unfold execOp
    simp only [ho, hx, hy, Instr.storeAt, Instr.sureAddr, Sem.run_bind, Sem.run_pure, Result.andThen_ok, run_storeVar_row (P := Try.prog) w g t ty (us old n).toArray (us f n).toArray hg (by rw [hi]; simp [us_length]) (by simp [us_length]) (us_all f n)]
    exact hK' _ _ (h _ (setRow_blk hg _) (setRow_grown _))
end Go.Proofs.Ytneilnfjnbecbaa
