/-
  A store into an element of a row of the call's own.
-/
import Derived.Test.YtakeickgjplahaaSepW
import Derived.Test.YtakeickgjplahaaKit
namespace Go.Proofs.Ytakeickgjplahaa
open Go.RowKit Go.Shelf

theorem flat_laid {α : Type} {f : α → List Value} {n : Nat} (hn : ∀ x, (f x).length = n) {l : List α} {k j : Nat} {x y : α} {ns : List Value} (hx : l[k]? = some x) (hle : j + ns.length ≤ n) (hy : laid (f x) j ns = f y) : laid (flatR f l) (k * n + j) ns = flatR f (l.set k y) := by
  obtain ⟨hk, rfl⟩ := List.getElem?_eq_some_iff.1 hx
  have e1 : flatR f l = flatR f (l.take k) ++ (f l[k] ++ flatR f (l.drop (k + 1))) := by
    rw [← flat_cons, List.getElem_cons_drop, ← flat_app, List.take_append_drop]
  have e2 : flatR f (l.set k y) = flatR f (l.take k) ++ (f y ++ flatR f (l.drop (k + 1))) := by
    rw [List.set_eq_take_append_cons_drop, if_pos hk, flat_app, flat_cons]
  rw [e1, e2, laid_in (by rw [flat_len hn, List.length_take, Nat.min_eq_left (Nat.le_of_lt hk)]) ns j (by rw [hn]; exact hle), hy]
theorem laid_take {vs : List Value} {o m : Nat} {ns : List Value} (h : o + ns.length ≤ m) (hm : m ≤ vs.length) : (laid vs o ns).take m = laid (vs.take m) o ns := by
  obtain ⟨d, rfl⟩ : ∃ d, m = o + ns.length + d := ⟨m - (o + ns.length), by omega⟩
  have hA : (vs.take o ++ ns).length = o + ns.length := by rw [List.length_append, List.length_take]; omega
  have e1 : ∀ C : List Value, (vs.take o ++ ns ++ C).take (o + ns.length + d) = vs.take o ++ ns ++ C.take d := fun C => by
    rw [← hA]
    exact List.take_length_add_append _
  unfold laid
  rw [e1, List.take_take, Nat.min_eq_left (by omega), List.drop_take, Nat.add_sub_cancel_left]
theorem own_store {α : Type} {f : α → List Value} {e : TypeId} {n : Nat} {v : Value} {l : List α} {W W0 : World} (h : ROk (.own f e n v l) W) (hn : ∀ x, (f x).length = n) {k : Nat} {x : α} (hx : l[k]? = some x) {ty e' : TypeId} (hu : Try.prog.underlying ty = some (.slice e')) (hs : ∀ W, (sizeOf e').run Try.prog W = .ok n W)
    {b o : Nat} (hi : (Instr.indexAt ty v (.int .i64 (k : Int))).run Try.prog W0 = .ok (.pointer (some ⟨b, o, none⟩)) W0) (y : α) (j : Nat) (tv : TypeId) (val : Value) (hinf : (Try.prog.info? tv).map (·.size) = some val.cells.size) (hle : j + val.cells.size ≤ n) (h1 : val.cells.all (·.oneCell') = true) (hy : laid (f x) j val.cells.toList = f y) :
    ∃ W', (Instr.storeAt tv (.pointer (some ⟨b, o + j, none⟩)) val).run Try.prog W = .ok () W' ∧ RTurn (.own f e n v l) (.own f e n v (l.set k y)) W W' := by
  have hk : k < l.length := (List.getElem?_eq_some_iff.1 hx).1
  rcases h.h.2 with ⟨_, h0⟩ | ⟨g, cap, cur, rfl, hg, hc, hnc, hm, hsz, ht⟩
  · omega
  · have hB : Blk W g e cur.toList := hc
    have hi2 := idx_sl (W := W0) (b := g) (off := 0) (len := l.length) (cap := cap) (c := n) hu (hs W0) hk
    rw [Nat.zero_add] at hi2
    obtain ⟨rfl, rfl⟩ : g = b ∧ k * n = o := by simpa using hi2.symm.trans hi
    have hkn : (k + 1) * n ≤ l.length * n := Nat.mul_le_mul_right _ hk
    have hcn : l.length * n ≤ cap * n := Nat.mul_le_mul_right _ hnc
    rw [Nat.succ_mul] at hkn
    have hcl : cur.toList.length = cap * n := (Array.length_toList).trans hsz
    have hvl : val.cells.toList.length = val.cells.size := Array.length_toList
    have hlen : k * n + j + val.cells.size ≤ cur.toList.length := by omega
    refine ⟨_, run_store_part hB (k * n + j) val tv hinf hlen h1, turn_own ⟨?_, .inr ⟨g, cap, (laid cur.toList (k * n + j) val.cells.toList).toArray, by rw [List.length_set], hg, hB.row _, by rw [List.length_set]; exact hnc, hm, ?_, ?_⟩⟩ (by exact grownBy_row W g _) (fun q hq => .inl hq)⟩
    · rw [flat_len hn]
    · rw [List.size_toArray]
      unfold laid
      rw [List.length_append, List.length_append, List.length_take, List.length_drop]
      omega
    · rw [List.toList_toArray, List.length_set, laid_take (by omega) (by omega), ht]
      exact flat_laid hn hx (by omega) hy
end Go.Proofs.Ytakeickgjplahaa
