/-
  The law's own example: the sum of "abc".
-/
import Derived.Test.YtboadnbkfoclpaaAbc
import Derived.Test.YtboadnbkfoclpaaHashSum
import Derived.Lib.SlBytesConst
namespace Go.Proofs.Ytboadnbkfoclpaa
open Go.RowKit Go.Shelf

set_option maxRecDepth 100000 in
set_option maxHeartbeats 2000000 in
theorem hashAlive_any (w : World) : Calls Try.prog 6 #[] w fun e W' => e = .returned (.bool true) ∧ Below w.heap.size w W' := by
  have kc := fun (w : World) (C : Array Value) (n c : Nat) => Lib.run_convert_bytes_const (P := Try.prog) w 22 5 C n c Try.underlying22 Try.underlying5
  go_enter Try.func6, Try.ntmps6
  go_wp2_with fail
  generalize hW0 : World.alloc _ _ = W0
  have kA : ∀ k, W0.cell? ⟨w.heap.size, k, none⟩ = (#[.int .u8 97, .int .u8 98, .int .u8 99] : Array Value)[k]? := fun k => by rw [← hW0]; exact cell_of_row _ _ _ _ _ _ (World.alloc_heap_new _ _)
  have kL : w.heap.size < W0.heap.size := by rw [← hW0]; simp
  have d0 : Below w.heap.size w W0 := by rw [← hW0]; exact chain0 _ _
  clear hW0
  have hA : BSl 0 W0.heap.size W0 (.slice (some ⟨w.heap.size, 0, none⟩) 3 3) [97, 98, 99] := ⟨_, 3, rfl, Nat.le_refl _, .inr ⟨_, 0, rfl, Nat.zero_le _, kL, fun k x hx => by
    have hk : k < 3 := (List.getElem?_eq_some_iff.1 hx).1
    have : k = 0 ∨ k = 1 ∨ k = 2 := by omega
    rcases this with rfl | rfl | rfl <;> (cases hx; exact kA _)⟩⟩
  refine (sum_any [97, 98, 99] _ _ (by simp) hA).mono ?_
  rintro e w1 ⟨sv, rfl, hown, hb1⟩
  obtain ⟨r, hr, hrl⟩ := abc_sum
  rw [hr] at hown
  have hS := BSl.of_own hown
  have hl : ([186, 120, 22, 191] ++ r : List UInt8).length = 32 := by simp [hrl]
  obtain ⟨a, c, rfl, hc, h0⟩ := hS
  obtain ⟨b, off, rfl, _, hb, ho⟩ := h0.resolve_left (by simp)
  rw [hl]
  have c0 : w1.cell? ⟨b, off, none⟩ = some (.int .u8 186) := ho 0 186 rfl
  have c1 : w1.cell? ⟨b, off + 1, none⟩ = some (.int .u8 120) := ho 1 120 rfl
  have c2 : w1.cell? ⟨b, off + 2, none⟩ = some (.int .u8 22) := ho 2 22 rfl
  have c3 : w1.cell? ⟨b, off + 3, none⟩ = some (.int .u8 191) := ho 3 191 rfl
  go_wp2_with fail
  go_ret
  exact ⟨rfl, chain d0 hb1⟩
end Go.Proofs.Ytboadnbkfoclpaa
