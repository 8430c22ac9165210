/-
  hash.squareRoots, hash.cubeRoots, the reference's table: the first words, and those of the rounds.
-/
import Derived.Test.YtneilnfjnbecbaaWords
import Derived.Test.YtneilnfjnbecbaaArr
import Derived.IntWalk
import Derived.Outline
import Derived.Deep.QuietTactic
import Derived.BigQuiet
import Derived.Great.BuildSlice
namespace Go.Proofs.Ytneilnfjnbecbaa
open Go.RowKit

def sqList : List Int := [1779033703, 3144134277, 1013904242, 2773480762, 1359893119, 2600822924, 528734635, 1541459225]
def cbList : List Int := [0x428a2f98, 0x71374491, 0xb5c0fbcf, 0xe9b5dba5, 0x3956c25b, 0x59f111f1, 0x923f82a4, 0xab1c5ed5,
  0xd807aa98, 0x12835b01, 0x243185be, 0x550c7dc3, 0x72be5d74, 0x80deb1fe, 0x9bdc06a7, 0xc19bf174,
  0xe49b69c1, 0xefbe4786, 0x0fc19dc6, 0x240ca1cc, 0x2de92c6f, 0x4a7484aa, 0x5cb0a9dc, 0x76f988da,
  0x983e5152, 0xa831c66d, 0xb00327c8, 0xbf597fc7, 0xc6e00bf3, 0xd5a79147, 0x06ca6351, 0x14292967,
  0x27b70a85, 0x2e1b2138, 0x4d2c6dfc, 0x53380d13, 0x650a7354, 0x766a0abb, 0x81c2c92e, 0x92722c85,
  0xa2bfe8a1, 0xa81a664b, 0xc24b8b70, 0xc76c51a3, 0xd192e819, 0xd6990624, 0xf40e3585, 0x106aa070,
  0x19a4c116, 0x1e376c08, 0x2748774c, 0x34b0bcb5, 0x391c0cb3, 0x4ed8aa4a, 0x5b9cca4f, 0x682e6ff3,
  0x748f82ee, 0x78a5636f, 0x84c87814, 0x8cc70208, 0x90befffa, 0xa4506ceb, 0xbef9a3f7, 0xc67178f2]
/-- The state at first; the rounds' words. -/
def sq (k : Nat) : Int := sqList.getD k 0
def cb (k : Nat) : Int := cbList.getD k 0

theorem us_list (l : List Int) : l.map (Value.int .u32) = us (fun k => l.getD k 0) l.length := by
  apply List.ext_getElem?
  intro j
  by_cases hj : j < l.length
  · rw [us_at _ hj, List.getElem?_map, List.getElem?_eq_getElem hj]; simp [List.getD, hj]
  · rw [List.getElem?_eq_none (by simp; omega), List.getElem?_eq_none (by rw [us_length]; omega)]
theorem zero8 : ((Try.prog.info? 63).bind (·.zero)).map (·.cells.size) = some 8 := by kernel_rfl
theorem zero64 : ((Try.prog.info? 70).bind (·.zero)).map (·.cells.size) = some 64 := by kernel_rfl
theorem szW : (Try.prog.info? 62).map (·.size) = some 1 := by kernel_rfl
theorem und8 : Try.prog.underlying 63 = some (.array 8 62) := by kernel_rfl
theorem und64 : Try.prog.underlying 70 = some (.array 64 62) := by kernel_rfl

theorem us0_8 : us (fun _ => 0) 8 = [.int .u32 0, .int .u32 0, .int .u32 0, .int .u32 0, .int .u32 0, .int .u32 0, .int .u32 0, .int .u32 0] := rfl
theorem sq_us : sqList.map (Value.int .u32) = us sq 8 := us_list sqList
theorem cb_us : cbList.map (Value.int .u32) = us cb 64 := us_list cbList

set_option maxRecDepth 100000 in
set_option maxHeartbeats 4000000 in
theorem squareRoots_any (w : World) : Calls Try.prog 41 #[] w fun e W' => e = .returned (uv sq 8) ∧ Below w.heap.size w W' := by
  go_enter Try.func41, Try.ntmps41
  apply wp_seq_k; intro K0 hK0
  apply wp_region_lit
  refine wpList_plain rfl fun K hK => ?_
  go_simp
  refine hK _ _ ?_
  clear hK K
  apply wpList_nil
  refine hK0 _ _ ?_
  clear hK0 K0
  apply wp_seq_k; intro K0 hK0
  apply wp_region_lit
  refine wpList_buildFlatArrTo rfl 63 62 8 _ rfl .u32 sqList (some 1) rfl und8 szW zero8 (by kernel_rfl) ?_
  rw [sq_us]
  generalize hW0 : World.alloc _ _ = W0
  have kR : Blk W0 w.heap.size 63 (us (fun _ => 0) 8) := by rw [← hW0, us0_8]; exact Blk.new' rfl
  have d0 : Below w.heap.size w W0 := by rw [← hW0]; exact chain0 _ _
  clear hW0
  refine arr_store arr8 rfl (.tmp 0) (.tmp 1) rfl w.heap.size rfl sq rfl 63 (fun _ => 0) kR ?_
  intro w5 kR5 hg5
  apply wpList_nil
  refine hK0 _ _ ?_
  clear hK0 K0
  go_wp2
  exact bodyPost_ret (v := uv sq 8) (arr_result arr8 rfl _ _ w.heap.size 63 sq rfl kR5) rfl ⟨rfl, d0.grown hg5 d0.size (fun k e => by have : w.heap.size = k := Option.some.inj e; omega)⟩
set_option maxRecDepth 100000 in
set_option maxHeartbeats 4000000 in
theorem cubeRoots_any (w : World) : Calls Try.prog 63 #[] w fun e W' => e = .returned (uv cb 64) ∧ Below w.heap.size w W' := by
  go_enter Try.func63, Try.ntmps63
  apply wp_seq_k; intro K0 hK0
  apply wp_region_lit
  refine wpList_plain rfl fun K hK => ?_
  go_simp
  refine hK _ _ ?_
  clear hK K
  apply wpList_nil
  refine hK0 _ _ ?_
  clear hK0 K0
  apply wp_seq_k; intro K0 hK0
  apply wp_region_lit
  refine wpList_buildFlatArrTo rfl 70 62 64 _ rfl .u32 cbList (some 1) rfl und64 szW zero64 (by kernel_rfl) ?_
  rw [cb_us]
  generalize hW0 : World.alloc _ _ = W0
  have kR : Blk W0 w.heap.size 70 (us (fun _ => 0) 64) := by rw [← hW0, us0_64]; exact Blk.new' rfl
  have d0 : Below w.heap.size w W0 := by rw [← hW0]; exact chain0 _ _
  clear hW0
  refine arr_store arr64 rfl (.tmp 0) (.tmp 1) rfl w.heap.size rfl cb rfl 70 (fun _ => 0) kR ?_
  intro w5 kR5 hg5
  apply wpList_nil
  refine hK0 _ _ ?_
  clear hK0 K0
  go_wp2
  exact bodyPost_ret (v := uv cb 64) (arr_result arr64 rfl _ _ w.heap.size 70 cb rfl kR5) rfl ⟨rfl, d0.grown hg5 d0.size (fun k e => by have : w.heap.size = k := Option.some.inj e; omega)⟩
set_option maxRecDepth 100000 in
set_option maxHeartbeats 4000000 in
theorem table_any (w : World) : Calls Try.prog 50 #[] w fun e W' => e = .returned (uv cb 64) ∧ Below w.heap.size w W' := by
  go_enter Try.func50, Try.ntmps50
  apply wp_seq_k; intro K0 hK0
  apply wp_region_lit
  refine wpList_plain rfl fun K hK => ?_
  go_simp
  refine hK _ _ ?_
  clear hK K
  apply wpList_nil
  refine hK0 _ _ ?_
  clear hK0 K0
  apply wp_seq_k; intro K0 hK0
  apply wp_region_lit
  refine wpList_buildFlatArrTo rfl 70 62 64 _ rfl .u32 cbList (some 1) rfl und64 szW zero64 (by kernel_rfl) ?_
  rw [cb_us]
  generalize hW0 : World.alloc _ _ = W0
  have kR : Blk W0 w.heap.size 70 (us (fun _ => 0) 64) := by rw [← hW0, us0_64]; exact Blk.new' rfl
  have d0 : Below w.heap.size w W0 := by rw [← hW0]; exact chain0 _ _
  clear hW0
  refine arr_store arr64 rfl (.tmp 0) (.tmp 1) rfl w.heap.size rfl cb rfl 70 (fun _ => 0) kR ?_
  intro w5 kR5 hg5
  apply wpList_nil
  refine hK0 _ _ ?_
  clear hK0 K0
  go_wp2
  exact bodyPost_ret (v := uv cb 64) (arr_result arr64 rfl _ _ w.heap.size 70 cb rfl kR5) rfl ⟨rfl, d0.grown hg5 d0.size (fun k e => by have : w.heap.size = k := Option.some.inj e; omega)⟩
end Go.Proofs.Ytneilnfjnbecbaa
