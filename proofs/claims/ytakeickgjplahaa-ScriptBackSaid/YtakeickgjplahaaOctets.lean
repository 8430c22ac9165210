/-
  blob.octets hands back a sequence of a number's octets, the highest first.
-/
import Derived.Test.YtakeickgjplahaaBytes
namespace Go.Proofs.Ytakeickgjplahaa
open Go.RowKit Go.Shelf
attribute [local go_sem] Oper.semAt_some

theorem oct_toNat (n p : Nat) : ((oct n p).toNat : Int) = (n : Int) / 2 ^ (p * 8) % 256 := by
  unfold oct
  rw [UInt8.toNat_ofNat']
  simp

theorem oct_bv (n p : Nat) : bv (oct n p) = .int .u8 ((n : Int) / 2 ^ (p * 8) % 256) := by rw [← oct_toNat]

set_option maxRecDepth 100000 in
set_option maxHeartbeats 2000000 in
theorem octets1_stops (F : Fence) (m : Nat) (h : F.fn 25) (hro : F.round = none) (hm : 1 ≤ m) (n s : Nat) (hs : s ≤ 8) (Bn Bs : Nat) (w : World) (hBn : Bn < w.heap.size) (hBs : Bs < w.heap.size)
    (hcn : w.cell? ⟨Bn, 0, none⟩ = some (.int .u64 (n : Nat))) (hcs : w.cell? ⟨Bs, 0, none⟩ = some (.int .i64 (s : Nat))) (Kp : World → World → Prop) (hKp : ∀ A B, Kp A B → B.cell? ⟨Bn, 0, none⟩ = A.cell? ⟨Bn, 0, none⟩) :
    SeqStopsK F m Try.prog 25 #[.pointer (some ⟨Bs, 0, none⟩), .pointer (some ⟨Bn, 0, none⟩)] (fun x => #[bv x]) Kp (fun ys => ys = octs n s) (fun _ => True) s w := fun l J Jx W hW _ _ hY h0 => by
  have hcn' := (hW.cell (p := ⟨Bn, 0, none⟩) hBn).trans hcn
  have hcs' := (hW.cell (p := ⟨Bs, 0, none⟩) hBs).trans hcs
  clear hcn hcs
  refine callsIn_of_wp Try.func25 rfl h ?_ hro
  simp only [Try.ntmps25, List.size_toArray, List.length_cons, List.length_nil, Nat.reduceAdd, Nat.reduceSub, Array.replicate_succ, Array.replicate_zero, List.push_toArray, List.append_toArray, List.nil_append, List.cons_append]
  have hs' : (s : Int) ≤ 8 := by omega
  gi_wp2
  clear hcs'
  gi_loopw [4] (fun i wr => ∃ k : Nat, k ≤ s ∧ i = .int .i64 ((s : Int) - 1 - k) ∧ wr.cell? ⟨Bn, 0, none⟩ = some (.int .u64 (n : Nat)) ∧ J ((octs n s).take k) wr) (fun i _ => ((intOf i) + 1).toNat)
  case atStart => exact ⟨0, by omega, by simp, hcn', h0⟩
  case round =>
    obtain ⟨k, hk, rfl, hcw, hJs⟩ := hrel
    clear hcn'
    by_cases hlt : k < s
    · obtain ⟨fn, tmps, assign, body, hy, hR⟩ := hY _ (oct n (s - 1 - k)) wr hJs (by simp [octs_length]; omega)
      have ht : (octs n s).take (k + 1) = (octs n s).take k ++ [oct n (s - 1 - k)] := by rw [List.take_add_one, octs_at n s k hlt]; rfl
      have HT := Lib.hid ht
      clear ht
      have hp : (s : Int) - 1 - k = ((s - 1 - k : Nat) : Int) := by omega
      have hpl : s - 1 - k ≤ 7 := by omega
      rw [hp]
      generalize s - 1 - k = p at *
      have HP := Lib.hid hp
      clear hp
      rw [oct_bv] at hy
      gi_wp2
      refine hR.mono ?_
      clear hy
      rintro e W3 (⟨rfl, hJ3, hk3⟩ | ⟨rfl, hJx3⟩)
      · have hcw3 := (hKp _ _ hk3).trans hcw
        clear hcw
        gi_wp2
        have hq : ((s : Int) - 1 - ((k + 1 : Nat) : Int)) = (p : Int) - 1 := by have := HP.out; omega
        go_roundw
        case rel => exact ⟨k + 1, by omega, by rw [hq], hcw3, by rw [HT.out]; exact hJ3⟩
        case measure => simp [intOf]
      · gi_wp2
        refine bodyPost_ret (results_none rfl _ _ _) rfl ?_
        exact ⟨⟨_, rfl⟩, .inr ⟨_, trivial, hJx3⟩⟩
    · obtain rfl : k = s := by omega
      have hp : (k : Int) - 1 - k = -1 := by omega
      rw [hp]
      clear hp
      gi_wp2
      go_end0
      rw [List.take_of_length_le (by rw [octs_length]; omega)] at hJs
      exact ⟨⟨_, rfl⟩, .inl ⟨_, rfl, hJs⟩⟩

set_option maxHeartbeats 1000000 in
theorem octets_in (F : Fence) (m : Nat) (h : F.fn 22) (hro : F.round = none) (n s : Int) (w : World) :
    CallsIn F m Try.prog 22 #[.int .u64 n, .int .i64 s] w fun e w' => e = .returned (.func (.func 25) #[] #[.pointer (some ⟨w.heap.size + 1, 0, none⟩), .pointer (some ⟨w.heap.size, 0, none⟩)]) ∧ w' = (w.alloc (.cells #[.int .u64 n] 54)).alloc (.cells #[.int .i64 s] 3) := by
  refine callsIn_of_wp Try.func22 rfl h ?_ hro
  simp only [Try.ntmps22, List.size_toArray, List.length_cons, List.length_nil, Nat.reduceAdd, Nat.reduceSub, Array.replicate_succ, Array.replicate_zero, List.push_toArray, List.append_toArray, List.nil_append, List.cons_append]
  gi_wp2
  go_ret
  exact ⟨rfl, rfl⟩

end Go.Proofs.Ytakeickgjplahaa
