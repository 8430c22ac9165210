/-
  The reference's Roots: a state at first, and the rounds' words, reckoned from primes.
-/
import Derived.Test.YtboadnbkfoclpaaRefRoot
import Derived.Test.YtboadnbkfoclpaaRefPrime
import Derived.Test.YtboadnbkfoclpaaRootWords
import Derived.Test.YtboadnbkfoclpaaArrIn
import Derived.RegionTactic
import Derived.Outline
namespace Go.Proofs.Ytboadnbkfoclpaa
open Go.RowKit

def primes : List Nat := [2, 3, 5, 7, 11, 13, 17, 19, 23, 29, 31, 37, 41, 43, 47, 53, 59, 61, 67, 71, 73, 79, 83, 89, 97, 101, 103, 107, 109, 113, 127, 131, 137, 139, 149, 151, 157, 163, 167, 173, 179, 181, 191, 193, 197, 199, 211, 223, 227, 229, 233, 239, 241, 251, 257, 263, 269, 271, 277, 281, 283, 293, 307, 311]
theorem pr_primes : pr 312 = primes := by kernel_rfl
def chkSq : Bool := (List.range 8).all fun i => ((rootV 2 (primes.getD i 0) : Nat) : Int) == sq i
def chkCb : Bool := (List.range 64).all fun i => ((rootV 3 (primes.getD i 0) : Nat) : Int) == cb i && decide (primes.getD i 0 ≤ 1000)
theorem chkSq_ok : chkSq = true := by kernel_rfl
theorem chkCb_ok : chkCb = true := by kernel_rfl
theorem rangeAll {n : Nat} {f : Nat → Bool} (h : (List.range n).all f = true) (k : Nat) (hk : k < n) : f k = true := List.all_eq_true.1 h k (List.mem_range.2 hk)
theorem root_sq {i : Nat} (h : i < 8) : ((rootV 2 (prF 312 i) : Nat) : Int) = sq i := by
  unfold prF; rw [pr_primes]; exact eq_of_beq (rangeAll chkSq_ok i h)
theorem root_cb {i : Nat} (h : i < 64) : ((rootV 3 (prF 312 i) : Nat) : Int) = cb i ∧ prF 312 i ≤ 1000 := by
  unfold prF; rw [pr_primes]
  have := rangeAll chkCb_ok i h
  rw [Bool.and_eq_true] at this
  exact ⟨eq_of_beq this.1, of_decide_eq_true this.2⟩

theorem arr_result2 {ty n ty' n' : Nat} (hT : ArrT ty n) (hT' : ArrT ty' n') {fn : Func} {p p' : Tmp} (h : fn.results = #[.cell p ty, .cell p' ty']) (tmps : Array Value) (w : World) (g g' : Nat) (t t' : TypeId) (f f' : Nat → Int)
    (hp : tmps.getD p undef = .pointer (some ⟨g, 0, none⟩)) (hp' : tmps.getD p' undef = .pointer (some ⟨g', 0, none⟩)) (hg : Blk w g t (us f n)) (hg' : Blk w g' t' (us f' n')) : (results fn tmps).run Try.prog w = .ok (.tuple #[uv f n, uv f' n']) w := by
  have r1 := run_load_us hT w g t f hg
  have r2 := run_load_us hT' w g' t' f' hg'
  have q1 : tmps[p]?.getD undef = .pointer (some ⟨g, 0, none⟩) := by simpa using hp
  have q2 : tmps[p']?.getD undef = .pointer (some ⟨g', 0, none⟩) := by simpa using hp'
  simp [results, h, q1, q2, asAddr, r1, r2]

set_option maxRecDepth 100000 in
set_option maxHeartbeats 4000000 in
theorem roots_any (w : World) : Calls Try.prog 7 #[] w fun e W' => e = .returned (.tuple #[uv sq 8, uv cb 64]) ∧ Below w.heap.size w W' := by
  have hmx : Try.prog.follows .mixedOrders = true := by kernel_rfl
  go_enter Try.func7, Try.ntmps7
  go_wp2_with fail
  generalize hW0 : World.alloc _ _ = W0
  have kR1 : Blk W0 w.heap.size 25 (us (fun _ => 0) 8) := by rw [← hW0, us0_8]; exact (((Blk.new' rfl).alloc _).alloc _).alloc _
  have kR2 : Blk W0 (w.heap.size + 1) 26 (us (fun _ => 0) 64) := by rw [← hW0, us0_64]; exact ((Blk.new' (by simp)).alloc _).alloc _
  have kH : Blk W0 (w.heap.size + 1 + 1) 25 (us (fun _ => 0) 8) := by rw [← hW0, us0_8]; exact (Blk.new' (by simp)).alloc _
  have kK : Blk W0 (w.heap.size + 1 + 1 + 1) 26 (us (fun _ => 0) 64) := by rw [← hW0, us0_64]; exact Blk.new' (by simp)
  have d0 : Below w.heap.size w W0 := by rw [← hW0]; exact chainA (chainA (chainA (chain0 _ _) _) _) _
  have hz0 : W0.heap.size = w.heap.size + 4 := by rw [← hW0]; simp
  clear hW0
  refine (prime_any _).mono ?_
  rintro e w1 ⟨g, cap, rfl, hg0, hg1, hn, hb1⟩
  replace kR1 := kR1.below hb1 kR1.lt
  replace kR2 := kR2.below hb1 kR2.lt
  replace kH := kH.below hb1 kH.lt
  replace kK := kK.below hb1 kK.lt
  replace d0 := chain d0 hb1
  have hgw : w.heap.size + 4 ≤ g := by omega
  have hwz : w.heap.size + 4 ≤ w1.heap.size := by omega
  clear hb1 hz0 hg0
  go_wp2_with fail
  go_loopw [5] (fun i wr => ∃ k : Nat, k ≤ 64 ∧ i = .int .i64 k ∧ (Blk wr w.heap.size 25 (us (fun _ => 0) 8) ∧ Blk wr (w.heap.size + 1) 26 (us (fun _ => 0) 64)) ∧ Blk wr (w.heap.size + 1 + 1) 25 (us (fun t => if t < k then sq t else 0) 8) ∧ Blk wr (w.heap.size + 1 + 1 + 1) 26 (us (fun t => if t < k then cb t else 0) 64) ∧ Nums wr g 64 (prF 312) ∧ Below w.heap.size w wr ∧ w1.heap.size ≤ wr.heap.size) (fun i _ => 64 - (intOf i).toNat)
  case atStart => exact ⟨0, by omega, rfl, ⟨kR1, kR2⟩, by rw [us_congr (g := fun _ => 0) (fun t _ => if_neg (by omega))]; exact kH, by rw [us_congr (g := fun _ => 0) (fun t _ => if_neg (by omega))]; exact kK, hn, d0, Nat.le_refl _⟩
  clear kR1 kR2 kH kK d0 hn
  case round =>
    obtain ⟨k, hk, rfl, ⟨kR1, kR2⟩, kH, kK, hn, hB, hsz⟩ := hrel
    by_cases hlt : k < 64
    · have hk64 : (k : Int) < 64 := by omega
      obtain ⟨hcb, hp⟩ := root_cb hlt
      have HCB := Lib.hid hcb
      clear hcb
      have hc := hn k hlt
      by_cases h8 : k < 8
      · have hk8 : (k : Int) < 8 := by omega
        have HSQ := Lib.hid (root_sq h8)
        generalize prF 312 k = x at *
        go_wp2_with fail
        refine (root_any x 2 (.inl rfl) hp _).mono ?_
        rintro e w2 ⟨rfl, hb2⟩
        rw [HSQ.out]
        have hB2 := hB.trans (hb2.mono hB.size)
        have hsz2 := hb2.size
        have q1 := kR1.below hb2 kR1.lt
        have q2 := kR2.below hb2 kR2.lt
        have q3 := kH.below hb2 kH.lt
        have q4 := kK.below hb2 kK.lt
        have qn := hn.below hb2 (by omega)
        have hc2 := (hb2.cell (p := ⟨g, k, none⟩) (show g < wr.heap.size by omega)).trans hc
        have cH := (q3.cell k).trans (us_at _ h8)
        have fH := q3.frozen k
        have hgne : ¬ g = w.heap.size + 1 + 1 := by omega
        have hu : us (updI (fun t => if t < k then sq t else 0) k (sq k)) 8 = us (fun t => if t < k + 1 then sq t else 0) 8 := us_congr fun j _ => by
          unfold updI
          by_cases e1 : j = k
          · subst e1; rw [if_pos rfl, if_pos (by omega)]
          · rw [if_neg e1]
            show (if j < k then sq j else 0) = _
            by_cases e2 : j < k
            · rw [if_pos e2, if_pos (by omega)]
            · rw [if_neg e2, if_neg (by omega)]
        have HU := Lib.hid hu
        clear hu hc
        generalize hz : sq k = z at *
        go_wp2_with fail
        have q3' := q3.set k (.int .u32 z)
        rw [us_set, HU.out] at q3'
        have q1' := q1.other (B' := w.heap.size + 1 + 1) k (.int .u32 z) (by omega)
        have q2' := q2.other (B' := w.heap.size + 1 + 1) k (.int .u32 z) (by omega)
        have q4' := q4.other (B' := w.heap.size + 1 + 1) k (.int .u32 z) (by omega)
        have qn' : Nums (w2.setCell ⟨w.heap.size + 1 + 1, k, none⟩ (.int .u32 z)) g 64 (prF 312) := fun j hj => (World.cell?_of_block (a := ⟨g, j, none⟩) (Below.heap_setCell _ ⟨w.heap.size + 1 + 1, k, none⟩ _ g (by show g ≠ _; omega))).trans (qn j hj)
        have hB3 := hB2.setCell (p := ⟨w.heap.size + 1 + 1, k, none⟩) (by simp; omega) (.int .u32 z)
        have hsz3 : w2.heap.size = (w2.setCell ⟨w.heap.size + 1 + 1, k, none⟩ (.int .u32 z)).heap.size := (by simp)
        clear q1 q2 q3 q4 qn hB2 cH fH hc2
        generalize World.setCell _ _ _ = W3 at *
        refine (root_any x 3 (.inr rfl) hp _).mono ?_
        rintro e w4 ⟨rfl, hb4⟩
        rw [HCB.out]
        have r1 := q1'.below hb4 q1'.lt
        have r2 := q2'.below hb4 q2'.lt
        have r3 := q3'.below hb4 q3'.lt
        have r4 := q4'.below hb4 q4'.lt
        have rn := qn'.below hb4 (by omega)
        have hB5 := chain hB3 hb4
        have hsz5 := hb4.size
        have cK := (r4.cell k).trans (us_at _ hlt)
        have fK := r4.frozen k
        have hv : us (updI (fun t => if t < k then cb t else 0) k (cb k)) 64 = us (fun t => if t < k + 1 then cb t else 0) 64 := us_congr fun j _ => by
          unfold updI
          by_cases e1 : j = k
          · subst e1; rw [if_pos rfl, if_pos (by omega)]
          · rw [if_neg e1]
            show (if j < k then cb j else 0) = _
            by_cases e2 : j < k
            · rw [if_pos e2, if_pos (by omega)]
            · rw [if_neg e2, if_neg (by omega)]
        have HV := Lib.hid hv
        clear hv
        generalize hy : cb k = y at *
        go_wp2_with fail
        have r4' := r4.set k (.int .u32 y)
        rw [us_set, HV.out] at r4'
        exact ⟨⟨k + 1, by omega, by simp, ⟨r1.other _ _ (by omega), r2.other _ _ (by omega)⟩, r3.other _ _ (by omega), r4', fun j hj => (World.cell?_of_block (a := ⟨g, j, none⟩) (Below.heap_setCell _ ⟨w.heap.size + 1 + 1 + 1, k, none⟩ _ g (by show g ≠ w.heap.size + 1 + 1 + 1; omega))).trans (rn j hj), hB5.setCell (p := ⟨w.heap.size + 1 + 1 + 1, k, none⟩) (by simp; omega) _, by simp; omega⟩, by simp [intOf]; omega⟩
      · have hk8 : ¬ (k : Int) < 8 := by omega
        have q3' : Blk wr (w.heap.size + 1 + 1) 25 (us (fun t => if t < k + 1 then sq t else 0) 8) := by
          rw [us_congr (g := fun t => if t < k then sq t else 0) (fun t ht => by rw [if_pos (by omega), if_pos (by omega)])]; exact kH
        have q1' := kR1
        have q2' := kR2
        have q4' := kK
        have qn' := hn
        have hB3 := hB
        clear kR1 kR2 kK hn hB kH
        generalize prF 312 k = x at *
        go_wp2_with fail
        refine (root_any x 3 (.inr rfl) hp _).mono ?_
        rintro e w4 ⟨rfl, hb4⟩
        rw [HCB.out]
        have r1 := q1'.below hb4 q1'.lt
        have r2 := q2'.below hb4 q2'.lt
        have r3 := q3'.below hb4 q3'.lt
        have r4 := q4'.below hb4 q4'.lt
        have rn := qn'.below hb4 (by omega)
        have hB5 := chain hB3 hb4
        have hsz5 := hb4.size
        have cK := (r4.cell k).trans (us_at _ hlt)
        have fK := r4.frozen k
        have hv : us (updI (fun t => if t < k then cb t else 0) k (cb k)) 64 = us (fun t => if t < k + 1 then cb t else 0) 64 := us_congr fun j _ => by
          unfold updI
          by_cases e1 : j = k
          · subst e1; rw [if_pos rfl, if_pos (by omega)]
          · rw [if_neg e1]
            show (if j < k then cb j else 0) = _
            by_cases e2 : j < k
            · rw [if_pos e2, if_pos (by omega)]
            · rw [if_neg e2, if_neg (by omega)]
        have HV := Lib.hid hv
        clear hv
        generalize hy : cb k = y at *
        go_wp2_with fail
        have r4' := r4.set k (.int .u32 y)
        rw [us_set, HV.out] at r4'
        exact ⟨⟨k + 1, by omega, by simp, ⟨r1.other _ _ (by omega), r2.other _ _ (by omega)⟩, r3.other _ _ (by omega), r4', fun j hj => (World.cell?_of_block (a := ⟨g, j, none⟩) (Below.heap_setCell _ ⟨w.heap.size + 1 + 1 + 1, k, none⟩ _ g (by show g ≠ w.heap.size + 1 + 1 + 1; omega))).trans (rn j hj), hB5.setCell (p := ⟨w.heap.size + 1 + 1 + 1, k, none⟩) (by simp; omega) _, by simp; omega⟩, by simp [intOf]; omega⟩
    · obtain rfl : k = 64 := by omega
      rw [us_congr (g := sq) (fun t ht => if_pos (by omega))] at kH
      rw [us_congr (g := cb) (fun t ht => if_pos ht)] at kK
      go_wp2_with fail
      refine wp_region_any hmx ?_
      change wpAny _ _ _ _ _ _ _ wr.drew
      replace kR1 : Blk wr.drew w.heap.size 25 (us (fun _ => 0) 8) := kR1
      replace kR2 : Blk wr.drew (w.heap.size + 1) 26 (us (fun _ => 0) 64) := kR2
      replace kH : Blk wr.drew (w.heap.size + 1 + 1) 25 (us sq 8) := kH
      replace kK : Blk wr.drew (w.heap.size + 1 + 1 + 1) 26 (us cb 64) := kK
      replace hB : Below w.heap.size w wr.drew := hB.drew
      clear hn hsz
      generalize wr.drew = wq at *
      refine wpAny_ready (rs := [0, 1]) (by kernel_rfl) (by simp) ?_
      refine AllReady.cons rfl (fun K hK => ?_) (AllReady.cons rfl (fun K hK => ?_) AllReady.nil)
      · refine step_load_us arr8 rfl (.tmp 2) rfl (w.heap.size + 1 + 1) rfl 25 sq kH ?_
        refine hK _ _ ?_
        clear hK K
        refine wpAny_ready (rs := [1, 2]) (by kernel_rfl) (by simp) ?_
        refine AllReady.cons rfl (fun K hK => ?_) (AllReady.cons rfl (fun K hK => ?_) AllReady.nil)
        · refine step_load_us arr64 rfl (.tmp 3) rfl (w.heap.size + 1 + 1 + 1) rfl 26 cb kK ?_
          refine hK _ _ ?_
          clear hK K
          refine wpAny_ready (rs := [2]) (by kernel_rfl) (by simp) ?_
          refine AllReady.cons rfl (fun K hK => ?_) AllReady.nil
          refine step_store_us arr8 rfl (.tmp 0) (.tmp 27) rfl w.heap.size rfl sq rfl 25 (fun _ => 0) kR1 ?_
          intro W5 kS1 hg5
          have kT2 := kR2.kept hg5 (by simp)
          have kK5 := kK.kept hg5 (by simp; omega)
          have hB5 := hB.grown hg5 hB.size (fun k e => by have : w.heap.size = k := Option.some.inj e; omega)
          refine hK _ _ ?_
          clear hK K
          refine wpAny_ready (rs := [3]) (by kernel_rfl) (by simp) ?_
          refine AllReady.cons rfl (fun K hK => ?_) AllReady.nil
          refine step_store_us arr64 rfl (.tmp 1) (.tmp 28) rfl (w.heap.size + 1) rfl cb rfl 26 (fun _ => 0) kT2 ?_
          intro W6 kS2 hg6
          have kS3 := kS1.kept hg6 (by simp)
          have hB6 := hB5.grown hg6 hB5.size (fun k e => by have : w.heap.size + 1 = k := Option.some.inj e; omega)
          refine hK _ _ ?_
          clear hK K
          refine wpAny_done (by kernel_rfl) ?_ _
          go_wp2
          exact bodyPost_ret (v := .tuple #[uv sq 8, uv cb 64]) (arr_result2 arr8 arr64 rfl _ _ w.heap.size (w.heap.size + 1) 25 26 sq cb rfl rfl kS3 kS2) rfl ⟨rfl, hB6⟩
        · refine step_store_us arr8 rfl (.tmp 0) (.tmp 27) rfl w.heap.size rfl sq rfl 25 (fun _ => 0) kR1 ?_
          intro W5 kS1 hg5
          have kT2 := kR2.kept hg5 (by simp)
          have kK5 := kK.kept hg5 (by simp; omega)
          have hB5 := hB.grown hg5 hB.size (fun k e => by have : w.heap.size = k := Option.some.inj e; omega)
          refine hK _ _ ?_
          clear hK K
          refine wpAny_ready (rs := [1]) (by kernel_rfl) (by simp) ?_
          refine AllReady.cons rfl (fun K hK => ?_) AllReady.nil
          refine step_load_us arr64 rfl (.tmp 3) rfl (w.heap.size + 1 + 1 + 1) rfl 26 cb kK5 ?_
          refine hK _ _ ?_
          clear hK K
          refine wpAny_ready (rs := [3]) (by kernel_rfl) (by simp) ?_
          refine AllReady.cons rfl (fun K hK => ?_) AllReady.nil
          refine step_store_us arr64 rfl (.tmp 1) (.tmp 28) rfl (w.heap.size + 1) rfl cb rfl 26 (fun _ => 0) kT2 ?_
          intro W6 kS2 hg6
          have kS3 := kS1.kept hg6 (by simp)
          have hB6 := hB5.grown hg6 hB5.size (fun k e => by have : w.heap.size + 1 = k := Option.some.inj e; omega)
          refine hK _ _ ?_
          clear hK K
          refine wpAny_done (by kernel_rfl) ?_ _
          go_wp2
          exact bodyPost_ret (v := .tuple #[uv sq 8, uv cb 64]) (arr_result2 arr8 arr64 rfl _ _ w.heap.size (w.heap.size + 1) 25 26 sq cb rfl rfl kS3 kS2) rfl ⟨rfl, hB6⟩
      · refine step_load_us arr64 rfl (.tmp 3) rfl (w.heap.size + 1 + 1 + 1) rfl 26 cb kK ?_
        refine hK _ _ ?_
        clear hK K
        refine wpAny_ready (rs := [0]) (by kernel_rfl) (by simp) ?_
        refine AllReady.cons rfl (fun K hK => ?_) AllReady.nil
        refine step_load_us arr8 rfl (.tmp 2) rfl (w.heap.size + 1 + 1) rfl 25 sq kH ?_
        refine hK _ _ ?_
        clear hK K
        refine wpAny_ready (rs := [2]) (by kernel_rfl) (by simp) ?_
        refine AllReady.cons rfl (fun K hK => ?_) AllReady.nil
        refine step_store_us arr8 rfl (.tmp 0) (.tmp 27) rfl w.heap.size rfl sq rfl 25 (fun _ => 0) kR1 ?_
        intro W5 kS1 hg5
        have kT2 := kR2.kept hg5 (by simp)
        have kK5 := kK.kept hg5 (by simp; omega)
        have hB5 := hB.grown hg5 hB.size (fun k e => by have : w.heap.size = k := Option.some.inj e; omega)
        refine hK _ _ ?_
        clear hK K
        refine wpAny_ready (rs := [3]) (by kernel_rfl) (by simp) ?_
        refine AllReady.cons rfl (fun K hK => ?_) AllReady.nil
        refine step_store_us arr64 rfl (.tmp 1) (.tmp 28) rfl (w.heap.size + 1) rfl cb rfl 26 (fun _ => 0) kT2 ?_
        intro W6 kS2 hg6
        have kS3 := kS1.kept hg6 (by simp)
        have hB6 := hB5.grown hg6 hB5.size (fun k e => by have : w.heap.size + 1 = k := Option.some.inj e; omega)
        refine hK _ _ ?_
        clear hK K
        refine wpAny_done (by kernel_rfl) ?_ _
        go_wp2
        exact bodyPost_ret (v := .tuple #[uv sq 8, uv cb 64]) (arr_result2 arr8 arr64 rfl _ _ w.heap.size (w.heap.size + 1) 25 26 sq cb rfl rfl kS3 kS2) rfl ⟨rfl, hB6⟩
end Go.Proofs.Ytboadnbkfoclpaa
