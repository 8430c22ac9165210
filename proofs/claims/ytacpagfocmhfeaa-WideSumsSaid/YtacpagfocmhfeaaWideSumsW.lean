/-
  The walk of WideSums: it answers true at every list of wide numbers and every wide number.
-/
import Derived.Test.YtacpagfocmhfeaaWideSum
import Derived.Test.YtacpagfocmhfeaaWideSmall
import Derived.Test.YtacpagfocmhfeaaRefAdd
import Derived.Test.YtacpagfocmhfeaaRound
import Derived.Test.YtacpagfocmhfeaaWideOr
namespace Go.Proofs.Ytacpagfocmhfeaa
open Go.RowKit Go.Shelf

theorem WSl.mono {n m : Nat} {W : World} {sv : Value} {zs : List WW} (h : WSl n W sv zs) (hm : n ≤ m) : WSl m W sv zs := by
  obtain ⟨a, cap, e, h0 | ⟨b, off, ha, hlt, hw⟩⟩ := h
  · exact ⟨a, cap, e, .inl h0⟩
  · exact ⟨a, cap, e, .inr ⟨b, off, ha, by omega, hw⟩⟩
theorem WSl.len {n : Nat} {W : World} {a : Option Addr} {len cap : Nat} {zs : List WW} (h : WSl n W (.slice a len cap) zs) : len = zs.length := by
  obtain ⟨a', cap', e, _⟩ := h
  cases e
  rfl

/-- The sum of the first k, so far. -/
def SumsR (zs : List WW) (k B : Nat) (ok : Value) (W : World) : Prop :=
  (ok = .bool true ∧ ∃ s0 s1 s2 s3, Ok4 s0 s1 s2 s3 ∧ val s0 s1 s2 s3 = sumV (zs.take k) ∧ BlkW W B s0 s1 s2 s3) ∨
  (ok = .bool false ∧ BlkW W B 0 0 0 0 ∧ M4 ≤ sumV (zs.take k))

set_option maxRecDepth 100000 in
set_option maxHeartbeats 8000000 in
theorem sums_any (a : Option Addr) (len cap : Nat) (zs : List WW) (hreach : zs.length * 32 ≤ 140737488351232) {a0 a1 a2 a3 : Nat} (ha : Ok4 a0 a1 a2 a3) (w : World) (hsl : WSl w.heap.size w (.slice a len cap) zs) :
    Calls Try.prog 6 #[.slice a len cap, wv a0 a1 a2 a3] w fun e W' => e = .returned (.bool true) ∧ Below w.heap.size w W' := by
  have heq := run_equalIn_wide
  have hrefl := wEq_refl
  have hmx : Try.prog.follows .mixedOrders = true := by kernel_rfl
  have hlen := hsl.len
  have hbd : len ≤ 4398046511104 := by omega
  have HL := Lib.hid hlen
  clear hlen
  go_enter Try.func6, Try.ntmps6
  go_wp2_with fail
  refine (alive_any _).mono ?_
  rintro e w1 ⟨rfl, hb1⟩
  have kA : BlkW w1 w.heap.size a0 a1 a2 a3 := (Blk.new' rfl).below hb1 (by simp)
  have d1 := chain (chain0 w _) hb1
  clear hb1
  have hz1 := d1.size
  have lA := kA.lt
  go_wp2_with fail
  go_loopw [6, 7] (fun okv i wr => ∃ k : Nat, k ≤ len ∧ i = .int .i64 k ∧ SumsR zs k w1.heap.size okv wr ∧ BlkW wr w.heap.size a0 a1 a2 a3 ∧ Below w1.heap.size w1 wr) (fun _ i _ => len - (intOf i).toNat)
  case atStart => exact ⟨0, by omega, rfl, .inl ⟨rfl, 0, 0, 0, 0, Ok4.one M_pos, val_one 0, Blk.new' rfl⟩, kA.alloc _, chain0 _ _⟩
  case round =>
    obtain ⟨k, hk, rfl, hR, kA, hbel⟩ := hrel
    rcases hR with ⟨rfl, s0, s1, s2, s3, hs, hv, kW⟩ | ⟨rfl, kW, hge⟩
    · by_cases hlt : k < len
      · have hk' : (k : Int) < (len : Int) := by omega
        have hslr := (hsl.below d1 (Nat.le_refl _)).below hbel (by omega)
        obtain ⟨b, off, cap', hsv, hbl, hw⟩ : ∃ b off cap', (Value.slice a len cap) = .slice (some ⟨b, off, none⟩) zs.length cap' ∧ b < w.heap.size ∧ Wides wr b off zs := by
          obtain ⟨a', cap', e, h0 | ⟨b, off, ha', hbl, hw⟩⟩ := hslr
          · have := HL.out; rw [h0] at this; simp at this; omega
          · exact ⟨b, off, cap', by rw [e, ha'], hbl, hw⟩
        cases hsv
        obtain ⟨x, hx⟩ : ∃ x, zs[k]? = some x := ⟨_, List.getElem?_eq_getElem hlt⟩
        obtain ⟨c0, c1, c2, c3⟩ := hw k x hx
        have ht : zs.take (k + 1) = zs.take k ++ [x] := by rw [List.take_add_one, hx]; rfl
        have HT := Lib.hid ht
        have HV := Lib.hid hv
        clear ht hv hx
        obtain ⟨x0, x1, x2, x3⟩ := kW.c4
        have lW := kW.lt
        go_wp2_with fail
        refine wp_region_any hmx ?_
        change wpAny _ _ _ _ _ _ _ (World.drew _)
        refine wpAny_take (i := 1) (v := ?_) rfl (by kernel_rfl) (by kernel_rfl) (by kernel_rfl) (fun _ _ _ h => h) (Or.inl ⟨rfl, ?_⟩) ?_
        rotate_left
        · intro w'; go_simp; with_reducible rfl
        refine wpAny_take (i := 2) (v := ?_) rfl (by kernel_rfl) (by kernel_rfl) (by kernel_rfl) (fun _ _ _ h => h) (Or.inl ⟨rfl, ?_⟩) ?_
        rotate_left
        · intro w'; go_simp; with_reducible rfl
        refine wpAny_take (i := 3) (v := ?_) rfl (by kernel_rfl) (by kernel_rfl) (by kernel_rfl) (fun _ _ _ h => h) (Or.inl ⟨rfl, ?_⟩) ?_
        rotate_left
        · intro w'; go_simp; with_reducible rfl
        refine wpAny_ready (rs := [0, 4]) (by kernel_rfl) (by simp) ?_
        refine AllReady.cons rfl (fun K hK => ?_) (AllReady.cons rfl (fun K hK => ?_) AllReady.nil)
        all_goals (go_simp; refine hK _ _ ?_; clear hK K)
        rotate_left
        refine wpAny_ready (rs := [0]) (by kernel_rfl) (by simp) ?_
        refine AllReady.cons rfl (fun K hK => ?_) AllReady.nil
        go_simp
        refine hK _ _ ?_
        clear hK K
        rotate_left
        refine wpAny_ready (rs := [4]) (by kernel_rfl) (by simp) ?_
        refine AllReady.cons rfl (fun K hK => ?_) AllReady.nil
        go_simp
        refine hK _ _ ?_
        clear hK K
        all_goals
          refine wpAny_ready (rs := [5]) (by kernel_rfl) (by simp) ?_
          refine AllReady.cons rfl (fun K hK => ?_) AllReady.nil
          go_simp
          refine (refAdd_any hs x.2 _).mono ?_
          rintro e w2 (⟨hlt4, t0, t1, t2, t3, ht, hv2, rfl, hb2⟩ | ⟨hge, rfl, hb2⟩)
          all_goals (refine hK _ _ ?_; clear hK K)
          · have HW := Lib.hid hv2
            clear hv2
            have kW2 := Blk.below (W := wr.drew) kW hb2 lW
            have kA2 := Blk.below (W := wr.drew) kA hb2 kA.lt
            have lW2 := kW2.lt
            have d2 : Below w1.heap.size w1 w2 := hbel.trans ((Below.refl _ wr).drew.trans (hb2.mono (by simp; have := hbel.size; omega)))
            clear hb2 x0 x1 x2 x3 c0 c1 c2 c3
            obtain ⟨x0, x1, x2, x3⟩ := kW2.c4
            have f0 := kW2.frozen 0
            have f1 := kW2.frozen 1
            have f2 := kW2.frozen 2
            have f3 := kW2.frozen 3
            refine wpAny_take (i := 6) (v := ?_) rfl (by kernel_rfl) (by kernel_rfl) (by kernel_rfl) (fun _ _ _ h => h) (Or.inl ⟨rfl, ?_⟩) ?_
            rotate_left
            · intro w'; go_simp; with_reducible rfl
            refine wpAny_take (i := 7) (v := ?_) rfl (by kernel_rfl) (by kernel_rfl) (by kernel_rfl) (fun _ _ _ h => h) (Or.inl ⟨rfl, ?_⟩) ?_
            rotate_left
            · intro w'; go_simp; with_reducible rfl
            refine wpAny_take (i := 8) (v := ?_) rfl (by kernel_rfl) (by kernel_rfl) (by kernel_rfl) (fun _ _ _ h => h) (Or.inl ⟨rfl, ?_⟩) ?_
            rotate_left
            · intro w'; go_simp; with_reducible rfl
            refine wpAny_ready (rs := [9]) (by kernel_rfl) (by simp) ?_
            refine AllReady.cons rfl (fun K hK => ?_) AllReady.nil
            go_simp
            refine hK _ _ ?_
            clear hK K
            refine wpAny_take (i := 10) (v := ?_) rfl (by kernel_rfl) (by kernel_rfl) (by kernel_rfl) (fun _ _ _ h => h) (Or.inl ⟨rfl, ?_⟩) ?_
            rotate_left
            · intro w'; go_simp; with_reducible rfl
            refine wpAny_done (by kernel_rfl) ?_ _
            go_wp2
            have kk := (((kW2.set 0 (.int .u64 (t0 : Int))).set 1 (.int .u64 (t1 : Int))).set 2 (.int .u64 (t2 : Int))).set 3 (.int .u64 (t3 : Int))
            have qa := (((kA2.other (B' := w1.heap.size) 0 (.int .u64 (t0 : Int)) (by omega)).other (B' := w1.heap.size) 1 (.int .u64 (t1 : Int)) (by omega)).other (B' := w1.heap.size) 2 (.int .u64 (t2 : Int)) (by omega)).other (B' := w1.heap.size) 3 (.int .u64 (t3 : Int)) (by omega)
            have qb := (((d2.setCell (p := ⟨w1.heap.size, 0, none⟩) (Nat.le_refl _) (.int .u64 (t0 : Int))).setCell (p := ⟨w1.heap.size, 1, none⟩) (Nat.le_refl _) (.int .u64 (t1 : Int))).setCell (p := ⟨w1.heap.size, 2, none⟩) (Nat.le_refl _) (.int .u64 (t2 : Int))).setCell (p := ⟨w1.heap.size, 3, none⟩) (Nat.le_refl _) (.int .u64 (t3 : Int))
            exact ⟨⟨k + 1, by omega, by simp, .inl ⟨rfl, t0, t1, t2, t3, ht, by rw [HW.out, HV.out, HT.out, sumV_snoc]; rfl, kk⟩, qa, qb⟩, by simp [intOf]; omega⟩
          · have HW := Lib.hid hge
            clear hge
            have kW2 := Blk.below (W := wr.drew) kW hb2 lW
            have kA2 := Blk.below (W := wr.drew) kA hb2 kA.lt
            have lW2 := kW2.lt
            have d2 : Below w1.heap.size w1 w2 := hbel.trans ((Below.refl _ wr).drew.trans (hb2.mono (by simp; have := hbel.size; omega)))
            clear hb2 x0 x1 x2 x3 c0 c1 c2 c3
            obtain ⟨x0, x1, x2, x3⟩ := kW2.c4
            have f0 := kW2.frozen 0
            have f1 := kW2.frozen 1
            have f2 := kW2.frozen 2
            have f3 := kW2.frozen 3
            refine wpAny_take (i := 6) (v := ?_) rfl (by kernel_rfl) (by kernel_rfl) (by kernel_rfl) (fun _ _ _ h => h) (Or.inl ⟨rfl, ?_⟩) ?_
            rotate_left
            · intro w'; go_simp; with_reducible rfl
            refine wpAny_take (i := 7) (v := ?_) rfl (by kernel_rfl) (by kernel_rfl) (by kernel_rfl) (fun _ _ _ h => h) (Or.inl ⟨rfl, ?_⟩) ?_
            rotate_left
            · intro w'; go_simp; with_reducible rfl
            refine wpAny_take (i := 8) (v := ?_) rfl (by kernel_rfl) (by kernel_rfl) (by kernel_rfl) (fun _ _ _ h => h) (Or.inl ⟨rfl, ?_⟩) ?_
            rotate_left
            · intro w'; go_simp; with_reducible rfl
            refine wpAny_ready (rs := [9]) (by kernel_rfl) (by simp) ?_
            refine AllReady.cons rfl (fun K hK => ?_) AllReady.nil
            go_simp
            refine hK _ _ ?_
            clear hK K
            refine wpAny_take (i := 10) (v := ?_) rfl (by kernel_rfl) (by kernel_rfl) (by kernel_rfl) (fun _ _ _ h => h) (Or.inl ⟨rfl, ?_⟩) ?_
            rotate_left
            · intro w'; go_simp; with_reducible rfl
            refine wpAny_done (by kernel_rfl) ?_ _
            go_wp2
            have kk := (((kW2.set 0 (.int .u64 0)).set 1 (.int .u64 0)).set 2 (.int .u64 0)).set 3 (.int .u64 0)
            have qa := (((kA2.other (B' := w1.heap.size) 0 (.int .u64 0) (by omega)).other (B' := w1.heap.size) 1 (.int .u64 0) (by omega)).other (B' := w1.heap.size) 2 (.int .u64 0) (by omega)).other (B' := w1.heap.size) 3 (.int .u64 0) (by omega)
            have qb := (((d2.setCell (p := ⟨w1.heap.size, 0, none⟩) (Nat.le_refl _) (.int .u64 0)).setCell (p := ⟨w1.heap.size, 1, none⟩) (Nat.le_refl _) (.int .u64 0)).setCell (p := ⟨w1.heap.size, 2, none⟩) (Nat.le_refl _) (.int .u64 0)).setCell (p := ⟨w1.heap.size, 3, none⟩) (Nat.le_refl _) (.int .u64 0)
            exact ⟨⟨k + 1, by omega, by simp, .inr ⟨rfl, kk, by have e := HW.out; rw [HV.out] at e; rw [HT.out, sumV_snoc]; exact e⟩, qa, qb⟩, by simp [intOf]; omega⟩
      · obtain rfl : k = len := by omega
        have hS : val s0 s1 s2 s3 = sumV zs := by rw [hv, HL.out, List.take_length]
        have HS := Lib.hid hS
        clear hv hS
        go_wp2_with fail
        refine (sum_any a _ cap zs hreach wr (((hsl.below d1 (Nat.le_refl _)).below hbel (by omega)).mono (by have := hbel.size; omega))).mono ?_
        rintro e w2 (⟨_, t0, t1, t2, t3, ht, hv2, rfl, hb2⟩ | ⟨hge, rfl, hb2⟩)
        case inr => have e1 := HS.out; have := val_lt hs; omega
        obtain ⟨rfl, rfl, rfl, rfl⟩ := val_inj ht hs (by rw [hv2, HS.out])
        clear ht hv2
        have lW := kW.lt
        have kW2 := kW.below hb2 lW
        have kA2 := kA.below hb2 kA.lt
        have d2 : Below w.heap.size w w2 := chain (d1.trans (hbel.mono hz1)) hb2
        have lA2 := kA2.lt
        have lW2 := kW2.lt
        clear hb2
        obtain ⟨x0, x1, x2, x3⟩ := kA2.c4
        go_wp2_with fail
        refine (small_any ha _).mono ?_
        clear x0 x1 x2 x3
        rintro e w3 (⟨⟨rfl, rfl, rfl⟩, rfl, hb3⟩ | ⟨hnz, rfl, hb3⟩)
        · have kS3 : BlkW w3 w2.heap.size t0 t1 t2 t3 := (Blk.new' rfl).below hb3 (by simp)
          have kW3 := (kW2.alloc _).below hb3 (by simp; omega)
          have kA3 := (kA2.alloc _).below hb3 (by simp; omega)
          have d3 := chain (chainA d2 _) hb3
          obtain ⟨x0, x1, x2, x3⟩ := kA3.c4
          obtain ⟨y0, y1, y2, y3⟩ := kW3.c4
          obtain ⟨z0, z1, z2, z3⟩ := kS3.c4
          clear hb3
          have hor := or3_zero
          go_wp2_with fail
          go_ret
          exact ⟨rfl, d3⟩
        · have kS3 : BlkW w3 w2.heap.size t0 t1 t2 t3 := (Blk.new' rfl).below hb3 (by simp)
          have kW3 := (kW2.alloc _).below hb3 (by simp; omega)
          have kA3 := (kA2.alloc _).below hb3 (by simp; omega)
          have d3 := chain (chainA d2 _) hb3
          obtain ⟨x0, x1, x2, x3⟩ := kA3.c4
          obtain ⟨y0, y1, y2, y3⟩ := kW3.c4
          obtain ⟨z0, z1, z2, z3⟩ := kS3.c4
          have hor := or3_not ha.h1 ha.h2 ha.h3 hnz
          clear hnz hb3
          go_wp2_with fail
          go_ret
          exact ⟨rfl, d3⟩
    · have hS : M4 ≤ sumV zs := Nat.le_trans hge (sumV_prefix (List.take_prefix _ _))
      have HS := Lib.hid hS
      clear hge hS
      by_cases hlt : k < len
      all_goals
        go_wp2_with fail
        refine (sum_any a _ cap zs hreach wr (((hsl.below d1 (Nat.le_refl _)).below hbel (by omega)).mono (by have := hbel.size; omega))).mono ?_
        rintro e w2 (⟨hlt4, _⟩ | ⟨_, rfl, hb2⟩)
        case inl => have e1 := HS.out; omega
        have lW := kW.lt
        have kW2 := kW.below hb2 lW
        have kA2 := kA.below hb2 kA.lt
        have d2 : Below w.heap.size w w2 := chain (d1.trans (hbel.mono hz1)) hb2
        have lA2 := kA2.lt
        have lW2 := kW2.lt
        clear hb2
        obtain ⟨x0, x1, x2, x3⟩ := kA2.c4
        go_wp2_with fail
        refine (small_any ha _).mono ?_
        clear x0 x1 x2 x3
        rintro e w3 (⟨⟨rfl, rfl, rfl⟩, rfl, hb3⟩ | ⟨hnz, rfl, hb3⟩)
        · have kS3 : BlkW w3 w2.heap.size 0 0 0 0 := (Blk.new' rfl).below hb3 (by simp)
          have kW3 := (kW2.alloc _).below hb3 (by simp; omega)
          have kA3 := (kA2.alloc _).below hb3 (by simp; omega)
          have d3 := chain (chainA d2 _) hb3
          obtain ⟨x0, x1, x2, x3⟩ := kA3.c4
          obtain ⟨y0, y1, y2, y3⟩ := kW3.c4
          obtain ⟨z0, z1, z2, z3⟩ := kS3.c4
          clear hb3
          have hor := or3_zero
          go_wp2_with fail
          go_ret
          exact ⟨rfl, d3⟩
        · have kS3 : BlkW w3 w2.heap.size 0 0 0 0 := (Blk.new' rfl).below hb3 (by simp)
          have kW3 := (kW2.alloc _).below hb3 (by simp; omega)
          have kA3 := (kA2.alloc _).below hb3 (by simp; omega)
          have d3 := chain (chainA d2 _) hb3
          obtain ⟨x0, x1, x2, x3⟩ := kA3.c4
          obtain ⟨y0, y1, y2, y3⟩ := kW3.c4
          obtain ⟨z0, z1, z2, z3⟩ := kS3.c4
          have hor := or3_not ha.h1 ha.h2 ha.h3 hnz
          clear hnz hb3
          go_wp2_with fail
          go_ret
          exact ⟨rfl, d3⟩
end Go.Proofs.Ytacpagfocmhfeaa
