/-
  The reference's Unwide: sixteen digits of two octets, made a wide number.
-/
import Derived.Test.YtjhfchjffiliaaaRefMade
import Derived.Test.YtjhfchjffiliaaaBytesMath
import Derived.Deep.RegionHeld3
namespace Go.Proofs.Ytjhfchjffiliaaa
open Go.RowKit

/-- Of the first i octets: what those of digit k come to. -/
def udg (l : List UInt8) (i k : Nat) : Nat := be (((l.take i).drop (30 - 2 * k)).take 2)
theorem udg_zero (l : List UInt8) : ds (udg l 0) 16 = ds (fun _ => 0) 16 := by simp [ds, udg, be]
theorem udg_lt (l : List UInt8) (i k : Nat) : udg l i k < 65536 := by
  have := be_lt' (l := ((l.take i).drop (30 - 2 * k)).take 2) (k := 2) (by simp; omega)
  unfold udg
  omega
theorem udg_small {l : List UInt8} {i : Nat} (hi : i < 32) : udg l i ((31 - i) / 2) ≤ 255 := by
  have := be_lt' (l := ((l.take i).drop (30 - 2 * ((31 - i) / 2))).take 2) (k := 1) (by simp; omega)
  unfold udg
  omega
theorem udg_step {l : List UInt8} {i : Nat} {x : UInt8} (hx : l[i]? = some x) (hi : i < 32) : ds (udg l (i + 1)) 16 = ds (upd (udg l i) ((31 - i) / 2) (udg l i ((31 - i) / 2) * 256 + x.toNat)) 16 := by
  have hil : i < l.length := (List.getElem?_eq_some_iff.1 hx).1
  unfold ds
  refine List.map_congr_left fun k hk => ?_
  have hk16 : k < 16 := List.mem_range.1 hk
  congr 2
  have e1 : l.take (i + 1) = l.take i ++ [x] := by rw [List.take_add_one, hx]; rfl
  have hl : (l.take i).length = i := by simp; omega
  unfold upd
  by_cases h : k = (31 - i) / 2
  · subst h
    rw [if_pos rfl]
    unfold udg
    rw [e1, ← be_snoc]
    generalize hd : 30 - 2 * ((31 - i) / 2) = d
    have hdi : d ≤ i ∧ i < d + 2 := by omega
    rw [List.drop_append_of_le_length (by rw [hl]; omega), List.take_of_length_le (l := (l.take i).drop d ++ [x]) (by simp; omega), List.take_of_length_le (l := (l.take i).drop d) (by simp; omega)]
  · rw [if_neg h]
    unfold udg
    rw [e1]
    by_cases h' : i < 30 - 2 * k
    · rw [List.drop_of_length_le (by simp; omega), List.drop_of_length_le (by rw [hl]; omega)]
    · rw [List.drop_append_of_le_length (by rw [hl]; omega), List.take_append_of_le_length (by rw [List.length_drop, hl]; omega)]
theorem wdg_udg {l : List UInt8} (h : l.length = 32) {q : Nat} (hq : q < 4) : wdg (udg l 32) 16 q = uwd l 32 q := by
  rw [wdg_4 _ (by omega)]
  unfold udg uwd
  rw [List.take_of_length_le (l := l) (by omega)]
  have e : ∀ t, t < 4 → 30 - 2 * (4 * q + t) = 8 * (3 - q) + (6 - 2 * t) := fun t ht => by omega
  have e0 := e 0 (by omega)
  rw [Nat.add_zero] at e0
  rw [e0, e 1 (by omega), e 2 (by omega), e 3 (by omega), ← List.drop_drop, ← List.drop_drop, ← List.drop_drop, ← List.drop_drop]
  have hl : (l.drop (8 * (3 - q))).length ≥ 8 := by rw [List.length_drop]; omega
  generalize l.drop (8 * (3 - q)) = A at *
  match A, hl with
  | c0 :: c1 :: c2 :: c3 :: c4 :: c5 :: c6 :: c7 :: r, _ =>
    simp only [be, Nat.reduceMul, Nat.reduceSub, Nat.sub_zero, Nat.mul_zero, List.drop_succ_cons, List.drop_zero, List.take_succ_cons, List.take_zero, List.foldl_cons, List.foldl_nil]
    omega

theorem run_make16 (w : World) : (Instr.makeSlice 89 (.int .i64 16) (.int .i64 16)).run Try.prog w = .ok (.slice (some ⟨w.heap.size, 0, none⟩) 16 16) (w.alloc (.cells (ds (fun _ => 0) 16).toArray 3)) := by
  kernel_rfl

set_option maxRecDepth 100000 in
set_option maxHeartbeats 4000000 in
theorem refUnwide_any (l : List UInt8) (sv : Value) (w : World) (hl : l.length = 32) (hsv : BSl 0 w.heap.size w sv l) :
    Calls Try.prog 38 #[sv] w fun e W' => e = .returned (wv (uwd l 32 0) (uwd l 32 1) (uwd l 32 2) (uwd l 32 3)) ∧ Below w.heap.size w W' := by
  have hmx : Try.prog.follows .mixedOrders = true := by kernel_rfl
  have hmk := run_make16
  obtain ⟨a, cap, rfl, hcap, hcs⟩ := hsv
  obtain ⟨b, off, rfl, hbw, ho⟩ : ∃ b off, a = some ⟨b, off, none⟩ ∧ b < w.heap.size ∧ Octs w b off l := by
    rcases hcs with h0 | ⟨b, off, h1, _, h2, h3⟩
    · rw [h0] at hl; simp at hl
    · exact ⟨b, off, h1, h2, h3⟩
  have HL := Lib.hid hl
  rw [hl] at hcap ⊢
  clear hl hcs
  go_enter Try.func38, Try.ntmps38
  go_wp2
  clear hmk
  go_loopw [4] (fun i wr => ∃ k : Nat, k ≤ 32 ∧ i = .int .i64 k ∧ Blk wr w.heap.size 40 (ws fun _ => 0) ∧ Blk wr (w.heap.size + 1) 3 (ds (udg l k) 16) ∧ Below w.heap.size w wr) (fun i _ => 32 - (intOf i).toNat)
  case atStart => exact ⟨0, by omega, rfl, (Blk.new _ _ _).alloc _, by rw [udg_zero]; exact Blk.new' (by simp), chainA (chain0 _ _) _⟩
  case round =>
    obtain ⟨k, hk, rfl, k0, k1, hB⟩ := hrel
    by_cases hlt : k < 32
    · obtain ⟨x, hx⟩ : ∃ x, l[k]? = some x := ⟨_, List.getElem?_eq_getElem (by rw [HL.out]; exact hlt)⟩
      have hcx := (ho.below hB hbw) k x hx
      have hsm := udg_small (l := l) hlt
      have hst := udg_step hx hlt
      have hpl : (31 - k) / 2 < 16 := by omega
      have hp : ((31 : Int) - k) / 2 = (((31 - k) / 2 : Nat) : Int) := by omega
      have hcp := k1.cell ((31 - k) / 2)
      rw [ds_at _ hpl] at hcp
      have hfp := k1.frozen ((31 - k) / 2)
      have HS := Lib.hid hst
      have HX := Lib.hid hx
      clear hst hx
      generalize udg l k ((31 - k) / 2) = y at *
      generalize (31 - k) / 2 = p at *
      have hy : (y : Int) ≤ 255 := by omega
      have hp16 : (p : Int) < 16 := by omega
      have hk32 : (k : Int) < 32 := by omega
      have hx8 := x.toNat_lt
      have hx8' : (x.toNat : Int) ≤ 255 := by omega
      go_wp2_with fail
      refine wp_region_any hmx ?_
      change wpAny _ _ _ _ _ _ _ (World.drew _)
      refine wpAny_take (i := 0) (v := ?_) rfl (by kernel_rfl) (by kernel_rfl) (by kernel_rfl) (fun _ _ _ h => h) (Or.inl ⟨rfl, ?_⟩) ?_
      rotate_left
      · intro w'; go_simp; with_reducible rfl
      refine wpAny_take (i := 1) (v := ?_) rfl (by kernel_rfl) (by kernel_rfl) (by kernel_rfl) (fun _ _ _ h => h) (Or.inl ⟨rfl, ?_⟩) ?_
      rotate_left
      · intro w'; go_simp; with_reducible rfl
      refine wpAny_take (i := 2) (v := ?_) rfl (by kernel_rfl) (by kernel_rfl) (by kernel_rfl) (fun _ _ _ h => h) (Or.inl ⟨rfl, ?_⟩) ?_
      rotate_left
      · intro w'; go_simp; with_reducible rfl
      refine wpAny_take (i := 3) (v := ?_) rfl (by kernel_rfl) (by kernel_rfl) (by kernel_rfl) (fun _ _ _ h => h) (Or.inl ⟨rfl, ?_⟩) ?_
      rotate_left
      · intro w'; go_simp; with_reducible rfl
      refine wpAny_take (i := 4) (v := ?_) rfl (by kernel_rfl) (by kernel_rfl) (by kernel_rfl) (fun _ _ _ h => h) (Or.inl ⟨rfl, ?_⟩) ?_
      rotate_left
      · intro w'; go_simp; with_reducible rfl
      refine wpAny_take (i := 7) (v := ?_) rfl (by kernel_rfl) (by kernel_rfl) (by kernel_rfl) (fun _ _ _ h => h) (Or.inl ⟨rfl, ?_⟩) ?_
      rotate_left
      · intro w'; go_simp; with_reducible rfl
      refine wpAny_take (i := 8) (v := ?_) rfl (by kernel_rfl) (by kernel_rfl) (by kernel_rfl) (fun _ _ _ h => h) (Or.inl ⟨rfl, ?_⟩) ?_
      rotate_left
      · intro w'; go_simp; with_reducible rfl
      refine wpAny_take (i := 9) (v := ?_) rfl (by kernel_rfl) (by kernel_rfl) (by kernel_rfl) (fun _ _ _ h => h) (Or.inl ⟨rfl, ?_⟩) ?_
      rotate_left
      · intro w'; go_simp; with_reducible rfl
      refine wpAny_ready (rs := [5, 10]) (by kernel_rfl) (by simp) ?_
      refine AllReady.cons rfl (fun K hK => ?_) (AllReady.cons rfl (fun K hK => ?_) AllReady.nil)
      all_goals (go_simp; refine hK _ _ ?_; clear hK K)
      refine wpAny_take (i := 6) (v := ?_) rfl (by kernel_rfl) (by kernel_rfl) (by kernel_rfl) (fun _ _ _ h => h) (Or.inl ⟨rfl, ?_⟩) ?_
      rotate_left
      · intro w'; go_simp; with_reducible rfl
      refine wpAny_ready (rs := [10]) (by kernel_rfl) (by simp) ?_
      refine AllReady.cons rfl (fun K hK => ?_) AllReady.nil
      go_simp
      refine hK _ _ ?_
      clear hK K
      refine wpAny_take (i := 11) (v := ?_) rfl (by kernel_rfl) (by kernel_rfl) (by kernel_rfl) (fun _ _ _ h => h) (Or.inl ⟨rfl, ?_⟩) ?_
      rotate_left
      · intro w'; go_simp; with_reducible rfl
      rotate_left
      refine wpAny_take (i := 11) (v := ?_) rfl (by kernel_rfl) (by kernel_rfl) (by kernel_rfl) (fun _ _ _ h => h) (Or.inl ⟨rfl, ?_⟩) ?_
      rotate_left
      · intro w'; go_simp; with_reducible rfl
      refine wpAny_ready (rs := [5]) (by kernel_rfl) (by simp) ?_
      refine AllReady.cons rfl (fun K hK => ?_) AllReady.nil
      go_simp
      refine hK _ _ ?_
      clear hK K
      refine wpAny_take (i := 6) (v := ?_) rfl (by kernel_rfl) (by kernel_rfl) (by kernel_rfl) (fun _ _ _ h => h) (Or.inl ⟨rfl, ?_⟩) ?_
      rotate_left
      · intro w'; go_simp; with_reducible rfl
      rotate_left
      all_goals
        refine wpAny_take (i := 12) (v := ?_) rfl (by kernel_rfl) (by kernel_rfl) (by kernel_rfl) (fun _ _ _ h => h) (Or.inl ⟨rfl, ?_⟩) ?_
        rotate_left
        · intro w'; go_simp; with_reducible rfl
        refine wpAny_take (i := 13) (v := ?_) rfl (by kernel_rfl) (by kernel_rfl) (by kernel_rfl) (fun _ _ _ h => h) (Or.inl ⟨rfl, ?_⟩) ?_
        rotate_left
        · intro w'; go_simp; with_reducible rfl
        refine wpAny_ready (rs := [14]) (by kernel_rfl) (by simp) ?_
        refine AllReady.cons rfl (fun K hK => ?_) AllReady.nil
        go_simp
        refine hK _ _ ?_
        clear hK K
        refine wpAny_done (by kernel_rfl) ?_ _
        have hv : IntKind.i64.wrap (IntKind.i64.wrap ((y : Int) * 256) + IntKind.i64.wrap (x.toNat : Int)) = ((y * 256 + x.toNat : Nat) : Int) := by
          rw [wr_i64 ((y : Int) * 256) (by omega) (by omega), wr_i64 (x.toNat : Int) (by omega) (by omega), wr_i64 _ (by omega) (by omega)]
          omega
        rw [hv]
        go_wp2
        have kk := k1.set p (.int .i64 ((y * 256 + x.toNat : Nat) : Int))
        rw [ds_set, ← HS.out] at kk
        exact ⟨⟨k + 1, by omega, by simp, k0.other p _ (by omega), kk, (hB.setCell (p := ⟨w.heap.size + 1, p, none⟩) (by simp) _).drew⟩, by simp [intOf]; omega⟩
    · obtain rfl : k = 32 := by omega
      go_wp2_with fail
      refine (made_any 16 16 (w.heap.size + 1) (udg l 32) (by omega) (fun k _ => udg_lt l 32 k) wr k1.lt k1.numsOf).mono ?_
      rintro e w3 (⟨⟨i, hi1, hi2, _⟩, _⟩ | ⟨_, rfl, hb3⟩)
      · omega
      rw [wdg_udg HL.out (by omega), wdg_udg HL.out (by omega), wdg_udg HL.out (by omega), wdg_udg HL.out (by omega)]
      have k3 := k0.below hb3 k0.lt
      have d3 := chain hB hb3
      generalize hs0 : uwd l 32 0 = s0 at *
      have H0 := Lib.hid hs0
      clear hs0
      generalize hs1 : uwd l 32 1 = s1 at *
      have H1 := Lib.hid hs1
      clear hs1
      generalize hs2 : uwd l 32 2 = s2 at *
      have H2 := Lib.hid hs2
      clear hs2
      generalize hs3 : uwd l 32 3 = s3 at *
      have H3 := Lib.hid hs3
      clear hs3
      have c0 : w3.cell? ⟨w.heap.size, 0, none⟩ = some (.int .u64 ((0 : Nat) : Int)) := k3.cell 0
      have c1 : w3.cell? ⟨w.heap.size, 1, none⟩ = some (.int .u64 ((0 : Nat) : Int)) := k3.cell 1
      have c2 : w3.cell? ⟨w.heap.size, 2, none⟩ = some (.int .u64 ((0 : Nat) : Int)) := k3.cell 2
      have c3 : w3.cell? ⟨w.heap.size, 3, none⟩ = some (.int .u64 ((0 : Nat) : Int)) := k3.cell 3
      have f0 := k3.frozen 0
      have f1 := k3.frozen 1
      have f2 := k3.frozen 2
      have f3 := k3.frozen 3
      have l3 := k3.lt
      go_wp2
      have k4 := ((((k3.set 0 (.int .u64 (s0 : Nat))).set 1 (.int .u64 (s1 : Nat))).set 2 (.int .u64 (s2 : Nat))).set 3 (.int .u64 (s3 : Nat))).alloc (.cells #[.int .u64 (s0 : Nat), .int .u64 (s1 : Nat), .int .u64 (s2 : Nat), .int .u64 (s3 : Nat)] 40)
      have r0 := k4.cell 0
      have r1 := k4.cell 1
      have r2 := k4.cell 2
      have r3 := k4.cell 3
      simp only [ws, List.set_cons_zero, List.set_cons_succ, List.getElem?_cons_zero, List.getElem?_cons_succ] at r0 r1 r2 r3
      have hB' := ((((d3.setCell (p := ⟨w.heap.size, 0, none⟩) (Nat.le_refl _) (.int .u64 (s0 : Nat))).setCell (p := ⟨w.heap.size, 1, none⟩) (Nat.le_refl _) (.int .u64 (s1 : Nat))).setCell (p := ⟨w.heap.size, 2, none⟩) (Nat.le_refl _) (.int .u64 (s2 : Nat))).setCell (p := ⟨w.heap.size, 3, none⟩) (Nat.le_refl _) (.int .u64 (s3 : Nat))).alloc (by simp; omega) (.cells #[.int .u64 (s0 : Nat), .int .u64 (s1 : Nat), .int .u64 (s2 : Nat), .int .u64 (s3 : Nat)] 40)
      exact bodyPost_ret (v := wv s0 s1 s2 s3) (by simp [results, Try.f38, go_sem, r0, r1, r2, r3]) rfl ⟨by rw [H0.out, H1.out, H2.out, H3.out], hB'⟩

end Go.Proofs.Ytjhfchjffiliaaa
