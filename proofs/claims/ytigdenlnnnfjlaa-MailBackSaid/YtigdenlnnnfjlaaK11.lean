/-
  The reference's Made: a wide number of digits, or none.
  The reference's Unwide: sixteen digits of two octets, made a wide number.
  The reference's reader of fields.
  The reference's reader: a number, a text, a wide number.
-/
import Derived.Deep.RegionHeld3
import Derived.StillTailTactics
import Derived.Outline
import Derived.Test.YtigdenlnnnfjlaaK10
namespace Go.Proofs.Ytigdenlnnnfjlaa
open Go.RowKit

/-- The number of n digits, or none. -/
def MadeW (n : Nat) (f : Nat → Nat) (w : World) (e : Ending) (W' : World) : Prop :=
  ((∃ i, 16 ≤ i ∧ i < n ∧ f i ≠ 0) ∧ NoW w e W') ∨
  ((∀ i, 16 ≤ i → i < n → f i = 0) ∧ e = .returned (.tuple #[wv (wdg f n 0) (wdg f n 1) (wdg f n 2) (wdg f n 3), .bool true]) ∧ Below w.heap.size w W')

set_option maxRecDepth 100000 in
set_option maxHeartbeats 4000000 in
theorem made_any (n cap g : Nat) (f : Nat → Nat) (hn : n ≤ 32) (hf : ∀ k, k < n → f k < 65536) (w : World) (hg : g < w.heap.size) (hl : Nums w g n f) :
    Calls Try.prog 86 #[.slice (some ⟨g, 0, none⟩) n cap] w (MadeW n f w) := by
  go_enter Try.func86, Try.ntmps86
  go_wp2
  go_loopw [5] (fun i wr => ∃ k : Nat, k ≤ n ∧ i = .int .i64 k ∧ (∀ t, 16 ≤ t → t < k → f t = 0) ∧ Blk wr w.heap.size 24 (ws fun _ => 0) ∧ Blk wr (w.heap.size + 1) 24 (ws (wdg f k)) ∧ Below w.heap.size w wr) (fun i _ => n - (intOf i).toNat)
  case atStart => exact ⟨0, by omega, rfl, fun t _ h => by omega, (Blk.new _ _ _).alloc _, by rw [wdg_zero]; exact Blk.new' (by simp), chainA (chain0 _ _) _⟩
  case round =>
    obtain ⟨k, hk, rfl, hz, k0, k1, hbel⟩ := hrel
    by_cases hlt : k < n
    · have hc := hl.below hbel hg k hlt
      have hfk := hf k hlt
      by_cases h16 : k < 16
      · have HZ := Lib.hid hz
        clear hz
        have h16' : (k : Int) < 16 := by omega
        go_wp2
        obtain ⟨wo, rfl⟩ : ∃ wo : World, wo = wr := ⟨_, rfl⟩
        go_loopw [6, 7] (fun x j wr => ∃ t : Nat, t ≤ k % 4 ∧ j = .int .i64 t ∧ x = .int .u64 (f k * p16 t : Nat) ∧ wr = wo) (fun _ j _ => k % 4 - (intOf j).toNat)
        case atStart => exact ⟨0, by omega, rfl, by rw [p16_0, Nat.mul_one], rfl⟩
        case round =>
          obtain ⟨t, ht, rfl, rfl, rfl⟩ := hrel
          by_cases htl : t < k % 4
          · have hp := p16_step (r := t) (by omega)
            have hle := p16_le2 (r := t) (by omega)
            have hm : f k * p16 t ≤ 65535 * 4294967296 := Nat.mul_le_mul (by omega) hle
            have HP : Hid (f k * p16 (t + 1) = f k * p16 t * 65536) := Lib.hid (by rw [hp, Nat.mul_assoc])
            clear hp
            generalize f k * p16 t = y at *
            have htl' : (t : Int) < (k : Int) % 4 := by omega
            go_wp2
            exact ⟨⟨t + 1, by omega, by simp, by rw [HP.out]; simp, trivial⟩, by simp [intOf]; omega⟩
          · obtain rfl : t = k % 4 := by omega
            have hlt4 : k / 4 < 4 := by omega
            have hs := wdg_lt (f := f) (i := k) (fun j hj => hf j (by omega))
            have hst := wdg_step f k
            have HS := Lib.hid hst
            clear hst
            have cc := k1.cell (k / 4)
            rw [ws_at _ hlt4] at cc
            have fc := k1.frozen (k / 4)
            generalize f k * p16 (k % 4) = y at *
            generalize hv : wdg f k (k / 4) = v at *
            clear hv
            go_wp2
            have kk := k1.set (k / 4) (.int .u64 ((v + y : Nat) : Int))
            rw [ws_set _ hlt4, ← HS.out, show ((v + y : Nat) : Int) = (v : Int) + (y : Int) by omega] at kk
            exact ⟨⟨k + 1, by omega, by simp, fun t h1 h2 => by omega, k0.other _ _ (by omega), kk, hbel.setCell (p := ⟨w.heap.size + 1, k / 4, none⟩) (by simp) _⟩, by simp [intOf]; omega⟩
      · have h16' : ¬ (k : Int) < 16 := by omega
        by_cases hz0 : f k = 0
        · have HZ := Lib.hid hz
          have HZ0 := Lib.hid hz0
          rw [hz0] at hc
          clear hz hz0
          go_wp2
          exact ⟨⟨k + 1, by omega, by simp, fun t h1 h2 => by
            by_cases e : t = k
            · rw [e]; exact HZ0.out
            · exact HZ.out t h1 (by omega), k0, by rw [wdg_high f (by omega)]; exact k1, hbel⟩, by simp [intOf]; omega⟩
        · have hne : ((f k : Nat) : Int) ≠ 0 := by omega
          have hb : (((f k : Nat) : Int) == 0) = false := by simp; omega
          have HZ := Lib.hid hz
          have HZ0 := Lib.hid hz0
          clear hz hz0
          have c00 : wr.cell? ⟨w.heap.size, 0, none⟩ = some (.int .u64 ((0 : Nat) : Int)) := k0.cell 0
          have f00 := k0.frozen 0
          have c01 : wr.cell? ⟨w.heap.size, 1, none⟩ = some (.int .u64 ((0 : Nat) : Int)) := k0.cell 1
          have f01 := k0.frozen 1
          have c02 : wr.cell? ⟨w.heap.size, 2, none⟩ = some (.int .u64 ((0 : Nat) : Int)) := k0.cell 2
          have f02 := k0.frozen 2
          have c03 : wr.cell? ⟨w.heap.size, 3, none⟩ = some (.int .u64 ((0 : Nat) : Int)) := k0.cell 3
          have f03 := k0.frozen 3
          go_wp2
          have k0' := (((k0.set 0 (.int .u64 0)).set 1 (.int .u64 0)).set 2 (.int .u64 0)).set 3 (.int .u64 0)
          have r0 := k0'.cell 0
          have r1 := k0'.cell 1
          have r2 := k0'.cell 2
          have r3 := k0'.cell 3
          simp only [ws, List.set_cons_zero, List.set_cons_succ, List.getElem?_cons_zero, List.getElem?_cons_succ] at r0 r1 r2 r3
          have hB' := (((hbel.setCell (p := ⟨w.heap.size, 0, none⟩) (Nat.le_refl _) (.int .u64 0)).setCell (p := ⟨w.heap.size, 1, none⟩) (Nat.le_refl _) (.int .u64 0)).setCell (p := ⟨w.heap.size, 2, none⟩) (Nat.le_refl _) (.int .u64 0)).setCell (p := ⟨w.heap.size, 3, none⟩) (Nat.le_refl _) (.int .u64 0)
          exact bodyPost_ret (v := .tuple #[wv 0 0 0 0, .bool false]) (by simp [results, Try.f86, go_sem, r0, r1, r2, r3]) rfl (.inl ⟨⟨k, by omega, hlt, HZ0.out⟩, rfl, hB'⟩)
    · obtain rfl : k = n := by omega
      have HZ := Lib.hid hz
      clear hz
      have c00 : wr.cell? ⟨w.heap.size, 0, none⟩ = some (.int .u64 ((0 : Nat) : Int)) := k0.cell 0
      have f00 := k0.frozen 0
      have c01 : wr.cell? ⟨w.heap.size, 1, none⟩ = some (.int .u64 ((0 : Nat) : Int)) := k0.cell 1
      have f01 := k0.frozen 1
      have c02 : wr.cell? ⟨w.heap.size, 2, none⟩ = some (.int .u64 ((0 : Nat) : Int)) := k0.cell 2
      have f02 := k0.frozen 2
      have c03 : wr.cell? ⟨w.heap.size, 3, none⟩ = some (.int .u64 ((0 : Nat) : Int)) := k0.cell 3
      have f03 := k0.frozen 3
      have c10 : wr.cell? ⟨w.heap.size + 1, 0, none⟩ = some (.int .u64 ((wdg f k 0 : Nat) : Int)) := k1.cell 0
      have c11 : wr.cell? ⟨w.heap.size + 1, 1, none⟩ = some (.int .u64 ((wdg f k 1 : Nat) : Int)) := k1.cell 1
      have c12 : wr.cell? ⟨w.heap.size + 1, 2, none⟩ = some (.int .u64 ((wdg f k 2 : Nat) : Int)) := k1.cell 2
      have c13 : wr.cell? ⟨w.heap.size + 1, 3, none⟩ = some (.int .u64 ((wdg f k 3 : Nat) : Int)) := k1.cell 3
      go_wp2
      have k0' := (((k0.set 0 (.int .u64 (wdg f k 0 : Nat))).set 1 (.int .u64 (wdg f k 1 : Nat))).set 2 (.int .u64 (wdg f k 2 : Nat))).set 3 (.int .u64 (wdg f k 3 : Nat))
      have r0 := k0'.cell 0
      have r1 := k0'.cell 1
      have r2 := k0'.cell 2
      have r3 := k0'.cell 3
      simp only [ws, List.set_cons_zero, List.set_cons_succ, List.getElem?_cons_zero, List.getElem?_cons_succ] at r0 r1 r2 r3
      have hB' := (((hbel.setCell (p := ⟨w.heap.size, 0, none⟩) (Nat.le_refl _) (.int .u64 (wdg f k 0 : Nat))).setCell (p := ⟨w.heap.size, 1, none⟩) (Nat.le_refl _) (.int .u64 (wdg f k 1 : Nat))).setCell (p := ⟨w.heap.size, 2, none⟩) (Nat.le_refl _) (.int .u64 (wdg f k 2 : Nat))).setCell (p := ⟨w.heap.size, 3, none⟩) (Nat.le_refl _) (.int .u64 (wdg f k 3 : Nat))
      exact bodyPost_ret (v := .tuple #[wv (wdg f k 0) (wdg f k 1) (wdg f k 2) (wdg f k 3), .bool true]) (by simp [results, Try.f86, go_sem, r0, r1, r2, r3]) rfl (.inr ⟨HZ.out, rfl, hB'⟩)

end Go.Proofs.Ytigdenlnnnfjlaa

namespace Go.Proofs.Ytigdenlnnnfjlaa
open Go.RowKit

/-- Of the first i octets: what those of digit k come to. -/
def udg (l : List UInt8) (i k : Nat) : Nat := be (((l.take i).drop (30 - 2 * k)).take 2)
theorem udg_zero (l : List UInt8) : ds (udg l 0) 16 = ds (fun _ => 0) 16 := by simp [ds, udg, be]
theorem udg_lt (l : List UInt8) (i k : Nat) : udg l i k < 65536 := by
  have := be_lt' (l := ((l.take i).drop (30 - 2 * k)).take 2) (k := 2) (by simp; omega)
  unfold udg
  omega
theorem udg_small {l : List UInt8} {i : Nat} (hi : i < 32) : udg l i ((31 - i) / 2) ≤ 255 := by
  have := be_lt' (l := ((l.take i).drop (30 - 2 * ((31 - i) / 2))).take 2) (k := 1) (by simp; omega)
  unfold udg
  omega
theorem udg_step {l : List UInt8} {i : Nat} {x : UInt8} (hx : l[i]? = some x) (hi : i < 32) : ds (udg l (i + 1)) 16 = ds (upd (udg l i) ((31 - i) / 2) (udg l i ((31 - i) / 2) * 256 + x.toNat)) 16 := by
  have hil : i < l.length := (List.getElem?_eq_some_iff.1 hx).1
  unfold ds
  refine List.map_congr_left fun k hk => ?_
  have hk16 : k < 16 := List.mem_range.1 hk
  congr 2
  have e1 : l.take (i + 1) = l.take i ++ [x] := by rw [List.take_add_one, hx]; rfl
  have hl : (l.take i).length = i := by simp; omega
  unfold upd
  by_cases h : k = (31 - i) / 2
  · subst h
    rw [if_pos rfl]
    unfold udg
    rw [e1, ← be_snoc]
    generalize hd : 30 - 2 * ((31 - i) / 2) = d
    have hdi : d ≤ i ∧ i < d + 2 := by omega
    rw [List.drop_append_of_le_length (by rw [hl]; omega), List.take_of_length_le (l := (l.take i).drop d ++ [x]) (by simp; omega), List.take_of_length_le (l := (l.take i).drop d) (by simp; omega)]
  · rw [if_neg h]
    unfold udg
    rw [e1]
    by_cases h' : i < 30 - 2 * k
    · rw [List.drop_of_length_le (by simp; omega), List.drop_of_length_le (by rw [hl]; omega)]
    · rw [List.drop_append_of_le_length (by rw [hl]; omega), List.take_append_of_le_length (by rw [List.length_drop, hl]; omega)]
theorem wdg_udg {l : List UInt8} (h : l.length = 32) {q : Nat} (hq : q < 4) : wdg (udg l 32) 16 q = uwd l 32 q := by
  rw [wdg_4 _ (by omega)]
  unfold udg uwd
  rw [List.take_of_length_le (l := l) (by omega)]
  have e : ∀ t, t < 4 → 30 - 2 * (4 * q + t) = 8 * (3 - q) + (6 - 2 * t) := fun t ht => by omega
  have e0 := e 0 (by omega)
  rw [Nat.add_zero] at e0
  rw [e0, e 1 (by omega), e 2 (by omega), e 3 (by omega), ← List.drop_drop, ← List.drop_drop, ← List.drop_drop, ← List.drop_drop]
  have hl : (l.drop (8 * (3 - q))).length ≥ 8 := by rw [List.length_drop]; omega
  generalize l.drop (8 * (3 - q)) = A at *
  match A, hl with
  | c0 :: c1 :: c2 :: c3 :: c4 :: c5 :: c6 :: c7 :: r, _ =>
    simp only [be, Nat.reduceMul, Nat.reduceSub, Nat.sub_zero, Nat.mul_zero, List.drop_succ_cons, List.drop_zero, List.take_succ_cons, List.take_zero, List.foldl_cons, List.foldl_nil]
    omega

theorem run_make16 (w : World) : (Instr.makeSlice 139 (.int .i64 16) (.int .i64 16)).run Try.prog w = .ok (.slice (some ⟨w.heap.size, 0, none⟩) 16 16) (w.alloc (.cells (ds (fun _ => 0) 16).toArray 3)) := by
  kernel_rfl

set_option maxRecDepth 100000 in
set_option maxHeartbeats 4000000 in
theorem refUnwide_any (l : List UInt8) (sv : Value) (w : World) (hl : l.length = 32) (hsv : BSl 0 w.heap.size w sv l) :
    Calls Try.prog 70 #[sv] w fun e W' => e = .returned (wv (uwd l 32 0) (uwd l 32 1) (uwd l 32 2) (uwd l 32 3)) ∧ Below w.heap.size w W' := by
  have hmx : Try.prog.follows .mixedOrders = true := by kernel_rfl
  have hmk := run_make16
  obtain ⟨a, cap, rfl, hcap, hcs⟩ := hsv
  obtain ⟨b, off, rfl, hbw, ho⟩ : ∃ b off, a = some ⟨b, off, none⟩ ∧ b < w.heap.size ∧ Octs w b off l := by
    rcases hcs with h0 | ⟨b, off, h1, _, h2, h3⟩
    · rw [h0] at hl; simp at hl
    · exact ⟨b, off, h1, h2, h3⟩
  have HL := Lib.hid hl
  rw [hl] at hcap ⊢
  clear hl hcs
  go_enter Try.func70, Try.ntmps70
  go_wp2
  clear hmk
  go_loopw [4] (fun i wr => ∃ k : Nat, k ≤ 32 ∧ i = .int .i64 k ∧ Blk wr w.heap.size 24 (ws fun _ => 0) ∧ Blk wr (w.heap.size + 1) 3 (ds (udg l k) 16) ∧ Below w.heap.size w wr) (fun i _ => 32 - (intOf i).toNat)
  case atStart => exact ⟨0, by omega, rfl, (Blk.new _ _ _).alloc _, by rw [udg_zero]; exact Blk.new' (by simp), chainA (chain0 _ _) _⟩
  case round =>
    obtain ⟨k, hk, rfl, k0, k1, hB⟩ := hrel
    by_cases hlt : k < 32
    · obtain ⟨x, hx⟩ : ∃ x, l[k]? = some x := ⟨_, List.getElem?_eq_getElem (by rw [HL.out]; exact hlt)⟩
      have hcx := (ho.below hB hbw) k x hx
      have hsm := udg_small (l := l) hlt
      have hst := udg_step hx hlt
      have hpl : (31 - k) / 2 < 16 := by omega
      have hp : ((31 : Int) - k) / 2 = (((31 - k) / 2 : Nat) : Int) := by omega
      have hcp := k1.cell ((31 - k) / 2)
      rw [ds_at _ hpl] at hcp
      have hfp := k1.frozen ((31 - k) / 2)
      have HS := Lib.hid hst
      have HX := Lib.hid hx
      clear hst hx
      generalize udg l k ((31 - k) / 2) = y at *
      generalize (31 - k) / 2 = p at *
      have hy : (y : Int) ≤ 255 := by omega
      have hp16 : (p : Int) < 16 := by omega
      have hk32 : (k : Int) < 32 := by omega
      have hx8 := x.toNat_lt
      have hx8' : (x.toNat : Int) ≤ 255 := by omega
      go_wp2_with fail
      refine wp_region_any hmx ?_
      change wpAny _ _ _ _ _ _ _ (World.drew _)
      refine wpAny_take (i := 0) (v := ?_) rfl (by kernel_rfl) (by kernel_rfl) (by kernel_rfl) (fun _ _ _ h => h) (Or.inl ⟨rfl, ?_⟩) ?_
      rotate_left
      · intro w'; go_simp; with_reducible rfl
      refine wpAny_take (i := 1) (v := ?_) rfl (by kernel_rfl) (by kernel_rfl) (by kernel_rfl) (fun _ _ _ h => h) (Or.inl ⟨rfl, ?_⟩) ?_
      rotate_left
      · intro w'; go_simp; with_reducible rfl
      refine wpAny_take (i := 2) (v := ?_) rfl (by kernel_rfl) (by kernel_rfl) (by kernel_rfl) (fun _ _ _ h => h) (Or.inl ⟨rfl, ?_⟩) ?_
      rotate_left
      · intro w'; go_simp; with_reducible rfl
      refine wpAny_take (i := 3) (v := ?_) rfl (by kernel_rfl) (by kernel_rfl) (by kernel_rfl) (fun _ _ _ h => h) (Or.inl ⟨rfl, ?_⟩) ?_
      rotate_left
      · intro w'; go_simp; with_reducible rfl
      refine wpAny_take (i := 4) (v := ?_) rfl (by kernel_rfl) (by kernel_rfl) (by kernel_rfl) (fun _ _ _ h => h) (Or.inl ⟨rfl, ?_⟩) ?_
      rotate_left
      · intro w'; go_simp; with_reducible rfl
      refine wpAny_take (i := 7) (v := ?_) rfl (by kernel_rfl) (by kernel_rfl) (by kernel_rfl) (fun _ _ _ h => h) (Or.inl ⟨rfl, ?_⟩) ?_
      rotate_left
      · intro w'; go_simp; with_reducible rfl
      refine wpAny_take (i := 8) (v := ?_) rfl (by kernel_rfl) (by kernel_rfl) (by kernel_rfl) (fun _ _ _ h => h) (Or.inl ⟨rfl, ?_⟩) ?_
      rotate_left
      · intro w'; go_simp; with_reducible rfl
      refine wpAny_take (i := 9) (v := ?_) rfl (by kernel_rfl) (by kernel_rfl) (by kernel_rfl) (fun _ _ _ h => h) (Or.inl ⟨rfl, ?_⟩) ?_
      rotate_left
      · intro w'; go_simp; with_reducible rfl
      refine wpAny_ready (rs := [5, 10]) (by kernel_rfl) (by simp) ?_
      refine AllReady.cons rfl (fun K hK => ?_) (AllReady.cons rfl (fun K hK => ?_) AllReady.nil)
      all_goals (go_simp; refine hK _ _ ?_; clear hK K)
      refine wpAny_take (i := 6) (v := ?_) rfl (by kernel_rfl) (by kernel_rfl) (by kernel_rfl) (fun _ _ _ h => h) (Or.inl ⟨rfl, ?_⟩) ?_
      rotate_left
      · intro w'; go_simp; with_reducible rfl
      refine wpAny_ready (rs := [10]) (by kernel_rfl) (by simp) ?_
      refine AllReady.cons rfl (fun K hK => ?_) AllReady.nil
      go_simp
      refine hK _ _ ?_
      clear hK K
      refine wpAny_take (i := 11) (v := ?_) rfl (by kernel_rfl) (by kernel_rfl) (by kernel_rfl) (fun _ _ _ h => h) (Or.inl ⟨rfl, ?_⟩) ?_
      rotate_left
      · intro w'; go_simp; with_reducible rfl
      rotate_left
      refine wpAny_take (i := 11) (v := ?_) rfl (by kernel_rfl) (by kernel_rfl) (by kernel_rfl) (fun _ _ _ h => h) (Or.inl ⟨rfl, ?_⟩) ?_
      rotate_left
      · intro w'; go_simp; with_reducible rfl
      refine wpAny_ready (rs := [5]) (by kernel_rfl) (by simp) ?_
      refine AllReady.cons rfl (fun K hK => ?_) AllReady.nil
      go_simp
      refine hK _ _ ?_
      clear hK K
      refine wpAny_take (i := 6) (v := ?_) rfl (by kernel_rfl) (by kernel_rfl) (by kernel_rfl) (fun _ _ _ h => h) (Or.inl ⟨rfl, ?_⟩) ?_
      rotate_left
      · intro w'; go_simp; with_reducible rfl
      rotate_left
      all_goals
        refine wpAny_take (i := 12) (v := ?_) rfl (by kernel_rfl) (by kernel_rfl) (by kernel_rfl) (fun _ _ _ h => h) (Or.inl ⟨rfl, ?_⟩) ?_
        rotate_left
        · intro w'; go_simp; with_reducible rfl
        refine wpAny_take (i := 13) (v := ?_) rfl (by kernel_rfl) (by kernel_rfl) (by kernel_rfl) (fun _ _ _ h => h) (Or.inl ⟨rfl, ?_⟩) ?_
        rotate_left
        · intro w'; go_simp; with_reducible rfl
        refine wpAny_ready (rs := [14]) (by kernel_rfl) (by simp) ?_
        refine AllReady.cons rfl (fun K hK => ?_) AllReady.nil
        go_simp
        refine hK _ _ ?_
        clear hK K
        refine wpAny_done (by kernel_rfl) ?_ _
        have hv : IntKind.i64.wrap (IntKind.i64.wrap ((y : Int) * 256) + IntKind.i64.wrap (x.toNat : Int)) = ((y * 256 + x.toNat : Nat) : Int) := by
          rw [wr_i64 ((y : Int) * 256) (by omega) (by omega), wr_i64 (x.toNat : Int) (by omega) (by omega), wr_i64 _ (by omega) (by omega)]
          omega
        rw [hv]
        go_wp2
        have kk := k1.set p (.int .i64 ((y * 256 + x.toNat : Nat) : Int))
        rw [ds_set, ← HS.out] at kk
        exact ⟨⟨k + 1, by omega, by simp, k0.other p _ (by omega), kk, (hB.setCell (p := ⟨w.heap.size + 1, p, none⟩) (by simp) _).drew⟩, by simp [intOf]; omega⟩
    · obtain rfl : k = 32 := by omega
      go_wp2_with fail
      refine (made_any 16 16 (w.heap.size + 1) (udg l 32) (by omega) (fun k _ => udg_lt l 32 k) wr k1.lt k1.numsOf).mono ?_
      rintro e w3 (⟨⟨i, hi1, hi2, _⟩, _⟩ | ⟨_, rfl, hb3⟩)
      · omega
      rw [wdg_udg HL.out (by omega), wdg_udg HL.out (by omega), wdg_udg HL.out (by omega), wdg_udg HL.out (by omega)]
      have k3 := k0.below hb3 k0.lt
      have d3 := chain hB hb3
      generalize hs0 : uwd l 32 0 = s0 at *
      have H0 := Lib.hid hs0
      clear hs0
      generalize hs1 : uwd l 32 1 = s1 at *
      have H1 := Lib.hid hs1
      clear hs1
      generalize hs2 : uwd l 32 2 = s2 at *
      have H2 := Lib.hid hs2
      clear hs2
      generalize hs3 : uwd l 32 3 = s3 at *
      have H3 := Lib.hid hs3
      clear hs3
      have c0 : w3.cell? ⟨w.heap.size, 0, none⟩ = some (.int .u64 ((0 : Nat) : Int)) := k3.cell 0
      have c1 : w3.cell? ⟨w.heap.size, 1, none⟩ = some (.int .u64 ((0 : Nat) : Int)) := k3.cell 1
      have c2 : w3.cell? ⟨w.heap.size, 2, none⟩ = some (.int .u64 ((0 : Nat) : Int)) := k3.cell 2
      have c3 : w3.cell? ⟨w.heap.size, 3, none⟩ = some (.int .u64 ((0 : Nat) : Int)) := k3.cell 3
      have f0 := k3.frozen 0
      have f1 := k3.frozen 1
      have f2 := k3.frozen 2
      have f3 := k3.frozen 3
      have l3 := k3.lt
      go_wp2
      have k4 := ((((k3.set 0 (.int .u64 (s0 : Nat))).set 1 (.int .u64 (s1 : Nat))).set 2 (.int .u64 (s2 : Nat))).set 3 (.int .u64 (s3 : Nat))).alloc (.cells #[.int .u64 (s0 : Nat), .int .u64 (s1 : Nat), .int .u64 (s2 : Nat), .int .u64 (s3 : Nat)] 24)
      have r0 := k4.cell 0
      have r1 := k4.cell 1
      have r2 := k4.cell 2
      have r3 := k4.cell 3
      simp only [ws, List.set_cons_zero, List.set_cons_succ, List.getElem?_cons_zero, List.getElem?_cons_succ] at r0 r1 r2 r3
      have hB' := ((((d3.setCell (p := ⟨w.heap.size, 0, none⟩) (Nat.le_refl _) (.int .u64 (s0 : Nat))).setCell (p := ⟨w.heap.size, 1, none⟩) (Nat.le_refl _) (.int .u64 (s1 : Nat))).setCell (p := ⟨w.heap.size, 2, none⟩) (Nat.le_refl _) (.int .u64 (s2 : Nat))).setCell (p := ⟨w.heap.size, 3, none⟩) (Nat.le_refl _) (.int .u64 (s3 : Nat))).alloc (by simp; omega) (.cells #[.int .u64 (s0 : Nat), .int .u64 (s1 : Nat), .int .u64 (s2 : Nat), .int .u64 (s3 : Nat)] 24)
      exact bodyPost_ret (v := wv s0 s1 s2 s3) (by simp [results, Try.f70, go_sem, r0, r1, r2, r3]) rfl ⟨by rw [H0.out, H1.out, H2.out, H3.out], hB'⟩

end Go.Proofs.Ytigdenlnnnfjlaa

namespace Go.Proofs.Ytigdenlnnnfjlaa
open Go.RowKit Go.Shelf

/-- What is taken, and what is left. -/
def TakR (r : List UInt8 × St) (w : World) (e : Ending) (W' : World) : Prop :=
  ∃ v1 v2, e = .returned (.tuple #[v1, .agg #[v2, .int .i64 r.2.2]]) ∧ BSl 0 W'.heap.size W' v1 r.1 ∧ BSl 0 W'.heap.size W' v2 r.2.1 ∧ Below w.heap.size w W'

theorem bsl_take2 {lo hi : Nat} {W : World} {a : Option Addr} {n c : Nat} {l : List UInt8} (h : BSl lo hi W (.slice a n c) l) {k : Nat} (hk : k ≤ l.length) : BSl lo hi W (.slice a k c) (l.take k) := by
  obtain ⟨a', c', e, hc, h0⟩ := bsl_take h hk
  obtain ⟨_, _, e2, hc2, _⟩ := h
  cases e2
  obtain ⟨rfl, e3, rfl⟩ := Value.slice.inj e
  exact ⟨_, c, by rw [← e3], by omega, h0⟩
theorem takR_stored {r : List UInt8 × St} {w Y : World} {v1 v2 : Value} {NB : Nat} {z : Value} {x : Int} (h1 : BSl 0 Y.heap.size Y v1 r.1) (h2 : BSl 0 Y.heap.size Y v2 r.2.1) (hB : Below w.heap.size w Y) (hNB : w.heap.size ≤ NB) (hz : ∃ a m c, z = .slice a m c)
    (kR : Blk Y NB 74 [z, .int .i64 x]) :
    Blk ((Y.setCell ⟨NB, 0, none⟩ v2).setCell ⟨NB, 1, none⟩ (.int .i64 r.2.2)) NB 74 [v2, .int .i64 r.2.2] ∧ TakR r w (.returned (.tuple #[v1, .agg #[v2, .int .i64 r.2.2]])) ((Y.setCell ⟨NB, 0, none⟩ v2).setCell ⟨NB, 1, none⟩ (.int .i64 r.2.2)) := by
  obtain ⟨k1, q1, qB⟩ := stored_at (y := r.2.2) h2 hB hNB hz kR
  obtain ⟨a, m, c, rfl⟩ := hz
  obtain ⟨a2, m2, c2, rfl⟩ := h2.shape3
  have k0 := kR.set 0 (.slice a2 m2 c2)
  exact ⟨k1, _, _, rfl, ((h1.to (Nat.le_refl _) (grownBy_setCell4 Y NB 0 (.slice a2 m2 c2)) (fun r e => by cases e; exact noOct2 kR)).to (by simp) (grownBy_setCell4 _ NB 1 (.int .i64 r.2.2)) (fun r e => by cases e; exact noOct2 k0)).mono (Nat.le_refl _) (by simp), q1, qB⟩

set_option maxRecDepth 100000 in
set_option maxHeartbeats 1000000 in
theorem refTake_any {s : St} (k : Nat) (sv : Value) (w : World) (hsl : BSl 0 w.heap.size w sv s.1) :
    Calls Try.prog 67 #[.agg #[sv, .int .i64 s.2], .int .i64 (k : Nat)] w (TakR (takeS s k) w) := by
  have hmx : Try.prog.follows .mixedOrders = true := by kernel_rfl
  obtain ⟨a, c, rfl, hcap⟩ := hsl.shape
  generalize hn : s.1.length = n at *
  have HN := Lib.hid hn
  clear hn
  by_cases hf : s.2 = 0
  · by_cases hfit : k ≤ n
    · rw [takeS_ok hf (by rw [HN.out]; exact hfit)]
      have hf1 : (s.2 != 0) = false := by simpa using hf
      have hf2 : (s.2 == 0) = true := by simpa using hf
      clear hf
      have hgt : ¬ ((n : Int) < (k : Int)) := by omega
      have hle : (k : Int) ≤ (n : Int) := by omega
      have hle2 : (k : Int) ≤ (c : Int) := by omega
      have HDR := Lib.hid (bsl_drop hsl (k := k) (by rw [HN.out]; exact hfit))
      have HDN := Lib.hid (fun e => bsl_none hsl (k := k) (by rw [HN.out]; exact hfit) e)
      have HTK := Lib.hid (bsl_take2 hsl (k := k) (by rw [HN.out]; exact hfit))
      by_cases hck : c = k
      · subst hck
        go_enter Try.func67, Try.ntmps67
        go_wp2_with fail
        generalize hW0 : World.alloc _ _ = W0
        have kA : Blk W0 w.heap.size 74 [.slice a n c, .int .i64 s.2] := by rw [← hW0]; exact (Blk.new w _ [_, _]).alloc _
        have kR : Blk W0 (w.heap.size + 1) 74 [.slice none 0 0, .int .i64 0] := by rw [← hW0]; exact Blk.new' (vs := [_, _]) (by simp)
        have hB0 : Below w.heap.size w W0 := by rw [← hW0]; exact chainA (chain0 _ _) _
        clear hW0
        obtain ⟨c0, c1⟩ := Blk.c2 kA
        go_still_tail 10, (by kernel_rfl)
        rw [show n - c = 0 by omega, Nat.sub_self] at HDN
        change wpList _ _ _ _ _ (World.drew _)
        replace kR : Blk W0.drew (w.heap.size + 1) 74 [.slice none 0 0, .int .i64 0] := kR
        replace hB0 : Below w.heap.size w W0.drew := hB0.drew
        clear kA c0 c1
        generalize W0.drew = Y at *
        obtain ⟨r0, r1⟩ := Blk.c2 kR
        have g0 := kR.frozen 0
        have g1 := kR.frozen 1
        go_wp2_with fail
        obtain ⟨kR2, hfin⟩ := takR_stored (r := (s.1.take c, s.1.drop c, 0)) (v1 := .slice a c c) (v2 := .slice a 0 0) ((HTK.out.below hB0 (Nat.le_refl _)).mono (Nat.le_refl _) hB0.size) (((HDN.out (by trivial)).below hB0 (Nat.le_refl _)).mono (Nat.le_refl _) hB0.size) hB0 (Nat.le_add_right _ 1) ⟨_, _, _, rfl⟩ kR
        obtain ⟨q0, q1⟩ := Blk.c2 kR2
        exact bodyPost_ret (v := .tuple #[.slice a c c, .agg #[.slice a 0 0, .int .i64 ((s.1.take c, s.1.drop c, 0)).2.2]]) (by simp [results, Try.results67, go_sem, q0, q1]) rfl hfin
      · go_enter Try.func67, Try.ntmps67
        go_wp2_with fail
        generalize hW0 : World.alloc _ _ = W0
        have kA : Blk W0 w.heap.size 74 [.slice a n c, .int .i64 s.2] := by rw [← hW0]; exact (Blk.new w _ [_, _]).alloc _
        have kR : Blk W0 (w.heap.size + 1) 74 [.slice none 0 0, .int .i64 0] := by rw [← hW0]; exact Blk.new' (vs := [_, _]) (by simp)
        have hB0 : Below w.heap.size w W0 := by rw [← hW0]; exact chainA (chain0 _ _) _
        clear hW0
        obtain ⟨c0, c1⟩ := Blk.c2 kA
        go_still_tail 10, (by kernel_rfl)
        change wpList _ _ _ _ _ (World.drew _)
        replace kR : Blk W0.drew (w.heap.size + 1) 74 [.slice none 0 0, .int .i64 0] := kR
        replace hB0 : Below w.heap.size w W0.drew := hB0.drew
        clear kA c0 c1
        generalize W0.drew = Y at *
        obtain ⟨r0, r1⟩ := Blk.c2 kR
        have g0 := kR.frozen 0
        have g1 := kR.frozen 1
        go_wp2_with fail
        obtain ⟨kR2, hfin⟩ := takR_stored (r := (s.1.take k, s.1.drop k, 0)) (v1 := .slice a k c) (v2 := .slice (a.map fun x => x.add k) (n - k) (c - k)) ((HTK.out.below hB0 (Nat.le_refl _)).mono (Nat.le_refl _) hB0.size) ((HDR.out.below hB0 (Nat.le_refl _)).mono (Nat.le_refl _) hB0.size) hB0 (Nat.le_add_right _ 1) ⟨_, _, _, rfl⟩ kR
        obtain ⟨q0, q1⟩ := Blk.c2 kR2
        exact bodyPost_ret (v := .tuple #[.slice a k c, .agg #[.slice (a.map fun x => x.add k) (n - k) (c - k), .int .i64 ((s.1.take k, s.1.drop k, 0)).2.2]]) (by simp [results, Try.results67, go_sem, q0, q1]) rfl hfin
    · rw [takeS_short hf (by rw [HN.out]; omega)]
      have hgt : (n : Int) < (k : Int) := by omega
      have hf1 : (s.2 != 0) = false := by simpa using hf
      have hf2 : (s.2 == 0) = true := by simpa using hf
      clear hf
      go_enter Try.func67, Try.ntmps67
      go_wp2_with fail
      have hB : Below w.heap.size w ((w.alloc (.cells #[.slice a n c, .int .i64 s.2] 74)).alloc (.cells #[.slice none 0 0, .int .i64 16] 74)) := chainA (chain0 _ _) _
      exact bodyPost_ret (v := .tuple #[.slice none 0 0, .agg #[.slice none 0 0, .int .i64 16]]) (by simp [results, Try.results67, go_sem]) rfl ⟨_, _, rfl, BSl.nil _ _ _, BSl.nil _ _ _, hB⟩
  · rw [takeS_bad hf]
    have hf1 : (s.2 == 0) = false := by simpa using hf
    have hf2 : (s.2 != 0) = true := by simpa using hf
    clear hf
    go_enter Try.func67, Try.ntmps67
    go_wp2_with fail
    generalize hW0 : World.alloc _ _ = W0
    have kA : Blk W0 w.heap.size 74 [.slice a n c, .int .i64 s.2] := by rw [← hW0]; exact (Blk.new w _ [_, _]).alloc _
    have kR : Blk W0 (w.heap.size + 1) 74 [.slice none 0 0, .int .i64 0] := by rw [← hW0]; exact Blk.new' (vs := [_, _]) (by simp)
    have hB0 : Below w.heap.size w W0 := by rw [← hW0]; exact chainA (chain0 _ _) _
    clear hW0
    obtain ⟨c0, c1⟩ := Blk.c2 kA
    go_still_tail 2, (by kernel_rfl)
    change wpList _ _ _ _ _ (World.drew _)
    replace kR : Blk W0.drew (w.heap.size + 1) 74 [.slice none 0 0, .int .i64 0] := kR
    replace hB0 : Below w.heap.size w W0.drew := hB0.drew
    clear kA c0 c1
    generalize W0.drew = Y at *
    obtain ⟨r0, r1⟩ := Blk.c2 kR
    have g0 := kR.frozen 0
    have g1 := kR.frozen 1
    go_wp2_with fail
    obtain ⟨kR2, hfin⟩ := takR_stored (r := (([] : List UInt8), s)) (v1 := .slice none 0 0) (v2 := .slice a n c) (BSl.nil _ _ _) ((hsl.below hB0 (Nat.le_refl _)).mono (Nat.le_refl _) hB0.size) hB0 (Nat.le_add_right _ 1) ⟨_, _, _, rfl⟩ kR
    obtain ⟨q0, q1⟩ := Blk.c2 kR2
    exact bodyPost_ret (v := .tuple #[.slice none 0 0, .agg #[.slice a n c, .int .i64 ((([] : List UInt8), s)).2.2]]) (by simp [results, Try.results67, go_sem, q0, q1]) rfl hfin

/-- Octets that are left, and an error's number, as a struct. -/
def RefR (s : St) (w : World) (e : Ending) (W' : World) : Prop := ∃ sv, e = .returned (.agg #[sv, .int .i64 s.2]) ∧ BSl 0 W'.heap.size W' sv s.1 ∧ Below w.heap.size w W'
set_option maxRecDepth 100000 in
theorem refOpen6_any (l : List UInt8) (sv : Value) (w : World) (hsv : BSl 0 w.heap.size w sv l) :
    Calls Try.prog 35 #[sv] w (RefR (openS l) w) := by
  obtain ⟨a, c, rfl, -⟩ := hsv.shape
  unfold openS
  generalize l.length = n at *
  by_cases hfit : n ≤ 8192
  · rw [if_pos hfit]
    have hgt : ¬ (8192 : Int) < (n : Int) := by omega
    go_enter Try.func35, Try.ntmps35
    go_wp2_with fail
    have hB := chain0 w (.cells #[.slice a n c, .int .i64 0] 74)
    exact bodyPost_ret (v := .agg #[.slice a n c, .int .i64 0]) (by simp [results, Try.results35, go_sem]) rfl ⟨_, rfl, (hsv.below hB (Nat.le_refl _)).mono (Nat.le_refl _) hB.size, hB⟩
  · rw [if_neg hfit]
    have hgt : (8192 : Int) < (n : Int) := by omega
    go_enter Try.func35, Try.ntmps35
    go_wp2_with fail
    exact bodyPost_ret (v := .agg #[.slice none 0 0, .int .i64 5]) (by simp [results, Try.results35, go_sem]) rfl ⟨_, rfl, BSl.nil _ _ _, chain0 _ _⟩
set_option maxRecDepth 100000 in
theorem refSpoil_any {s : St} (sv : Value) (w : World) (hsl : BSl 0 w.heap.size w sv s.1) :
    Calls Try.prog 69 #[.agg #[sv, .int .i64 s.2]] w (RefR (errS s 16) w) := by
  obtain ⟨a, m, c, rfl⟩ := hsl.shape3
  by_cases hf : s.2 = 0
  · have e1 : errS s 16 = ([], 16) := if_pos hf
    rw [e1]
    clear e1
    have hf1 : (s.2 != 0) = false := by simpa using hf
    have hf2 : (s.2 == 0) = true := by simpa using hf
    clear hf
    go_enter Try.func69, Try.ntmps69
    go_wp2_with fail
    exact bodyPost_ret (v := .agg #[.slice none 0 0, .int .i64 16]) (by simp [results, Try.results69, go_sem]) rfl ⟨_, rfl, BSl.nil _ _ _, chainA (chain0 w _) _⟩
  · rw [errS_bad hf]
    have hf1 : (s.2 != 0) = true := by simpa using hf
    have hf2 : (s.2 == 0) = false := by simpa using hf
    clear hf
    go_enter Try.func69, Try.ntmps69
    go_wp2_with fail
    have hB : Below w.heap.size w ((w.alloc (.cells #[.slice a m c, .int .i64 s.2] 74)).alloc (.cells #[.slice a m c, .int .i64 s.2] 74)) := chainA (chain0 _ _) _
    exact bodyPost_ret (v := .agg #[.slice a m c, .int .i64 s.2]) (by simp [results, Try.results69, go_sem]) rfl ⟨_, rfl, (hsl.below hB (Nat.le_refl _)).mono (Nat.le_refl _) hB.size, hB⟩
end Go.Proofs.Ytigdenlnnnfjlaa

namespace Go.Proofs.Ytigdenlnnnfjlaa
open Go.RowKit Go.Shelf

def NumR (r : Nat × St) (w : World) (e : Ending) (W' : World) : Prop :=
  ∃ sv, e = .returned (.tuple #[.int .i64 (r.1 : Nat), .agg #[sv, .int .i64 r.2.2]]) ∧ BSl 0 W'.heap.size W' sv r.2.1 ∧ Below w.heap.size w W'
def TxtR (r : List UInt8 × St) (w : World) (e : Ending) (W' : World) : Prop :=
  ∃ sv, e = .returned (.tuple #[.string ⟨r.1.toArray⟩, .agg #[sv, .int .i64 r.2.2]]) ∧ BSl 0 W'.heap.size W' sv r.2.1 ∧ Below w.heap.size w W'
def WidR (r : List UInt8 × St) (w : World) (e : Ending) (W' : World) : Prop :=
  ∃ sv, e = .returned (.tuple #[wv (wdS r.1 0) (wdS r.1 1) (wdS r.1 2) (wdS r.1 3), .agg #[sv, .int .i64 r.2.2]]) ∧ BSl 0 W'.heap.size W' sv r.2.1 ∧ Below w.heap.size w W'

set_option maxRecDepth 100000 in
set_option maxHeartbeats 2000000 in
theorem refGetNumP_any {s : St} (sv : Value) (most lim : Int) (hm : (1099511627776 < most ∧ lim = 1099511627776) ∨ (¬ 1099511627776 < most ∧ lim = most)) (w : World) (hsl : BSl 0 w.heap.size w sv s.1) :
    Calls Try.prog 34 #[.agg #[sv, .int .i64 s.2], .int .i64 most] w (NumR (mostS s 6 lim) w) := by
  have hmx : Try.prog.follows .mixedOrders = true := by kernel_rfl
  obtain ⟨a, m, c, rfl⟩ := hsl.shape3
  unfold mostS
  have hl := takeS_len s 6
  generalize hr : takeS s 6 = r at *
  have HR := Lib.hid hr
  clear hr
  have HB := Lib.hid (fun sv w1 hs => refInt_any r.1 sv w1 (by omega) hs)
  have hb7 := be7_le r.1
  generalize be (r.1.take 7) = b at *
  by_cases hf : r.2.2 = 0
  · have hf1 : (r.2.2 == 0) = true := by simpa using hf
    have hf2 : (r.2.2 != 0) = false := by simpa using hf
    by_cases hlt : lim < (b : Int)
    · rw [if_pos ⟨hf, hlt⟩]
      clear hf
      rcases hm with ⟨hc, rfl⟩ | ⟨hc, rfl⟩
      all_goals
        go_enter Try.func34, Try.ntmps34
        go_wp2_with fail
        generalize hW0 : World.alloc _ _ = W0
        have kA : Blk W0 w.heap.size 74 [.slice a m c, .int .i64 s.2] := by rw [← hW0]; exact (Blk.new w _ [_, _]).alloc _
        have kR : Blk W0 (w.heap.size + 1) 74 [.slice none 0 0, .int .i64 0] := by rw [← hW0]; exact Blk.new' (vs := [_, _]) (by simp)
        have hB0 : Below w.heap.size w W0 := by rw [← hW0]; exact chainA (chain0 _ _) _
        clear hW0
        obtain ⟨c0, c1⟩ := Blk.c2 kA
        have hsl0 := (hsl.below hB0 (Nat.le_refl _)).mono (Nat.le_refl _) hB0.size
        go_wp2_with (first
          | (go_at_call 67; refine (refTake_any (s := s) 6 (.slice a m c) _ hsl0).mono ?_; rw [HR.out]; rintro e w1 ⟨v1, v2, rfl, hv1, hv2, hb1⟩; obtain ⟨a1, m1, d1, rfl⟩ := hv1.shape3; obtain ⟨a2, m2, d2, rfl⟩ := hv2.shape3; have kR1 := kR.below hb1 kR.lt; have u0 := fun o => (Blk.c2 (kR1.alloc o)).1; have u1 := fun o => (Blk.c2 (kR1.alloc o)).2; have g0 := fun o => (kR1.alloc o).frozen 0; have g1 := fun o => (kR1.alloc o).frozen 1)
          | (go_at_call 68; refine (HB.out _ _ ((hv1.below (chain0 w1 _) (Nat.le_refl _)).mono (Nat.le_refl _) (chain0 w1 _).size)).mono ?_; rintro e w2 ⟨rfl, rfl⟩))
        have kR2 := kR1.alloc (.cells #[.slice a2 m2 d2, .int .i64 r.2.2] 74)
        have hB2 := chainA (chain hB0 hb1) (.cells #[.slice a2 m2 d2, .int .i64 r.2.2] 74)
        obtain ⟨kR3, hq3, hB3⟩ := stored_at (y := 4) (BSl.nil 0 _ _) hB2 (Nat.le_add_right _ 1) ⟨_, _, _, rfl⟩ kR2
        obtain ⟨q0, q1⟩ := Blk.c2 kR3
        exact bodyPost_ret (v := .tuple #[.int .i64 0, .agg #[.slice none 0 0, .int .i64 4]]) (by simp [results, Try.results34, go_sem, q0, q1]) rfl ⟨_, rfl, hq3, hB3⟩
    · rw [if_neg (fun e => hlt e.2)]
      clear hf
      rcases hm with ⟨hc, rfl⟩ | ⟨hc, rfl⟩
      all_goals
        go_enter Try.func34, Try.ntmps34
        go_wp2_with fail
        generalize hW0 : World.alloc _ _ = W0
        have kA : Blk W0 w.heap.size 74 [.slice a m c, .int .i64 s.2] := by rw [← hW0]; exact (Blk.new w _ [_, _]).alloc _
        have kR : Blk W0 (w.heap.size + 1) 74 [.slice none 0 0, .int .i64 0] := by rw [← hW0]; exact Blk.new' (vs := [_, _]) (by simp)
        have hB0 : Below w.heap.size w W0 := by rw [← hW0]; exact chainA (chain0 _ _) _
        clear hW0
        obtain ⟨c0, c1⟩ := Blk.c2 kA
        have hsl0 := (hsl.below hB0 (Nat.le_refl _)).mono (Nat.le_refl _) hB0.size
        go_wp2_with (first
          | (go_at_call 67; refine (refTake_any (s := s) 6 (.slice a m c) _ hsl0).mono ?_; rw [HR.out]; rintro e w1 ⟨v1, v2, rfl, hv1, hv2, hb1⟩; obtain ⟨a1, m1, d1, rfl⟩ := hv1.shape3; obtain ⟨a2, m2, d2, rfl⟩ := hv2.shape3; have kR1 := kR.below hb1 kR.lt; have u0 := fun o => (Blk.c2 (kR1.alloc o)).1; have u1 := fun o => (Blk.c2 (kR1.alloc o)).2; have g0 := fun o => (kR1.alloc o).frozen 0; have g1 := fun o => (kR1.alloc o).frozen 1)
          | (go_at_call 68; refine (HB.out _ _ ((hv1.below (chain0 w1 _) (Nat.le_refl _)).mono (Nat.le_refl _) (chain0 w1 _).size)).mono ?_; rintro e w2 ⟨rfl, rfl⟩))
        have hX := chain0 w1 (.cells #[.slice a2 m2 d2, .int .i64 r.2.2] 74)
        have kX : Blk (w1.alloc (.cells #[.slice a2 m2 d2, .int .i64 r.2.2] 74)) w1.heap.size 74 [.slice a2 m2 d2, .int .i64 r.2.2] := Blk.new w1 _ [_, _]
        have kR2 := kR1.alloc (.cells #[.slice a2 m2 d2, .int .i64 r.2.2] 74)
        have hB2 := chainA (chain hB0 hb1) (.cells #[.slice a2 m2 d2, .int .i64 r.2.2] 74)
        have hq2 := (hv2.below hX (Nat.le_refl _)).mono (Nat.le_refl _) hX.size
        clear u0 u1 g0 g1 kA kR kR1 hv1 hv2 hb1 hB0 hsl0 hX c0 c1
        generalize w1.alloc (.cells #[.slice a2 m2 d2, .int .i64 r.2.2] 74) = Wq at *
        obtain ⟨x0, x1⟩ := Blk.c2 kX
        go_still_tail 3, (by kernel_rfl)
        change wpList _ _ _ _ _ (World.drew _)
        replace kR2 : Blk Wq.drew (w.heap.size + 1) 74 [.slice none 0 0, .int .i64 0] := kR2
        replace hB2 : Below w.heap.size w Wq.drew := hB2.drew
        replace hq2 : BSl 0 Wq.drew.heap.size Wq.drew (.slice a2 m2 d2) r.2.1 := hq2
        clear kX x0 x1
        generalize Wq.drew = Y at *
        obtain ⟨r0, r1⟩ := Blk.c2 kR2
        have g0 := kR2.frozen 0
        have g1 := kR2.frozen 1
        go_wp2_with fail
        obtain ⟨kR3, hq3, hB3⟩ := stored_at (y := r.2.2) hq2 hB2 (Nat.le_add_right _ 1) ⟨_, _, _, rfl⟩ kR2
        obtain ⟨q0, q1⟩ := Blk.c2 kR3
        exact bodyPost_ret (v := .tuple #[.int .i64 (b : Nat), .agg #[.slice a2 m2 d2, .int .i64 r.2.2]]) (by simp [results, Try.results34, go_sem, q0, q1]) rfl ⟨_, rfl, hq3, hB3⟩
  · rw [if_neg (fun e => hf e.1)]
    have hf1 : (r.2.2 == 0) = false := by simpa using hf
    have hf2 : (r.2.2 != 0) = true := by simpa using hf
    clear hf
    go_enter Try.func34, Try.ntmps34
    go_wp2_with fail
    generalize hW0 : World.alloc _ _ = W0
    have kA : Blk W0 w.heap.size 74 [.slice a m c, .int .i64 s.2] := by rw [← hW0]; exact (Blk.new w _ [_, _]).alloc _
    have kR : Blk W0 (w.heap.size + 1) 74 [.slice none 0 0, .int .i64 0] := by rw [← hW0]; exact Blk.new' (vs := [_, _]) (by simp)
    have hB0 : Below w.heap.size w W0 := by rw [← hW0]; exact chainA (chain0 _ _) _
    clear hW0
    obtain ⟨c0, c1⟩ := Blk.c2 kA
    have hsl0 := (hsl.below hB0 (Nat.le_refl _)).mono (Nat.le_refl _) hB0.size
    go_wp2_with (first
      | (go_at_call 67; refine (refTake_any (s := s) 6 (.slice a m c) _ hsl0).mono ?_; rw [HR.out]; rintro e w1 ⟨v1, v2, rfl, hv1, hv2, hb1⟩; obtain ⟨a1, m1, d1, rfl⟩ := hv1.shape3; obtain ⟨a2, m2, d2, rfl⟩ := hv2.shape3; have kR1 := kR.below hb1 kR.lt; have u0 := fun o => (Blk.c2 (kR1.alloc o)).1; have u1 := fun o => (Blk.c2 (kR1.alloc o)).2; have g0 := fun o => (kR1.alloc o).frozen 0; have g1 := fun o => (kR1.alloc o).frozen 1)
      | (go_at_call 68; refine (HB.out _ _ ((hv1.below (chain0 w1 _) (Nat.le_refl _)).mono (Nat.le_refl _) (chain0 w1 _).size)).mono ?_; rintro e w2 ⟨rfl, rfl⟩))
    have hX := chain0 w1 (.cells #[.slice a2 m2 d2, .int .i64 r.2.2] 74)
    have kX : Blk (w1.alloc (.cells #[.slice a2 m2 d2, .int .i64 r.2.2] 74)) w1.heap.size 74 [.slice a2 m2 d2, .int .i64 r.2.2] := Blk.new w1 _ [_, _]
    have kR2 := kR1.alloc (.cells #[.slice a2 m2 d2, .int .i64 r.2.2] 74)
    have hB2 := chainA (chain hB0 hb1) (.cells #[.slice a2 m2 d2, .int .i64 r.2.2] 74)
    have hq2 := (hv2.below hX (Nat.le_refl _)).mono (Nat.le_refl _) hX.size
    clear u0 u1 g0 g1 kA kR kR1 hv1 hv2 hb1 hB0 hsl0 hX c0 c1
    generalize w1.alloc (.cells #[.slice a2 m2 d2, .int .i64 r.2.2] 74) = Wq at *
    obtain ⟨x0, x1⟩ := Blk.c2 kX
    go_still_tail 3, (by kernel_rfl)
    change wpList _ _ _ _ _ (World.drew _)
    replace kR2 : Blk Wq.drew (w.heap.size + 1) 74 [.slice none 0 0, .int .i64 0] := kR2
    replace hB2 : Below w.heap.size w Wq.drew := hB2.drew
    replace hq2 : BSl 0 Wq.drew.heap.size Wq.drew (.slice a2 m2 d2) r.2.1 := hq2
    clear kX x0 x1
    generalize Wq.drew = Y at *
    obtain ⟨r0, r1⟩ := Blk.c2 kR2
    have g0 := kR2.frozen 0
    have g1 := kR2.frozen 1
    go_wp2_with fail
    obtain ⟨kR3, hq3, hB3⟩ := stored_at (y := r.2.2) hq2 hB2 (Nat.le_add_right _ 1) ⟨_, _, _, rfl⟩ kR2
    obtain ⟨q0, q1⟩ := Blk.c2 kR3
    exact bodyPost_ret (v := .tuple #[.int .i64 (b : Nat), .agg #[.slice a2 m2 d2, .int .i64 r.2.2]]) (by simp [results, Try.results34, go_sem, q0, q1]) rfl ⟨_, rfl, hq3, hB3⟩
theorem refGetNum_any {s : St} (sv : Value) (most : Int) (w : World) (hsl : BSl 0 w.heap.size w sv s.1) :
    Calls Try.prog 34 #[.agg #[sv, .int .i64 s.2], .int .i64 most] w (NumR (mostS s 6 (min most 1099511627776)) w) := refGetNumP_any sv most _ (by omega) w hsl

theorem stored_keeps {l : List UInt8} {y : Value} {Y : World} {v sv : Value} {T : TypeId} {NB : Nat} {z : Value} {x : Int} (hv : BSl 0 Y.heap.size Y v l) (hz : ∃ a m c, z = .slice a m c) (hs : ∃ a m c, sv = .slice a m c)
    (kR : Blk Y NB T [z, .int .i64 x]) : BSl 0 ((Y.setCell ⟨NB, 0, none⟩ sv).setCell ⟨NB, 1, none⟩ y).heap.size ((Y.setCell ⟨NB, 0, none⟩ sv).setCell ⟨NB, 1, none⟩ y) v l := by
  obtain ⟨a, m, c, rfl⟩ := hz
  obtain ⟨a2, m2, c2, rfl⟩ := hs
  have k1 := kR.set 0 (.slice a2 m2 c2)
  exact ((hv.to (Nat.le_refl _) (grownBy_setCell4 Y NB 0 (.slice a2 m2 c2)) (fun r e => by cases e; exact noOct2 kR)).to (by simp) (grownBy_setCell4 _ NB 1 y) (fun r e => by cases e; exact noOct2 k1)).mono (Nat.le_refl _) (by simp)
theorem strR (W : World) {lo hi : Nat} {sv : Value} {l : List UInt8} (h : BSl lo hi W sv l) : (convert 35 9 sv).run Try.prog W = .ok (.string ⟨l.toArray⟩) W :=
  run_string (P := Try.prog) 35 5 9 Try.underlying35 Try.underlying5 Try.underlying9 W h

set_option maxRecDepth 100000 in
set_option maxHeartbeats 2000000 in
theorem refGetTextP_any {s : St} (sv : Value) (most lim : Int) (hm : (1024 < most ∧ lim = 1024) ∨ (¬ 1024 < most ∧ lim = most)) (w : World) (hsl : BSl 0 w.heap.size w sv s.1) :
    Calls Try.prog 38 #[.agg #[sv, .int .i64 s.2], .int .i64 most] w (TxtR (gtxtS s lim) w) := by
  have hmx : Try.prog.follows .mixedOrders = true := by kernel_rfl
  obtain ⟨a, m, c, rfl⟩ := hsl.shape3
  unfold gtxtS mostS
  have hl := takeS_len s 2
  generalize hr : takeS s 2 = r at *
  have HR := Lib.hid hr
  clear hr
  have HB := Lib.hid (fun sv w1 hs => refInt_any r.1 sv w1 (by omega) hs)
  have hb7 := be7_le r.1
  generalize be (r.1.take 7) = b at *
  by_cases hf : r.2.2 = 0
  · have hf1 : (r.2.2 == 0) = true := by simpa using hf
    have hf2 : (r.2.2 != 0) = false := by simpa using hf
    by_cases hlt : lim < (b : Int)
    · rw [if_pos ⟨hf, hlt⟩]
      clear hf
      rcases hm with ⟨hc, rfl⟩ | ⟨hc, rfl⟩
      all_goals
        have tok : True := trivial
        go_enter Try.func38, Try.ntmps38
        go_wp2_with fail
        generalize hW0 : World.alloc _ _ = W0
        have kA : Blk W0 w.heap.size 74 [.slice a m c, .int .i64 s.2] := by rw [← hW0]; exact (Blk.new w _ [_, _]).alloc _
        have kR : Blk W0 (w.heap.size + 1) 74 [.slice none 0 0, .int .i64 0] := by rw [← hW0]; exact Blk.new' (vs := [_, _]) (by simp)
        have hB0 : Below w.heap.size w W0 := by rw [← hW0]; exact chainA (chain0 _ _) _
        clear hW0
        obtain ⟨c0, c1⟩ := Blk.c2 kA
        have hsl0 := (hsl.below hB0 (Nat.le_refl _)).mono (Nat.le_refl _) hB0.size
        go_wp2_with (first
          | (go_at_call 67; (have _t := tok); clear _t tok; refine (refTake_any (s := s) 2 (.slice a m c) _ hsl0).mono ?_; rw [HR.out]; rintro e w1 ⟨v1, v2, rfl, hv1, hv2, hb1⟩; obtain ⟨a1, m1, d1, rfl⟩ := hv1.shape3; obtain ⟨a2, m2, d2, rfl⟩ := hv2.shape3; have kR1 := kR.below hb1 kR.lt; have u0 := fun o => (Blk.c2 (kR1.alloc o)).1; have u1 := fun o => (Blk.c2 (kR1.alloc o)).2; have g0 := fun o => (kR1.alloc o).frozen 0; have g1 := fun o => (kR1.alloc o).frozen 1)
          | (go_at_call 68; refine (HB.out _ _ ((hv1.below (chain0 w1 _) (Nat.le_refl _)).mono (Nat.le_refl _) (chain0 w1 _).size)).mono ?_; rintro e w2 ⟨rfl, rfl⟩))
        have kR2 := kR1.alloc (.cells #[.slice a2 m2 d2, .int .i64 r.2.2] 74)
        have hB2 := chainA (chain hB0 hb1) (.cells #[.slice a2 m2 d2, .int .i64 r.2.2] 74)
        obtain ⟨kR3, hq3, hB3⟩ := stored_at (y := 4) (BSl.nil 0 _ _) hB2 (Nat.le_add_right _ 1) ⟨_, _, _, rfl⟩ kR2
        obtain ⟨q0, q1⟩ := Blk.c2 kR3
        exact bodyPost_ret (v := .tuple #[.string ⟨#[]⟩, .agg #[.slice none 0 0, .int .i64 4]]) (by simp [results, Try.results38, go_sem, q0, q1]) rfl ⟨_, rfl, hq3, hB3⟩
    · rw [if_neg (fun e => hlt e.2)]
      clear hf
      rcases hm with ⟨hc, rfl⟩ | ⟨hc, rfl⟩
      all_goals
        have tok : True := trivial
        go_enter Try.func38, Try.ntmps38
        go_wp2_with fail
        generalize hW0 : World.alloc _ _ = W0
        have kA : Blk W0 w.heap.size 74 [.slice a m c, .int .i64 s.2] := by rw [← hW0]; exact (Blk.new w _ [_, _]).alloc _
        have kR : Blk W0 (w.heap.size + 1) 74 [.slice none 0 0, .int .i64 0] := by rw [← hW0]; exact Blk.new' (vs := [_, _]) (by simp)
        have hB0 : Below w.heap.size w W0 := by rw [← hW0]; exact chainA (chain0 _ _) _
        clear hW0
        obtain ⟨c0, c1⟩ := Blk.c2 kA
        have hsl0 := (hsl.below hB0 (Nat.le_refl _)).mono (Nat.le_refl _) hB0.size
        go_wp2_with (first
          | (go_at_call 67; (have _t := tok); clear _t tok; refine (refTake_any (s := s) 2 (.slice a m c) _ hsl0).mono ?_; rw [HR.out]; rintro e w1 ⟨v1, v2, rfl, hv1, hv2, hb1⟩; obtain ⟨a1, m1, d1, rfl⟩ := hv1.shape3; obtain ⟨a2, m2, d2, rfl⟩ := hv2.shape3; have kR1 := kR.below hb1 kR.lt; have u0 := fun o => (Blk.c2 (kR1.alloc o)).1; have u1 := fun o => (Blk.c2 (kR1.alloc o)).2; have g0 := fun o => (kR1.alloc o).frozen 0; have g1 := fun o => (kR1.alloc o).frozen 1)
          | (go_at_call 68; refine (HB.out _ _ ((hv1.below (chain0 w1 _) (Nat.le_refl _)).mono (Nat.le_refl _) (chain0 w1 _).size)).mono ?_; rintro e w2 ⟨rfl, rfl⟩))
        have hX := chain0 w1 (.cells #[.slice a2 m2 d2, .int .i64 r.2.2] 74)
        have kX : Blk (w1.alloc (.cells #[.slice a2 m2 d2, .int .i64 r.2.2] 74)) w1.heap.size 74 [.slice a2 m2 d2, .int .i64 r.2.2] := Blk.new w1 _ [_, _]
        have kR2 := kR1.alloc (.cells #[.slice a2 m2 d2, .int .i64 r.2.2] 74)
        have hB2 := chainA (chain hB0 hb1) (.cells #[.slice a2 m2 d2, .int .i64 r.2.2] 74)
        have hq2 := (hv2.below hX (Nat.le_refl _)).mono (Nat.le_refl _) hX.size
        have hNB : w.heap.size ≤ w1.heap.size := (chain hB0 hb1).size
        have hne : w.heap.size + 1 < w1.heap.size := kR1.lt
        clear u0 u1 g0 g1 kA kR kR1 hv1 hv2 hb1 hB0 hsl0 hX c0 c1 HR
        generalize w1.alloc (.cells #[.slice a2 m2 d2, .int .i64 r.2.2] 74) = Wq at *
        generalize w1.heap.size = XB at *
        refine (refTake_any (s := r.2) b (.slice a2 m2 d2) Wq hq2).mono ?_
        generalize takeS r.2 b = q at *
        rintro e w3 ⟨v3, v4, rfl, hv3, hv4, hb3⟩
        obtain ⟨a3, m3, d3, rfl⟩ := hv3.shape3
        obtain ⟨a4, m4, d4, rfl⟩ := hv4.shape3
        have kX3 := kX.below hb3 kX.lt
        have kR3 := kR2.below hb3 kR2.lt
        have hB3 := chain hB2 hb3
        clear kX kR2 hB2 hq2 hb3
        obtain ⟨x0, x1⟩ := Blk.c2 kX3
        have g0 := kX3.frozen 0
        have g1 := kX3.frozen 1
        go_wp2_with fail
        obtain ⟨kX4, hq4, hB4⟩ := stored_at (y := q.2.2) hv4 hB3 hNB ⟨_, _, _, rfl⟩ kX3
        have hq3 := stored_keeps (y := .int .i64 q.2.2) (sv := .slice a4 m4 d4) hv3 ⟨_, _, _, rfl⟩ ⟨_, _, _, rfl⟩ kX3
        have kR4 := (kR3.other 0 (.slice a4 m4 d4) (by omega : w.heap.size + 1 ≠ XB)).other 1 (.int .i64 q.2.2) (by omega : w.heap.size + 1 ≠ XB)
        clear x0 x1 g0 g1 kX3 kR3 hB3 hv3 hv4
        generalize ((w3.setCell ⟨XB, 0, none⟩ (.slice a4 m4 d4)).setCell ⟨XB, 1, none⟩ (.int .i64 q.2.2)) = Wr at *
        obtain ⟨x0, x1⟩ := Blk.c2 kX4
        replace kR4 : Blk Wr.drew (w.heap.size + 1) 74 [.slice none 0 0, .int .i64 0] := kR4
        replace hB4 : Below w.heap.size w Wr.drew := hB4.drew
        replace hq4 : BSl 0 Wr.drew.heap.size Wr.drew (.slice a4 m4 d4) q.2.1 := hq4
        replace hq3 : BSl 0 Wr.drew.heap.size Wr.drew (.slice a3 m3 d3) q.1 := hq3
        replace x0 : Wr.drew.cell? ⟨XB, 0, none⟩ = some (.slice a4 m4 d4) := x0
        replace x1 : Wr.drew.cell? ⟨XB, 1, none⟩ = some (.int .i64 q.2.2) := x1
        clear kX4
        refine wp_region_still_tail 4 (by kernel_rfl) (by kernel_rfl) ?_
        simp only [List.take_succ_cons, List.take_zero, List.drop_succ_cons, List.drop_zero]
        change wpStill _ _ Wr.drew (fun a => wpList _ _ _ _ a Wr.drew) _ _
        generalize Wr.drew = Y at *
        have hst := strR Y hq3
        repeat still_step
        refine wpStill_nil ?_
        clear x0 x1 hst hq3
        obtain ⟨r0, r1⟩ := Blk.c2 kR4
        have g0 := kR4.frozen 0
        have g1 := kR4.frozen 1
        go_wp2_with fail
        obtain ⟨kR5, hq5, hB5⟩ := stored_at (y := q.2.2) hq4 hB4 (Nat.le_add_right _ 1) ⟨_, _, _, rfl⟩ kR4
        obtain ⟨q0, q1⟩ := Blk.c2 kR5
        exact bodyPost_ret (v := .tuple #[.string ⟨q.1.toArray⟩, .agg #[.slice a4 m4 d4, .int .i64 q.2.2]]) (by simp [results, Try.results38, go_sem, q0, q1]) rfl ⟨_, rfl, hq5, hB5⟩
  · rw [if_neg (fun e => hf e.1)]
    have hf1 : (r.2.2 == 0) = false := by simpa using hf
    have hf2 : (r.2.2 != 0) = true := by simpa using hf
    clear hf
    have tok : True := trivial
    go_enter Try.func38, Try.ntmps38
    go_wp2_with fail
    generalize hW0 : World.alloc _ _ = W0
    have kA : Blk W0 w.heap.size 74 [.slice a m c, .int .i64 s.2] := by rw [← hW0]; exact (Blk.new w _ [_, _]).alloc _
    have kR : Blk W0 (w.heap.size + 1) 74 [.slice none 0 0, .int .i64 0] := by rw [← hW0]; exact Blk.new' (vs := [_, _]) (by simp)
    have hB0 : Below w.heap.size w W0 := by rw [← hW0]; exact chainA (chain0 _ _) _
    clear hW0
    obtain ⟨c0, c1⟩ := Blk.c2 kA
    have hsl0 := (hsl.below hB0 (Nat.le_refl _)).mono (Nat.le_refl _) hB0.size
    go_wp2_with (first
      | (go_at_call 67; (have _t := tok); clear _t tok; refine (refTake_any (s := s) 2 (.slice a m c) _ hsl0).mono ?_; rw [HR.out]; rintro e w1 ⟨v1, v2, rfl, hv1, hv2, hb1⟩; obtain ⟨a1, m1, d1, rfl⟩ := hv1.shape3; obtain ⟨a2, m2, d2, rfl⟩ := hv2.shape3; have kR1 := kR.below hb1 kR.lt; have u0 := fun o => (Blk.c2 (kR1.alloc o)).1; have u1 := fun o => (Blk.c2 (kR1.alloc o)).2; have g0 := fun o => (kR1.alloc o).frozen 0; have g1 := fun o => (kR1.alloc o).frozen 1)
      | (go_at_call 68; refine (HB.out _ _ ((hv1.below (chain0 w1 _) (Nat.le_refl _)).mono (Nat.le_refl _) (chain0 w1 _).size)).mono ?_; rintro e w2 ⟨rfl, rfl⟩))
    have hX := chain0 w1 (.cells #[.slice a2 m2 d2, .int .i64 r.2.2] 74)
    have kX : Blk (w1.alloc (.cells #[.slice a2 m2 d2, .int .i64 r.2.2] 74)) w1.heap.size 74 [.slice a2 m2 d2, .int .i64 r.2.2] := Blk.new w1 _ [_, _]
    have kR2 := kR1.alloc (.cells #[.slice a2 m2 d2, .int .i64 r.2.2] 74)
    have hB2 := chainA (chain hB0 hb1) (.cells #[.slice a2 m2 d2, .int .i64 r.2.2] 74)
    have hq2 := (hv2.below hX (Nat.le_refl _)).mono (Nat.le_refl _) hX.size
    have hNB : w.heap.size ≤ w1.heap.size := (chain hB0 hb1).size
    have hne : w.heap.size + 1 < w1.heap.size := kR1.lt
    clear u0 u1 g0 g1 kA kR kR1 hv1 hv2 hb1 hB0 hsl0 hX c0 c1 HR
    generalize w1.alloc (.cells #[.slice a2 m2 d2, .int .i64 r.2.2] 74) = Wq at *
    generalize w1.heap.size = XB at *
    refine (refTake_any (s := r.2) b (.slice a2 m2 d2) Wq hq2).mono ?_
    generalize takeS r.2 b = q at *
    rintro e w3 ⟨v3, v4, rfl, hv3, hv4, hb3⟩
    obtain ⟨a3, m3, d3, rfl⟩ := hv3.shape3
    obtain ⟨a4, m4, d4, rfl⟩ := hv4.shape3
    have kX3 := kX.below hb3 kX.lt
    have kR3 := kR2.below hb3 kR2.lt
    have hB3 := chain hB2 hb3
    clear kX kR2 hB2 hq2 hb3
    obtain ⟨x0, x1⟩ := Blk.c2 kX3
    have g0 := kX3.frozen 0
    have g1 := kX3.frozen 1
    go_wp2_with fail
    obtain ⟨kX4, hq4, hB4⟩ := stored_at (y := q.2.2) hv4 hB3 hNB ⟨_, _, _, rfl⟩ kX3
    have hq3 := stored_keeps (y := .int .i64 q.2.2) (sv := .slice a4 m4 d4) hv3 ⟨_, _, _, rfl⟩ ⟨_, _, _, rfl⟩ kX3
    have kR4 := (kR3.other 0 (.slice a4 m4 d4) (by omega : w.heap.size + 1 ≠ XB)).other 1 (.int .i64 q.2.2) (by omega : w.heap.size + 1 ≠ XB)
    clear x0 x1 g0 g1 kX3 kR3 hB3 hv3 hv4
    generalize ((w3.setCell ⟨XB, 0, none⟩ (.slice a4 m4 d4)).setCell ⟨XB, 1, none⟩ (.int .i64 q.2.2)) = Wr at *
    obtain ⟨x0, x1⟩ := Blk.c2 kX4
    replace kR4 : Blk Wr.drew (w.heap.size + 1) 74 [.slice none 0 0, .int .i64 0] := kR4
    replace hB4 : Below w.heap.size w Wr.drew := hB4.drew
    replace hq4 : BSl 0 Wr.drew.heap.size Wr.drew (.slice a4 m4 d4) q.2.1 := hq4
    replace hq3 : BSl 0 Wr.drew.heap.size Wr.drew (.slice a3 m3 d3) q.1 := hq3
    replace x0 : Wr.drew.cell? ⟨XB, 0, none⟩ = some (.slice a4 m4 d4) := x0
    replace x1 : Wr.drew.cell? ⟨XB, 1, none⟩ = some (.int .i64 q.2.2) := x1
    clear kX4
    refine wp_region_still_tail 4 (by kernel_rfl) (by kernel_rfl) ?_
    simp only [List.take_succ_cons, List.take_zero, List.drop_succ_cons, List.drop_zero]
    change wpStill _ _ Wr.drew (fun a => wpList _ _ _ _ a Wr.drew) _ _
    generalize Wr.drew = Y at *
    have hst := strR Y hq3
    repeat still_step
    refine wpStill_nil ?_
    clear x0 x1 hst hq3
    obtain ⟨r0, r1⟩ := Blk.c2 kR4
    have g0 := kR4.frozen 0
    have g1 := kR4.frozen 1
    go_wp2_with fail
    obtain ⟨kR5, hq5, hB5⟩ := stored_at (y := q.2.2) hq4 hB4 (Nat.le_add_right _ 1) ⟨_, _, _, rfl⟩ kR4
    obtain ⟨q0, q1⟩ := Blk.c2 kR5
    exact bodyPost_ret (v := .tuple #[.string ⟨q.1.toArray⟩, .agg #[.slice a4 m4 d4, .int .i64 q.2.2]]) (by simp [results, Try.results38, go_sem, q0, q1]) rfl ⟨_, rfl, hq5, hB5⟩
theorem refGetText_any {s : St} (sv : Value) (most : Int) (w : World) (hsl : BSl 0 w.heap.size w sv s.1) :
    Calls Try.prog 38 #[.agg #[sv, .int .i64 s.2], .int .i64 most] w (TxtR (gtxtS s (min most 1024)) w) := refGetTextP_any sv most _ (by omega) w hsl
end Go.Proofs.Ytigdenlnnnfjlaa
