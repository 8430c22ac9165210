/-
  slices.Chunk over octets: pieces of a size, the last one maybe shorter.
-/
import Derived.Test.YtneilnfjnbecbaaBytes
import Derived.Test.YtneilnfjnbecbaaKeep2
namespace Go.Proofs.Ytneilnfjnbecbaa
open Go.RowKit Go.Shelf
attribute [local go_sem] Oper.semAt_some

/-- A piece: where it begins, how long it is. -/
abbrev CP (L : Nat) := { p : Nat × Nat // p.1 + p.2 ≤ L }
abbrev cpEnc {L : Nat} (b off : Nat) (p : CP L) : Array Value := #[.slice (some ⟨b, off + p.1.1, none⟩) p.1.2 p.1.2]
def chn (L s k : Nat) : CP L := ⟨(min (k * s) L, min s (L - min (k * s) L)), by dsimp only; omega⟩
/-- How many pieces. -/
def chc (L s : Nat) : Nat := (L + s - 1) / s
def chs (L s : Nat) : List (CP L) := (List.range (chc L s)).map (chn L s)
theorem chs_length (L s : Nat) : (chs L s).length = chc L s := by simp [chs]
theorem chs_at {L s k : Nat} (h : k < chc L s) : (chs L s)[k]? = some (chn L s k) := by unfold chs; rw [List.getElem?_map, List.getElem?_range h]; rfl
theorem chc_lt {L s k : Nat} (hs : 1 ≤ s) : k < chc L s ↔ k * s < L := by
  unfold chc
  rw [Nat.lt_iff_add_one_le, Nat.le_div_iff_mul_le (by omega), Nat.add_mul]
  omega
theorem chn_of {L s k : Nat} (h : k * s < L) : chn L s k = ⟨(k * s, min s (L - k * s)), by dsimp only; omega⟩ := by
  unfold chn
  apply Subtype.ext
  dsimp only
  rw [Nat.min_eq_left (Nat.le_of_lt h)]
theorem chc_nil (s : Nat) (hs : 1 ≤ s) : chc 0 s = 0 := by unfold chc; exact Nat.div_eq_of_lt (by omega)

set_option maxRecDepth 100000 in
set_option maxHeartbeats 4000000 in
theorem chunk1_in (F : Fence) (m : Nat) (h : F.fn 73) (hro : F.round = none) (hm : 1 ≤ m) (l Bs Bn b off cap L s : Nat) (hL : L ≤ 140737488354000) (hcap : L ≤ cap) (hcap' : cap ≤ 9223372036854775807) (hs : 1 ≤ s) (hs' : s ≤ 9223372036854775807) (J Jx : Nat → World → Prop) (W : World) (hJ : ∀ k W, J k W → J k W.drew)
    (hY : ∀ k W1, J k W1 → k < chc L s → YieldAt F (m - 1) Try.prog l (cpEnc b off (chn L s k)) W1 fun e W' =>
      (e = .returned (.bool true) ∧ J (k + 1) W' ∧ KeepB2 Bs Bn W1 W') ∨ (e = .returned (.bool false) ∧ Jx (k + 1) W'))
    (k1 : Boxed W Bs 22 (.slice (some ⟨b, off, none⟩) L cap)) (k2 : Boxed W Bn 3 (.int .i64 (s : Nat))) (h0 : J 0 W) :
    CallsIn F m Try.prog 73 #[.func (.yield l) #[] #[], .pointer (some ⟨Bs, 0, none⟩), .pointer (some ⟨Bn, 0, none⟩)] W fun e W' => (∃ v, e = .returned v) ∧
      (J (chc L s) W' ∨ (∃ k, k ≤ chc L s ∧ Jx k W')) := by
  refine callsIn_of_wp Try.func73 rfl h ?_ hro
  simp only [Try.ntmps73, List.size_toArray, List.length_cons, List.length_nil, Nat.reduceAdd, Nat.reduceSub, Array.replicate_succ, Array.replicate_zero, List.push_toArray, List.append_toArray, List.nil_append, List.cons_append]
  have hcL : (L : Int) ≤ (cap : Int) := by omega
  have hcI : (cap : Int) ≤ 9223372036854775807 := by omega
  gi_wp2
  gi_loopw [4] (fun i wr => ∃ k : Nat, k ≤ chc L s ∧ i = .int .i64 ((k * s : Nat) : Int) ∧ J k wr ∧ Boxed wr Bs 22 (.slice (some ⟨b, off, none⟩) L cap) ∧ Boxed wr Bn 3 (.int .i64 (s : Nat))) (fun i _ => L - (intOf i).toNat)
  case atStart => exact ⟨0, Nat.zero_le _, by rw [Nat.zero_mul]; rfl, h0, k1, k2⟩
  case round =>
    obtain ⟨k, hk, rfl, hJs, k1, k2⟩ := hrel
    have c1 := k1.cell
    have c2 := k2.cell
    by_cases hlt : k < chc L s
    · have hkL : k * s < L := (chc_lt hs).1 hlt
      obtain ⟨fn, tmps, assign, body, hy, hR⟩ := hY k wr.drew (hJ _ wr hJs) hlt
      rw [chn_of hkL] at hy
      change (Instr.yield l #[.slice (some ⟨b, off + k * s, none⟩) (min s (L - k * s)) (min s (L - k * s))]).run _ _ = _ at hy
      have hks : k * s + s ≤ 9223372036854775807 := by
        rcases Nat.eq_zero_or_pos k with h0 | h0
        · subst h0; omega
        · have := Nat.le_mul_of_pos_left s h0; omega
      have hnx : (k + 1) * s = k * s + s := Nat.succ_mul k s
      have HN := Lib.hid hnx
      clear hnx
      have HK : Hid (k + 1 ≤ chc L s) := Lib.hid hlt
      clear hlt
      generalize k * s = i at *
      have hi : (i : Int) < (L : Int) := by omega
      have his : (i : Int) + (s : Int) ≤ 9223372036854775807 := by omega
      have hne : ¬ cap = i := by omega
      have hiL : i ≤ L := by omega
      have hE : (if L - i < s then ((L - i : Nat) : Int) else (s : Int)) = ((min s (L - i) : Nat) : Int) := by split <;> omega
      have he0 : 0 < min s (L - i) := by omega
      have heL : i + min s (L - i) ≤ L := by omega
      have HE := Lib.hid hE
      clear hE
      generalize min s (L - i) = e at *
      have hie : (i : Int) + (e : Int) ≤ (L : Int) := by omega
      gi_wp2_with fail
      gi_region
      all_goals
        rw [HE.out]
        clear HE
        gi_wp2
        refine hR.mono ?_
        clear hy
        rintro e' W3 (⟨rfl, hJ3, hk3⟩ | ⟨rfl, hJx3⟩)
        · have q1 : Boxed W3 Bs 22 (.slice (some ⟨b, off, none⟩) L cap) := hk3.1.trans k1
          have q2 : Boxed W3 Bn 3 (.int .i64 (s : Nat)) := hk3.2.trans k2
          have d1 := q1.cell
          have d2 := q2.cell
          clear c1 c2
          gi_wp2
          have hq : (i : Int) + (s : Int) = (((k + 1) * s : Nat) : Int) := by rw [HN.out]; omega
          go_roundw
          case rel => exact ⟨k + 1, HK.out, by rw [hq], hJ3, q1, q2⟩
          case measure => simp [intOf]; omega
        · gi_wp2
          refine bodyPost_ret (results_none rfl _ _ _) rfl ?_
          exact ⟨⟨_, rfl⟩, .inr ⟨_, HK.out, hJx3⟩⟩
    · have hkL : ¬ k * s < L := fun e => hlt ((chc_lt hs).2 e)
      obtain rfl : k = chc L s := by omega
      clear hlt
      generalize chc L s * s = i at *
      have hkL' : ¬ (i : Int) < (L : Int) := by omega
      gi_wp2
      go_end0
      exact ⟨⟨_, rfl⟩, .inl hJs⟩

set_option maxRecDepth 100000 in
set_option maxHeartbeats 1000000 in
/-- .. of none: no round. -/
theorem chunk1_nil_in (F : Fence) (m : Nat) (h : F.fn 73) (hro : F.round = none) (l Bs Bn : Nat) (a : Option Addr) (cap : Nat) (J : World → Prop) (W : World) (hBs : W.cell? ⟨Bs, 0, none⟩ = some (.slice a 0 cap)) (h0 : J W) :
    CallsIn F m Try.prog 73 #[.func (.yield l) #[] #[], .pointer (some ⟨Bs, 0, none⟩), .pointer (some ⟨Bn, 0, none⟩)] W fun e W' => (∃ v, e = .returned v) ∧ J W' := by
  refine callsIn_of_wp Try.func73 rfl h ?_ hro
  simp only [Try.ntmps73, List.size_toArray, List.length_cons, List.length_nil, Nat.reduceAdd, Nat.reduceSub, Array.replicate_succ, Array.replicate_zero, List.push_toArray, List.append_toArray, List.nil_append, List.cons_append]
  gi_wp2
  gi_loopw [4] (fun i wr => i = .int .i64 0 ∧ J wr ∧ wr.cell? ⟨Bs, 0, none⟩ = some (.slice a 0 cap)) (fun _ _ => 0)
  case atStart => exact ⟨rfl, h0, hBs⟩
  case round =>
    obtain ⟨rfl, hJs, hc⟩ := hrel
    gi_wp2
    go_end0
    exact ⟨⟨_, rfl⟩, hJs⟩

set_option maxHeartbeats 1000000 in
theorem chunk_in (F : Fence) (m : Nat) (h5 : F.fn 61) (hro : F.round = none) (a : Option Addr) (len cap : Nat) (z : Int) (hs : 1 ≤ z) (w : World) :
    CallsIn F m Try.prog 61 #[.slice a len cap, .int .i64 z] w fun e w' => e = .returned (.func (.func 73) #[] #[.pointer (some ⟨w.heap.size, 0, none⟩), .pointer (some ⟨w.heap.size + 1, 0, none⟩)]) ∧ w' = (w.alloc (.cells #[.slice a len cap] 22)).alloc (.cells #[.int .i64 z] 3) := by
  have hs0 : ¬ z < 1 := by omega
  refine callsIn_of_wp Try.func61 rfl h5 ?_ hro
  simp only [Try.ntmps61, List.size_toArray, List.length_cons, List.length_nil, Nat.reduceAdd, Nat.reduceSub, Array.replicate_succ, Array.replicate_zero, List.push_toArray, List.append_toArray, List.nil_append, List.cons_append]
  gi_wp2
  go_ret
  exact ⟨rfl, rfl⟩

theorem chunk_stops (F : Fence) (m : Nat) (h : F.fn 73) (hro : F.round = none) (hm : 1 ≤ m) (Bs Bn b off cap L s : Nat) (a : Option Addr) (ha : L = 0 ∨ a = some ⟨b, off, none⟩) (hL : L ≤ 140737488354000) (hcap : L ≤ cap) (hcap' : cap ≤ 9223372036854775807) (hs : 1 ≤ s) (hs' : s ≤ 9223372036854775807)
    (w : World) (k1 : Boxed w Bs 22 (.slice a L cap)) (k2 : Boxed w Bn 3 (.int .i64 (s : Nat))) :
    SeqStopsK F m Try.prog 73 #[.pointer (some ⟨Bs, 0, none⟩), .pointer (some ⟨Bn, 0, none⟩)] (cpEnc b off) (KeepB2 Bs Bn) (fun ys => ys = chs L s) (fun _ => True) (chc L s) w := fun l J Jx W hW hJ _ hY h0 => by
  have q1 : Boxed W Bs 22 (.slice a L cap) := (hW.block Bs k1.lt).trans k1
  have q2 : Boxed W Bn 3 (.int .i64 (s : Nat)) := (hW.block Bn k2.lt).trans k2
  rcases ha with rfl | rfl
  · exact (chunk1_nil_in F m h hro l Bs Bn a cap (J []) W q1.cell h0).mono fun e W' ⟨he, hj⟩ => ⟨he, .inl ⟨_, by unfold chs; rw [chc_nil s hs]; rfl, hj⟩⟩
  · refine (chunk1_in F m h hro hm l Bs Bn b off cap L s hL hcap hcap' hs hs' (fun k => J ((chs L s).take k)) (fun k => Jx ((chs L s).take k)) W (fun k X hX => hJ _ X X.drew none hX ⟨rfl, rfl, rfl, Nat.le_refl _, fun _ _ _ => rfl⟩ (by simp)) (fun k W1 hj hk => ?_) q1 q2 h0).mono ?_
    · have ht : (chs L s).take (k + 1) = (chs L s).take k ++ [chn L s k] := by rw [List.take_add_one, chs_at hk]; rfl
      rw [ht]
      exact hY _ _ W1 hj (by rw [List.length_take, chs_length]; omega)
    · rintro e W' ⟨he, hj | ⟨k, _, hj⟩⟩
      · exact ⟨he, .inl ⟨_, by rw [List.take_of_length_le (by rw [chs_length]; exact Nat.le_refl _)], hj⟩⟩
      · exact ⟨he, .inr ⟨_, trivial, hj⟩⟩

end Go.Proofs.Ytneilnfjnbecbaa
