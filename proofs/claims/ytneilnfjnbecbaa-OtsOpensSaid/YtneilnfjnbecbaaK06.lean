/-
  blob.Num hands back a row of its own.
  slices.Chunk over octets: pieces of a size, the last one maybe shorter.
  slices.Values over octets: each.
  blob.Int: the number of the first seven octets at most.
  hash.blocks: a padded text block by block, each as its words.
-/
import Derived.Outline
import Derived.Test.YtneilnfjnbecbaaK05
namespace Go.Proofs.Ytneilnfjnbecbaa
open Go.RowKit Go.Shelf
attribute [local go_sem] Oper.semAt_some

set_option maxRecDepth 100000 in
set_option maxHeartbeats 4000000 in
theorem numO_in (m : Nat) (hm : 3 ≤ m) (n size : Int) (hs : -9223372036854775808 ≤ size) (hs' : size ≤ 9223372036854775807) (w : World) :
    CallsIn Fence.wide m Try.prog 46 #[.int .i64 n, .int .i64 size] w (ByO (octs (two n) (clamp size)) w) := by
  have h1 : 1 ≤ m := by omega
  refine callsIn_of_wp_marks Try.func46 rfl trivial ?_ rfl
  simp only [Try.ntmps46, List.size_toArray, List.length_cons, List.length_nil, Nat.reduceAdd, Nat.reduceSub, Array.replicate_succ, Array.replicate_zero, List.push_toArray, List.append_toArray, List.nil_append, List.cons_append]
  obtain ⟨i0, hi, hz0, hz1, hz2⟩ := info_parts Try.infoByte
  have hU : IntKind.u64.wrap n = (two n : Nat) := wrap_two n
  have hx : two n < M := by unfold two M; omega
  generalize two n = x at *
  have H8 := clamp_le size
  have hCC := clamp_cases size
  generalize clamp size = s at *
  rcases hCC with ⟨hc0, hC⟩ | ⟨hc0, hc8, hC⟩ | ⟨hc8, hC⟩
  all_goals
    have HC := Lib.hid hC
    clear hC
    gi_wp2_with (refine ⟨trivial, ?_⟩; gi_at_call 65; refine (octets_in Fence.wide (m - 1) trivial rfl _ _ _).mono ?_; rintro e w' ⟨rfl, rfl⟩)
    generalize hW5 : World.alloc _ _ = W5
    have k0 : Boxed W5 w.heap.size 22 (.slice none 0 0) := by rw [← hW5]; exact ((Boxed.new _ _ _).alloc _).alloc _
    have k1 : Boxed W5 (w.heap.size + 1) 78 (.int .u64 (x : Nat)) := by rw [← hW5]; exact (Blk.new' (vs := [.int .u64 (x : Nat)]) (by simp)).alloc _
    have k2 : Boxed W5 (w.heap.size + 1 + 1) 3 (.int .i64 (s : Nat)) := by rw [HC.out, ← hW5]; exact Blk.new' (vs := [.int .i64 _]) (by simp)
    have hB0 : Below w.heap.size w W5 := by rw [← hW5]; exact chainA (chainA (chain0 _ _) _) _
    have hz : W5.heap.size = w.heap.size + 3 := by rw [← hW5]; simp
    clear hW5
    refine wpIn_rangeFunc_ownF (S := fun ys => ys = octs x s) rfl h1 (gf := 76) (lb := #[.pointer (some ⟨w.heap.size + 1 + 1, 0, none⟩), .pointer (some ⟨w.heap.size + 1, 0, none⟩)]) rfl trivial (enters_of Try.func76 (by kernel_rfl) rfl)
      (octets1_stops Fence.wide (m - 1) trivial rfl (by omega) x s H8 (w.heap.size + 1) (w.heap.size + 1 + 1) W5 k1.lt k2.lt (k1.cell) k2.cell (KeepB (w.heap.size + 1)) (fun A B h => World.cell?_of_block h)) KeepB.t (KeepB.b k1.lt) (Below.refl _ _) (fun _ => rfl)
      (NumI w.heap.size (w.heap.size + 1) x w) (fun _ _ _ => False) (numI_own (Nat.le_refl _) (by omega)) (fun _ _ _ _ _ hs _ _ => hs)
      ⟨⟨⟨_, k0, World.ownsRow_nil _ _ _ _, trivial⟩, k1⟩, hB0⟩ ?_ ?_ ?_ ?_ ?_
    rotate_left
    · intro l x W K hK
      gi_wp2
      exact hK
    · rintro l pre o W ⟨⟨⟨v, kv, hown, _⟩, kn⟩, hB⟩ hlt
      have ko := kv.cell
      have kf := kv.frozen
      have hNW : w.heap.size ≤ W.heap.size := hB.size
      gi_wp2_with (gi_at_builtin; refine wpListIn_append_own _ rfl _ _ 22 rfl w.heap.size 5 i0 (.int .u8 0) 1 1 Try.underlying22 hi hz0 hz1 hz2 rfl (by decide) v pre.length (pre.map bv) rfl (hown.alloc _) ⟨W.heap.size, 0, none⟩ 1 1 [bv o] rfl rfl (cell_one_new _ _ _) (by simp [Value.oneCell']) (by unfold maxLen; omega) (by omega) (by simp; omega) ?_; intro v' w1 hown' hgrow _; obtain ⟨g, cap, rfl⟩ := ownsRow_succ hown'; obtain ⟨hv1, kv', hrow', hk3, hbw⟩ := kv.appended (by decide) hown hNW (Nat.le_refl _) hown' hgrow; have ko1 := hv1.cell; have kf1 := hv1.frozen)
      have hn1 : W.heap.size ≤ w1.heap.size := Nat.le_trans (by simp) hgrow.size
      have kn1 : Boxed w1 (w.heap.size + 1) 78 (.int .u64 (x : Nat)) := (kn.alloc _).kept hgrow (Boxed.not_row kn (by decide) hown)
      have kn3 := kn1.kept (grownBy_setCell' w1 w.heap.size (.slice (some ⟨g, 0, none⟩) (pre.length + 1) cap)) (by simp)
      exact ⟨hk3, kn3.trans kn.symm, ⟨⟨_, kv', by simpa using hrow', trivial⟩, kn3⟩, hB.trans hbw⟩
    · rintro D ys W hD rfl ⟨⟨⟨v, kv, hown, _⟩, kn⟩, hB⟩ hK
      have ko := kv.cell
      have HZ := Lib.hid hz
      clear hz
      gi_wp2
      have hB' := hB.trans (belowK_b (w := w) (Nat.le_refl _) _ D _ (.deferred none) (by have := HZ.out; omega) hK rfl rfl)
      have hown3 := ownsRow_putObj hown (.deferred none) hK rfl
      refine ⟨by simp, .inl ⟨_, _, rfl, run_takeDeferred hK, ?_⟩⟩
      refine ⟨v, ?_, ?_⟩
      · simp [results, Try.f46, go_sem]
      · exact ⟨v, rfl, hown3, hB'⟩
    · rintro D c pre W _ _ h _
      exact h.elim

theorem numO_any (n size : Int) (hs : -9223372036854775808 ≤ size) (hs' : size ≤ 9223372036854775807) (w : World) :
    Calls Try.prog 46 #[.int .i64 n, .int .i64 size] w (ByO (octs (two n) (clamp size)) w) := callsIn_wide.1 (numO_in 3 (by omega) n size hs hs' w)
end Go.Proofs.Ytneilnfjnbecbaa

namespace Go.Proofs.Ytneilnfjnbecbaa
open Go.RowKit Go.Shelf
attribute [local go_sem] Oper.semAt_some

/-- A piece: where it begins, how long it is. -/
abbrev CP (L : Nat) := { p : Nat × Nat // p.1 + p.2 ≤ L }
abbrev cpEnc {L : Nat} (b off : Nat) (p : CP L) : Array Value := #[.slice (some ⟨b, off + p.1.1, none⟩) p.1.2 p.1.2]
def chn (L s k : Nat) : CP L := ⟨(min (k * s) L, min s (L - min (k * s) L)), by dsimp only; omega⟩
/-- How many pieces. -/
def chc (L s : Nat) : Nat := (L + s - 1) / s
def chs (L s : Nat) : List (CP L) := (List.range (chc L s)).map (chn L s)
theorem chs_length (L s : Nat) : (chs L s).length = chc L s := by simp [chs]
theorem chs_at {L s k : Nat} (h : k < chc L s) : (chs L s)[k]? = some (chn L s k) := by unfold chs; rw [List.getElem?_map, List.getElem?_range h]; rfl
theorem chc_lt {L s k : Nat} (hs : 1 ≤ s) : k < chc L s ↔ k * s < L := by
  unfold chc
  rw [Nat.lt_iff_add_one_le, Nat.le_div_iff_mul_le (by omega), Nat.add_mul]
  omega
theorem chn_of {L s k : Nat} (h : k * s < L) : chn L s k = ⟨(k * s, min s (L - k * s)), by dsimp only; omega⟩ := by
  unfold chn
  apply Subtype.ext
  dsimp only
  rw [Nat.min_eq_left (Nat.le_of_lt h)]
theorem chc_nil (s : Nat) (hs : 1 ≤ s) : chc 0 s = 0 := by unfold chc; exact Nat.div_eq_of_lt (by omega)

set_option maxRecDepth 100000 in
set_option maxHeartbeats 4000000 in
theorem chunk1_in (F : Fence) (m : Nat) (h : F.fn 73) (hro : F.round = none) (hm : 1 ≤ m) (l Bs Bn b off cap L s : Nat) (hL : L ≤ 140737488354000) (hcap : L ≤ cap) (hcap' : cap ≤ 9223372036854775807) (hs : 1 ≤ s) (hs' : s ≤ 9223372036854775807) (J Jx : Nat → World → Prop) (W : World) (hJ : ∀ k W, J k W → J k W.drew)
    (hY : ∀ k W1, J k W1 → k < chc L s → YieldAt F (m - 1) Try.prog l (cpEnc b off (chn L s k)) W1 fun e W' =>
      (e = .returned (.bool true) ∧ J (k + 1) W' ∧ KeepB2 Bs Bn W1 W') ∨ (e = .returned (.bool false) ∧ Jx (k + 1) W'))
    (k1 : Boxed W Bs 22 (.slice (some ⟨b, off, none⟩) L cap)) (k2 : Boxed W Bn 3 (.int .i64 (s : Nat))) (h0 : J 0 W) :
    CallsIn F m Try.prog 73 #[.func (.yield l) #[] #[], .pointer (some ⟨Bs, 0, none⟩), .pointer (some ⟨Bn, 0, none⟩)] W fun e W' => (∃ v, e = .returned v) ∧
      (J (chc L s) W' ∨ (∃ k, k ≤ chc L s ∧ Jx k W')) := by
  refine callsIn_of_wp Try.func73 rfl h ?_ hro
  simp only [Try.ntmps73, List.size_toArray, List.length_cons, List.length_nil, Nat.reduceAdd, Nat.reduceSub, Array.replicate_succ, Array.replicate_zero, List.push_toArray, List.append_toArray, List.nil_append, List.cons_append]
  have hcL : (L : Int) ≤ (cap : Int) := by omega
  have hcI : (cap : Int) ≤ 9223372036854775807 := by omega
  gi_wp2
  gi_loopw [4] (fun i wr => ∃ k : Nat, k ≤ chc L s ∧ i = .int .i64 ((k * s : Nat) : Int) ∧ J k wr ∧ Boxed wr Bs 22 (.slice (some ⟨b, off, none⟩) L cap) ∧ Boxed wr Bn 3 (.int .i64 (s : Nat))) (fun i _ => L - (intOf i).toNat)
  case atStart => exact ⟨0, Nat.zero_le _, by rw [Nat.zero_mul]; rfl, h0, k1, k2⟩
  case round =>
    obtain ⟨k, hk, rfl, hJs, k1, k2⟩ := hrel
    have c1 := k1.cell
    have c2 := k2.cell
    by_cases hlt : k < chc L s
    · have hkL : k * s < L := (chc_lt hs).1 hlt
      obtain ⟨fn, tmps, assign, body, hy, hR⟩ := hY k wr.drew (hJ _ wr hJs) hlt
      rw [chn_of hkL] at hy
      change (Instr.yield l #[.slice (some ⟨b, off + k * s, none⟩) (min s (L - k * s)) (min s (L - k * s))]).run _ _ = _ at hy
      have hks : k * s + s ≤ 9223372036854775807 := by
        rcases Nat.eq_zero_or_pos k with h0 | h0
        · subst h0; omega
        · have := Nat.le_mul_of_pos_left s h0; omega
      have hnx : (k + 1) * s = k * s + s := Nat.succ_mul k s
      have HN := Lib.hid hnx
      clear hnx
      have HK : Hid (k + 1 ≤ chc L s) := Lib.hid hlt
      clear hlt
      generalize k * s = i at *
      have hi : (i : Int) < (L : Int) := by omega
      have his : (i : Int) + (s : Int) ≤ 9223372036854775807 := by omega
      have hne : ¬ cap = i := by omega
      have hiL : i ≤ L := by omega
      have hE : (if L - i < s then ((L - i : Nat) : Int) else (s : Int)) = ((min s (L - i) : Nat) : Int) := by split <;> omega
      have he0 : 0 < min s (L - i) := by omega
      have heL : i + min s (L - i) ≤ L := by omega
      have HE := Lib.hid hE
      clear hE
      generalize min s (L - i) = e at *
      have hie : (i : Int) + (e : Int) ≤ (L : Int) := by omega
      gi_wp2_with fail
      gi_region
      all_goals
        rw [HE.out]
        clear HE
        gi_wp2
        refine hR.mono ?_
        clear hy
        rintro e' W3 (⟨rfl, hJ3, hk3⟩ | ⟨rfl, hJx3⟩)
        · have q1 : Boxed W3 Bs 22 (.slice (some ⟨b, off, none⟩) L cap) := hk3.1.trans k1
          have q2 : Boxed W3 Bn 3 (.int .i64 (s : Nat)) := hk3.2.trans k2
          have d1 := q1.cell
          have d2 := q2.cell
          clear c1 c2
          gi_wp2
          have hq : (i : Int) + (s : Int) = (((k + 1) * s : Nat) : Int) := by rw [HN.out]; omega
          go_roundw
          case rel => exact ⟨k + 1, HK.out, by rw [hq], hJ3, q1, q2⟩
          case measure => simp [intOf]; omega
        · gi_wp2
          refine bodyPost_ret (results_none rfl _ _ _) rfl ?_
          exact ⟨⟨_, rfl⟩, .inr ⟨_, HK.out, hJx3⟩⟩
    · have hkL : ¬ k * s < L := fun e => hlt ((chc_lt hs).2 e)
      obtain rfl : k = chc L s := by omega
      clear hlt
      generalize chc L s * s = i at *
      have hkL' : ¬ (i : Int) < (L : Int) := by omega
      gi_wp2
      go_end0
      exact ⟨⟨_, rfl⟩, .inl hJs⟩

set_option maxRecDepth 100000 in
set_option maxHeartbeats 1000000 in
/-- .. of none: no round. -/
theorem chunk1_nil_in (F : Fence) (m : Nat) (h : F.fn 73) (hro : F.round = none) (l Bs Bn : Nat) (a : Option Addr) (cap : Nat) (J : World → Prop) (W : World) (hBs : W.cell? ⟨Bs, 0, none⟩ = some (.slice a 0 cap)) (h0 : J W) :
    CallsIn F m Try.prog 73 #[.func (.yield l) #[] #[], .pointer (some ⟨Bs, 0, none⟩), .pointer (some ⟨Bn, 0, none⟩)] W fun e W' => (∃ v, e = .returned v) ∧ J W' := by
  refine callsIn_of_wp Try.func73 rfl h ?_ hro
  simp only [Try.ntmps73, List.size_toArray, List.length_cons, List.length_nil, Nat.reduceAdd, Nat.reduceSub, Array.replicate_succ, Array.replicate_zero, List.push_toArray, List.append_toArray, List.nil_append, List.cons_append]
  gi_wp2
  gi_loopw [4] (fun i wr => i = .int .i64 0 ∧ J wr ∧ wr.cell? ⟨Bs, 0, none⟩ = some (.slice a 0 cap)) (fun _ _ => 0)
  case atStart => exact ⟨rfl, h0, hBs⟩
  case round =>
    obtain ⟨rfl, hJs, hc⟩ := hrel
    gi_wp2
    go_end0
    exact ⟨⟨_, rfl⟩, hJs⟩

set_option maxHeartbeats 1000000 in
theorem chunk_in (F : Fence) (m : Nat) (h5 : F.fn 61) (hro : F.round = none) (a : Option Addr) (len cap : Nat) (z : Int) (hs : 1 ≤ z) (w : World) :
    CallsIn F m Try.prog 61 #[.slice a len cap, .int .i64 z] w fun e w' => e = .returned (.func (.func 73) #[] #[.pointer (some ⟨w.heap.size, 0, none⟩), .pointer (some ⟨w.heap.size + 1, 0, none⟩)]) ∧ w' = (w.alloc (.cells #[.slice a len cap] 22)).alloc (.cells #[.int .i64 z] 3) := by
  have hs0 : ¬ z < 1 := by omega
  refine callsIn_of_wp Try.func61 rfl h5 ?_ hro
  simp only [Try.ntmps61, List.size_toArray, List.length_cons, List.length_nil, Nat.reduceAdd, Nat.reduceSub, Array.replicate_succ, Array.replicate_zero, List.push_toArray, List.append_toArray, List.nil_append, List.cons_append]
  gi_wp2
  go_ret
  exact ⟨rfl, rfl⟩

theorem chunk_stops (F : Fence) (m : Nat) (h : F.fn 73) (hro : F.round = none) (hm : 1 ≤ m) (Bs Bn b off cap L s : Nat) (a : Option Addr) (ha : L = 0 ∨ a = some ⟨b, off, none⟩) (hL : L ≤ 140737488354000) (hcap : L ≤ cap) (hcap' : cap ≤ 9223372036854775807) (hs : 1 ≤ s) (hs' : s ≤ 9223372036854775807)
    (w : World) (k1 : Boxed w Bs 22 (.slice a L cap)) (k2 : Boxed w Bn 3 (.int .i64 (s : Nat))) :
    SeqStopsK F m Try.prog 73 #[.pointer (some ⟨Bs, 0, none⟩), .pointer (some ⟨Bn, 0, none⟩)] (cpEnc b off) (KeepB2 Bs Bn) (fun ys => ys = chs L s) (fun _ => True) (chc L s) w := fun l J Jx W hW hJ _ hY h0 => by
  have q1 : Boxed W Bs 22 (.slice a L cap) := (hW.block Bs k1.lt).trans k1
  have q2 : Boxed W Bn 3 (.int .i64 (s : Nat)) := (hW.block Bn k2.lt).trans k2
  rcases ha with rfl | rfl
  · exact (chunk1_nil_in F m h hro l Bs Bn a cap (J []) W q1.cell h0).mono fun e W' ⟨he, hj⟩ => ⟨he, .inl ⟨_, by unfold chs; rw [chc_nil s hs]; rfl, hj⟩⟩
  · refine (chunk1_in F m h hro hm l Bs Bn b off cap L s hL hcap hcap' hs hs' (fun k => J ((chs L s).take k)) (fun k => Jx ((chs L s).take k)) W (fun k X hX => hJ _ X X.drew none hX ⟨rfl, rfl, rfl, Nat.le_refl _, fun _ _ _ => rfl⟩ (by simp)) (fun k W1 hj hk => ?_) q1 q2 h0).mono ?_
    · have ht : (chs L s).take (k + 1) = (chs L s).take k ++ [chn L s k] := by rw [List.take_add_one, chs_at hk]; rfl
      rw [ht]
      exact hY _ _ W1 hj (by rw [List.length_take, chs_length]; omega)
    · rintro e W' ⟨he, hj | ⟨k, _, hj⟩⟩
      · exact ⟨he, .inl ⟨_, by rw [List.take_of_length_le (by rw [chs_length]; exact Nat.le_refl _)], hj⟩⟩
      · exact ⟨he, .inr ⟨_, trivial, hj⟩⟩

end Go.Proofs.Ytneilnfjnbecbaa

namespace Go.Proofs.Ytneilnfjnbecbaa
open Go.RowKit Go.Shelf
attribute [local go_sem] Oper.semAt_some

set_option maxRecDepth 100000 in
set_option maxHeartbeats 4000000 in
theorem valuesB1_in (F : Fence) (n : Nat) (h7 : F.fn 59) (hro : F.round = none) (hn : 1 ≤ n) (l Bs n₀ b off cap : Nat) (zs : List UInt8) (hreach : zs.length ≤ 140737488351232) (hb : b < n₀) (J Jx : List UInt8 → World → Prop)
    (W : World)
    (hY : ∀ pre x W, J pre W → pre.length < zs.length → YieldAt F (n - 1) Try.prog l #[bv x] W fun e W' =>
      (e = .returned (.bool true) ∧ J (pre ++ [x]) W' ∧ Below n₀ W W') ∨ (e = .returned (.bool false) ∧ Jx (pre ++ [x]) W'))
    (hBs : W.cell? ⟨Bs, 0, none⟩ = some (.slice (some ⟨b, off, none⟩) zs.length cap)) (hc : Octs W b off zs) (h0 : J [] W) :
    CallsIn F n Try.prog 59 #[.func (.yield l) #[] #[], .pointer (some ⟨Bs, 0, none⟩)] W fun e W' => (∃ v, e = .returned v) ∧
      ((∃ ys, ys = zs ∧ J ys W') ∨ (∃ pre, True ∧ Jx pre W')) := by
  refine callsIn_of_wp Try.func59 rfl h7 ?_ hro
  simp only [Try.ntmps59, List.size_toArray, List.length_cons, List.length_nil, Nat.reduceAdd, Nat.reduceSub, Array.replicate_succ, Array.replicate_zero, List.push_toArray, List.append_toArray, List.nil_append, List.cons_append]
  gi_wp2
  gi_loopw [7] (fun i wr => ∃ k : Nat, k ≤ zs.length ∧ i = .int .i64 k ∧ J (zs.take k) wr ∧ Below n₀ W wr) (fun i _ => zs.length - (intOf i).toNat)
  case atStart => exact ⟨0, Nat.zero_le _, rfl, h0, Below.refl _ _⟩
  case round =>
    obtain ⟨k, hk, rfl, hJs, hnx⟩ := hrel
    by_cases hlt : k < zs.length
    · obtain ⟨x, hx⟩ : ∃ x, zs[k]? = some x := ⟨_, List.getElem?_eq_getElem hlt⟩
      have c0 := (hc.below hnx hb) k x hx
      have hk0 : (k : Int) < (zs.length : Int) := by omega
      obtain ⟨fn, tmps, assign, body, hy, hR⟩ := hY (zs.take k) x wr hJs (by simp; omega)
      have ht : zs.take (k + 1) = zs.take k ++ [x] := by rw [List.take_add_one, hx]; rfl
      rw [← ht] at hR
      clear ht
      have HX := Lib.hid hx
      clear hx
      generalize hL : zs.length = len at *
      have HL := Lib.hid hL
      clear hL
      gi_wp2
      refine hR.mono ?_
      rintro e W3 (⟨rfl, hJ3, hk3⟩ | ⟨rfl, hJx3⟩)
      · gi_wp2
        go_roundw
        case rel => exact ⟨k + 1, by omega, by simp, hJ3, hnx.trans hk3⟩
        case measure => simp [intOf]; omega
      · gi_wp2
        refine bodyPost_ret (results_none rfl _ _ _) rfl ?_
        exact ⟨⟨_, rfl⟩, .inr ⟨_, trivial, hJx3⟩⟩
    · obtain rfl : k = zs.length := by omega
      gi_wp2
      go_end0
      rw [List.take_length] at hJs
      exact ⟨⟨_, rfl⟩, .inl ⟨_, rfl, hJs⟩⟩

set_option maxRecDepth 100000 in
set_option maxHeartbeats 1000000 in
/-- .. at a slice of none: no round. -/
theorem valuesB1_nil_in (F : Fence) (n : Nat) (h7 : F.fn 59) (hro : F.round = none) (l Bs : Nat) (a : Option Addr) (cap : Nat) (J : List UInt8 → World → Prop) (W : World) (hBs : W.cell? ⟨Bs, 0, none⟩ = some (.slice a 0 cap)) (h0 : J [] W) :
    CallsIn F n Try.prog 59 #[.func (.yield l) #[] #[], .pointer (some ⟨Bs, 0, none⟩)] W fun e W' => (∃ v, e = .returned v) ∧ J [] W' := by
  refine callsIn_of_wp Try.func59 rfl h7 ?_ hro
  simp only [Try.ntmps59, List.size_toArray, List.length_cons, List.length_nil, Nat.reduceAdd, Nat.reduceSub, Array.replicate_succ, Array.replicate_zero, List.push_toArray, List.append_toArray, List.nil_append, List.cons_append]
  gi_wp2
  gi_loopw [7] (fun i wr => i = .int .i64 0 ∧ J [] wr) (fun _ _ => 0)
  case atStart => exact ⟨rfl, h0⟩
  case round =>
    obtain ⟨rfl, hJs⟩ := hrel
    gi_wp2
    go_end0
    exact ⟨⟨_, rfl⟩, hJs⟩

set_option maxHeartbeats 1000000 in
theorem valuesB_in (F : Fence) (n : Nat) (h5 : F.fn 40) (hro : F.round = none) (a : Option Addr) (len cap : Nat) (w : World) :
    CallsIn F n Try.prog 40 #[.slice a len cap] w fun e w' => e = .returned (.func (.func 59) #[] #[.pointer (some ⟨w.heap.size, 0, none⟩)]) ∧ w' = w.alloc (.cells #[.slice a len cap] 22) := by
  refine callsIn_of_wp Try.func40 rfl h5 ?_ hro
  simp only [Try.ntmps40, List.size_toArray, List.length_cons, List.length_nil, Nat.reduceAdd, Nat.reduceSub, Array.replicate_succ, Array.replicate_zero, List.push_toArray, List.append_toArray, List.nil_append, List.cons_append]
  gi_wp2
  go_ret
  exact ⟨rfl, rfl⟩

theorem valuesB_stops (F : Fence) (n : Nat) (h7 : F.fn 59) (hro : F.round = none) (hn : 1 ≤ n) (Bs n₀ : Nat) (sv : Value) (zs : List UInt8) (hreach : zs.length ≤ 140737488351232) (w : World) (hn₀ : n₀ ≤ w.heap.size)
    (hk : Boxed w Bs 22 sv) (hI : BSl 0 n₀ w sv zs) :
    SeqStopsK F n Try.prog 59 #[.pointer (some ⟨Bs, 0, none⟩)] (fun x => #[bv x]) (Below n₀) (fun ys => ys = zs) (fun _ => True) zs.length w := fun l J Jx W hW hJ _ hY h0 => by
  have hc' := (hW.cell (p := ⟨Bs, 0, none⟩) hk.lt).trans hk.cell
  obtain ⟨a, cap, rfl, hcap, rfl | ⟨b, off, rfl, _, hb, hcs⟩⟩ := hI.below hW hn₀
  · exact (valuesB1_nil_in F n h7 hro l Bs a cap J W hc' h0).mono fun e W' ⟨he, hj⟩ => ⟨he, .inl ⟨_, rfl, hj⟩⟩
  · exact valuesB1_in F n h7 hro hn l Bs n₀ b off cap zs hreach hb J Jx W hY hc' hcs h0

end Go.Proofs.Ytneilnfjnbecbaa

namespace Go.Proofs.Ytneilnfjnbecbaa
open Go.RowKit Go.Shelf
attribute [local go_sem] Oper.semAt_some

/-- Between two rounds. -/
def IntI (N : Nat) (w : World) (pre : List UInt8) (W : World) : Prop := Boxed W N 3 (.int .i64 (be pre : Nat)) ∧ Below N w W
theorem intI_own {N : Nat} {w : World} {B : Nat} (h : N ≤ w.heap.size) (hB : N ≤ B) : OwnFrom B (IntI N w) :=
  OwnFrom.and (Own.from (fun s X Y row hs hg hr => blk_own N 3 (fun s : List UInt8 => [.int .i64 (be s : Nat)]) s X Y row hs hg hr) _) (ownFrom_below h hB)
/-- A slice's first octets. -/
theorem BSl.take {lo hi : Nat} {W : World} {a : Option Addr} {cap : Nat} {l : List UInt8} (h : BSl lo hi W (.slice a l.length cap) l) (k : Nat) (hk : k ≤ l.length) : BSl lo hi W (.slice a k cap) (l.take k) := by
  obtain ⟨a', cap', e, hc, h0⟩ := h
  cases e
  refine ⟨a, cap, by rw [List.length_take, Nat.min_eq_left hk], by simp; omega, ?_⟩
  rcases h0 with rfl | ⟨b, off, ha, h1, h2, ho⟩
  · exact .inl (by simp)
  · exact .inr ⟨b, off, ha, h1, h2, fun j x hj => ho j x (by
      have hjk : j < k := by have := (List.getElem?_eq_some_iff.1 hj).1; simp at this; omega
      rwa [List.getElem?_take_of_lt hjk] at hj)⟩

set_option maxRecDepth 100000 in
set_option maxHeartbeats 4000000 in
theorem blobInt_in (m : Nat) (hm : 2 ≤ m) (l : List UInt8) (sv : Value) (w : World) (hreach : l.length ≤ 140737488351232) (hsv : BSl 0 w.heap.size w sv l) :
    CallsIn Fence.wide m Try.prog 22 #[sv] w fun e W' => e = .returned (.int .i64 (be (l.take 7) : Nat)) ∧ Below w.heap.size w W' := by
  have h1 : 1 ≤ m := by omega
  have hsv0 := hsv
  obtain ⟨a, cap, rfl, hcap, hcs⟩ := hsv
  clear hcs
  refine callsIn_of_wp_marks Try.func22 rfl trivial ?_ rfl
  simp only [Try.ntmps22, List.size_toArray, List.length_cons, List.length_nil, Nat.reduceAdd, Nat.reduceSub, Array.replicate_succ, Array.replicate_zero, List.push_toArray, List.append_toArray, List.nil_append, List.cons_append]
  have hN : (l.take 7).length ≤ 7 := by rw [List.length_take]; omega
  have hcase : (((l.length : Nat) : Int) ≤ 7 ∧ BSl 0 w.heap.size w (.slice a l.length cap) (l.take 7)) ∨ (¬ ((l.length : Nat) : Int) ≤ 7 ∧ BSl 0 w.heap.size w (.slice a 7 cap) (l.take 7)) := by
    by_cases h : l.length ≤ 7
    · exact .inl ⟨by omega, by rw [List.take_of_length_le h]; exact hsv0⟩
    · exact .inr ⟨by omega, hsv0.take 7 (by omega)⟩
  clear hsv0
  generalize l.take 7 = z at *
  rcases hcase with ⟨h7, hT⟩ | ⟨h7, hT⟩
  all_goals
    gi_wp2_with (refine ⟨trivial, ?_⟩; gi_at_call 40; refine (valuesB_in Fence.wide (m - 1) trivial rfl _ _ _ _).mono ?_; rintro e w' ⟨rfl, rfl⟩)
    generalize hW5 : World.alloc _ _ = W5
    have k0 : Boxed W5 w.heap.size 3 (.int .i64 (be [] : Nat)) := by rw [← hW5]; exact (Boxed.new _ _ (.int .i64 (be [] : Nat))).alloc _
    have k2 := show Boxed W5 (w.heap.size + 1) 22 (.slice a _ cap) by rw [← hW5]; exact Blk.new' (vs := [_]) (by simp)
    have hB0 : Below w.heap.size w W5 := by rw [← hW5]; exact chainA (chain0 _ _) _
    have hz : W5.heap.size = w.heap.size + 2 := by rw [← hW5]; simp
    clear hW5
    refine wpIn_rangeFunc_ownF (S := fun ys => ys = z) rfl h1 (gf := 59) (lb := #[.pointer (some ⟨w.heap.size + 1, 0, none⟩)]) rfl trivial (enters_of Try.func59 (by kernel_rfl) rfl)
      (valuesB_stops Fence.wide (m - 1) trivial rfl (by omega) (w.heap.size + 1) w.heap.size _ z (by omega) W5 (by omega) k2 (hT.below hB0 (Nat.le_refl _))) belowK_t (belowK_b (by omega)) (Below.refl _ _) (fun _ => rfl)
      (IntI w.heap.size w) (fun _ _ _ => False) (intI_own (Nat.le_refl _) (by omega)) (fun _ _ _ _ _ hs _ _ => hs)
      ⟨k0, hB0⟩ ?_ ?_ ?_ ?_ ?_
    rotate_left
    · intro l x W K hK
      gi_wp2
      exact hK
    · rintro r pre x W ⟨k0, hB⟩ hlt
      have co := k0.cell
      have cf := k0.frozen
      have hsn := be_snoc pre x
      have HS := Lib.hid hsn
      have hl1 : be pre ≤ 281474976710655 := by have := be_lt' (l := pre) (k := 6) (by omega); omega
      have hor := or_byte64 (a := be pre) (x := x.toNat) (by omega) x.toNat_lt
      have HO := Lib.hid hor
      clear hor hsn
      generalize be pre = y at *
      have hy : (y : Int) ≤ 281474976710655 := by omega
      have hxl := x.toNat_lt
      have hxl' : (x.toNat : Int) ≤ 255 := by omega
      gi_wp2
      rw [HO.out, ← HS.out]
      have hbw := (Below.refl w.heap.size W).setCell (p := ⟨w.heap.size, 0, none⟩) (Nat.le_refl _) (.int .i64 (be (pre ++ [x]) : Nat))
      exact ⟨KeepsOthers.setCell _ _ _, hbw, k0.set _, hB.trans hbw⟩
    · rintro D ys W hD rfl ⟨k0, hB⟩ hK
      have co := k0.cell
      have HZ := Lib.hid hz
      clear hz
      gi_wp2
      have hB' := hB.trans (belowK_b (w := w) (Nat.le_refl _) _ D _ (.deferred none) (by have := HZ.out; omega) hK rfl rfl)
      refine ⟨by simp, .inl ⟨_, _, rfl, run_takeDeferred hK, ?_⟩⟩
      refine ⟨.int .i64 (be ys : Nat), ?_, ?_⟩
      · simp [results, Try.f22, go_sem]
      · exact ⟨rfl, hB'⟩
    · rintro D c pre W _ _ h _
      exact h.elim

theorem blobInt_any (l : List UInt8) (sv : Value) (w : World) (hreach : l.length ≤ 140737488351232) (hsv : BSl 0 w.heap.size w sv l) :
    Calls Try.prog 22 #[sv] w fun e W' => e = .returned (.int .i64 (be (l.take 7) : Nat)) ∧ Below w.heap.size w W' := callsIn_wide.1 (blobInt_in 2 (by omega) l sv w hreach hsv)

end Go.Proofs.Ytneilnfjnbecbaa

namespace Go.Proofs.Ytneilnfjnbecbaa
open Go.RowKit Go.Shelf
attribute [local go_sem] Oper.semAt_some

theorem chunk_all (m : Nat) (hm : 1 ≤ m) (Bs Bn b off cap L s : Nat) (hL : L ≤ 140737488354000) (hcap : L ≤ cap) (hcap' : cap ≤ 9223372036854775807) (hs : 1 ≤ s) (hs' : s ≤ 9223372036854775807)
    (w : World) (k1 : Boxed w Bs 22 (.slice (some ⟨b, off, none⟩) L cap)) (k2 : Boxed w Bn 3 (.int .i64 (s : Nat))) :
    SeqAll Fence.wide m Try.prog 73 #[.pointer (some ⟨Bs, 0, none⟩), .pointer (some ⟨Bn, 0, none⟩)] (cpEnc b off) (fun _ => KeepB2 Bs Bn) (chs L s) w := fun l J W hW _ _ hJ hY h0 => by
  have q1 : Boxed W Bs 22 (.slice (some ⟨b, off, none⟩) L cap) := (hW.block Bs k1.lt).trans k1
  have q2 : Boxed W Bn 3 (.int .i64 (s : Nat)) := (hW.block Bn k2.lt).trans k2
  refine (chunk1_in Fence.wide m trivial rfl hm l Bs Bn b off cap L s hL hcap hcap' hs hs' J (fun _ _ => False) W (fun k X hX => hJ k X X.drew none hX ⟨rfl, rfl, rfl, Nat.le_refl _, fun _ _ _ => rfl⟩ (by simp)) (fun k W1 hj hk => (hY k (chn L s k) W1 (chs_at hk) hj).mono (fun e W' h => .inl h)) q1 q2 h0).mono ?_
  rintro e W' ⟨he, hj | ⟨_, _, h⟩⟩
  · exact ⟨he, by rw [chs_length]; exact hj⟩
  · exact h.elim

/-- The words of a padded text's blocks, each as it is handed on. -/
def blkWords (p : List UInt8) (N : Nat) : List (Nat → Int) := (List.range N).map fun n => wd (blk p n)
theorem blkWords_at (p : List UInt8) {N k : Nat} (h : k < N) : (blkWords p N)[k]? = some (wd (blk p k)) := by unfold blkWords; rw [List.getElem?_map, List.getElem?_range h]; rfl

set_option maxHeartbeats 1000000 in
theorem blocks_in (F : Fence) (m : Nat) (h5 : F.fn 42) (hro : F.round = none) (a : Option Addr) (len cap : Nat) (w : World) :
    CallsIn F m Try.prog 42 #[.slice a len cap] w fun e w' => e = .returned (.func (.func 60) #[] #[.pointer (some ⟨w.heap.size, 0, none⟩)]) ∧ w' = w.alloc (.cells #[.slice a len cap] 22) := by
  refine callsIn_of_wp Try.func42 rfl h5 ?_ hro
  simp only [Try.ntmps42, List.size_toArray, List.length_cons, List.length_nil, Nat.reduceAdd, Nat.reduceSub, Array.replicate_succ, Array.replicate_zero, List.push_toArray, List.append_toArray, List.nil_append, List.cons_append]
  gi_wp2
  go_ret
  exact ⟨rfl, rfl⟩

theorem us0_16 : us (fun _ => 0) 16 = [.int .u32 0, .int .u32 0, .int .u32 0, .int .u32 0, .int .u32 0, .int .u32 0, .int .u32 0, .int .u32 0, .int .u32 0, .int .u32 0, .int .u32 0, .int .u32 0, .int .u32 0, .int .u32 0, .int .u32 0, .int .u32 0] := rfl

set_option maxRecDepth 100000 in
set_option maxHeartbeats 8000000 in
theorem blocks1_all (m : Nat) (hm : 6 ≤ m) (B Bp pb po cap N : Nat) (p : List UInt8) (hp : p.length = 64 * N) (hN : 1 ≤ N) (hreach : p.length ≤ 140737488354000) (hcap : p.length ≤ cap) (hcap' : cap ≤ 9223372036854775807)
    (w : World) (hB : B < w.heap.size) (hpB : pb ≠ B) (hpb : pb < w.heap.size) (hpo : Octs w pb po p) (k1 : Boxed w Bp 22 (.slice (some ⟨pb, po, none⟩) p.length cap)) :
    SeqAll Fence.wide m Try.prog 60 #[.pointer (some ⟨Bp, 0, none⟩)] (fun f => #[uv f 16]) (AllBut B) (blkWords p N) w := fun l J W hW hl0 hl hJ hY h0 => by
  have kp : Boxed W Bp 22 (.slice (some ⟨pb, po, none⟩) p.length cap) := (hW.block Bp k1.lt).trans k1
  replace hpo := hpo.below hW hpb
  have hWs := hW.size
  have hpc := kp.cell
  have h1 : 1 ≤ m := by omega
  generalize hq : p.length = q at *
  have HQ := Lib.hid hq
  have HP := Lib.hid hp
  clear hq hp
  have hBpl := kp.lt
  refine callsIn_of_wp_marks Try.func60 rfl trivial ?_ rfl
  simp only [Try.ntmps60, List.size_toArray, List.length_cons, List.length_nil, Nat.reduceAdd, Nat.reduceSub, Array.replicate_succ, Array.replicate_zero, List.push_toArray, List.append_toArray, List.nil_append, List.cons_append]
  gi_wp2_with (refine ⟨trivial, ?_⟩; gi_at_call 61; refine (chunk_in Fence.wide (m - 1) trivial rfl _ _ _ _ (by omega) _).mono ?_; rintro e w' ⟨rfl, rfl⟩)
  generalize hW5 : World.alloc _ _ = W5
  have kY : Boxed W5 W.heap.size 86 (.func (.yield l) #[] #[]) := by rw [← hW5]; exact ((Boxed.new _ _ _).alloc _).alloc _
  have c1 : Boxed W5 (W.heap.size + 1) 22 (.slice (some ⟨pb, po, none⟩) q cap) := by rw [← hW5]; exact (Blk.new' (vs := [_]) (by simp)).alloc _
  have c2 : Boxed W5 (W.heap.size + 1 + 1) 3 (.int .i64 ((64 : Nat) : Int)) := by rw [← hW5]; exact Blk.new' (vs := [.int .i64 64]) (by simp)
  have hB5 : Below W.heap.size W W5 := by rw [← hW5]; exact chainA (chainA (chain0 _ _) _) _
  have hz5 : W5.heap.size = W.heap.size + 3 := by rw [← hW5]; simp
  clear hW5
  have hpbW : pb < W.heap.size := Nat.lt_of_lt_of_le hpb hWs
  have hq64 : chc q 64 = N := by unfold chc; have := HP.out; omega
  obtain ⟨cur, ct, cfr, hcells⟩ : ∃ cur ct cfr, W.heap[pb]? = some (.cells cur ct cfr) := by
    obtain ⟨x, hx⟩ : ∃ x, p[0]? = some x := ⟨_, List.getElem?_eq_getElem (by have := HQ.out; have := HP.out; omega)⟩
    have hc := hpo 0 x hx
    simp only [World.cell?] at hc
    cases hh : W.heap[pb]? with
    | none => rw [hh] at hc; simp at hc
    | some o =>
      rw [hh] at hc
      cases o <;> first | exact ⟨_, _, _, rfl⟩ | (simp at hc)
  refine wpIn_rangeFunc_allA (ys := chs q 64) rfl h1 (gf := 73) (lb := #[.pointer (some ⟨W.heap.size + 1, 0, none⟩), .pointer (some ⟨W.heap.size + 1 + 1, 0, none⟩)]) rfl trivial (enters_of Try.func73 (by kernel_rfl) rfl)
    (chunk_all (m - 1) (by omega) (W.heap.size + 1) (W.heap.size + 1 + 1) pb po cap q 64 (by omega) hcap hcap' (by omega) (by omega) W5 c1 c2) KeepB2.t (fun X o o' h2 h3 h4 => ⟨World.putObj_heap_other (by omega), World.putObj_heap_other (by omega)⟩) (fun X => ⟨rfl, rfl⟩) (Below.refl _ _) (fun _ => rfl)
    (fun k X => (J k X ∧ KeepB pb W X) ∧ (Boxed X W.heap.size 86 (.func (.yield l) #[] #[]) ∧ Boxed X (W.heap.size + 1) 22 (.slice (some ⟨pb, po, none⟩) q cap) ∧ Boxed X (W.heap.size + 1 + 1) 3 (.int .i64 ((64 : Nat) : Int))) ∧ W5.heap.size ≤ X.heap.size)
    (fun k X Y row ⟨⟨hj, hk⟩, ⟨hy, hc1, hc2⟩, hsz⟩ hg hr => ⟨⟨hJ k X Y row hj hg (fun r e => ⟨by have := (hr r e).1; omega, (hr r e).2⟩), (hg.block pb (by omega) (fun e => by have := (hr _ e.symm).1; omega)).trans hk⟩, ⟨boxed_own _ _ (fun _ : Unit => _) () X Y row hy hg (fun r e => (hr r e).2), boxed_own _ _ (fun _ : Unit => _) () X Y row hc1 hg (fun r e => (hr r e).2), boxed_own _ _ (fun _ : Unit => _) () X Y row hc2 hg (fun r e => (hr r e).2)⟩, Nat.le_trans hsz hg.size⟩)
    ⟨⟨hJ 0 W W5 none h0 (grown_of_below hB5) (by simp), hB5.block pb hpbW⟩, ⟨kY, c1, c2⟩, Nat.le_refl _⟩ ?_ ?_ ?_ ?_
  rotate_left
  · intro l' x X K hK
    gi_wp2
    exact hK
  · rintro l' k x X hx ⟨⟨hj, hkp⟩, ⟨hy, hc1, hc2⟩, hsz⟩
    have hk : k < N := by have := (List.getElem?_eq_some_iff.1 hx).1; rw [chs_length, hq64] at this; exact this
    rw [chs_at (by rw [hq64]; exact hk)] at hx
    obtain rfl := (Option.some.inj hx).symm
    have hlp : 64 * k + 64 ≤ p.length := by rw [HQ.out, HP.out]; omega
    have hchn : chn q 64 k = ⟨(64 * k, 64), by rw [← HQ.out]; exact hlp⟩ := by
      rw [chn_of (by rw [HP.out]; omega)]
      apply Subtype.ext
      show (k * 64, min 64 (q - k * 64)) = _
      rw [Nat.mul_comm k 64, Nat.min_eq_left (by rw [HP.out]; omega)]
    rw [hchn]
    have hoX : Octs X pb (po + 64 * k) (blk p k) := sub_octs (fun j z hz => (World.cell?_of_block (a := ⟨pb, _, none⟩) hkp).trans (hpo j z hz)) (64 * k) 64
    have hlb : (blk p k).length = 64 := by unfold blk; simp; omega
    have hpX : pb < X.heap.size := by omega
    clear hchn
    gi_wp2_with fail
    gi_loopw [9] (fun i wr => ∃ t : Nat, t ≤ 16 ∧ i = .int .i64 t ∧ Blk wr X.heap.size 68 (us (fun j => if j < t then wd (blk p k) j else 0) 16) ∧ Below X.heap.size X wr) (fun i _ => 16 - (intOf i).toNat)
    case atStart => exact ⟨0, by omega, rfl, by rw [us_congr (g := fun _ => 0) (fun t _ => if_neg (by omega)), us0_16]; exact Blk.new' rfl, chain0 _ _⟩
    case round =>
      obtain ⟨t, ht, rfl, kA, hbel⟩ := hrel
      by_cases hlt : t < 16
      · have cA := (kA.cell t).trans (us_at _ hlt)
        have fA := kA.frozen t
        have i1 : (t : Int) < 16 := by omega
        have i2 : (0 : Int) ≤ (t : Int) * 4 := by omega
        have i3 : (t : Int) * 4 ≤ 64 := by omega
        have i4 : ¬ 64 = t * 4 := by omega
        have n1 : ((t : Int) * 4).toNat = t * 4 := by omega
        gi_wp2_with fail
        rw [Nat.mul_comm t 4]
        have hpw : pb < wr.heap.size := Nat.lt_of_lt_of_le hpX hbel.size
        have hbsl := sub_bsl (hoX.below hbel hpX) hpw (4 * t) 4 (by rw [hlb]; omega) (show 4 ≤ 64 - 4 * t by omega)
        refine ⟨trivial, fun h => (by cases h), ?_⟩
        refine (CallsIn.inRound l' (callsIn_wide.2 (blobInt_any (((blk p k).drop (4 * t)).take 4) _ wr (by simp; omega) hbsl))).mono ?_
        rintro e w2 ⟨rfl, hb2⟩
        obtain ⟨hw, hw0, hw1⟩ := wd_be (l := blk p k) t
        rw [hw]
        have kA2 := kA.below hb2 kA.lt
        have hX2 : Below X.heap.size X w2 := chain hbel hb2
        have cA2 := (kA2.cell t).trans (us_at _ hlt)
        have fA2 := kA2.frozen t
        have HU : Hid (us (updI (fun j => if j < t then wd (blk p k) j else 0) t (wd (blk p k) t)) 16 = us (fun j => if j < t + 1 then wd (blk p k) j else 0) 16) := Lib.hid (us_congr fun j _ => by
          unfold updI
          by_cases e1 : j = t
          · subst e1; rw [if_pos rfl, if_pos (by omega)]
          · rw [if_neg e1]
            show (if j < t then wd (blk p k) j else 0) = _
            by_cases e2 : j < t
            · rw [if_pos e2, if_pos (by omega)]
            · rw [if_neg e2, if_neg (by omega)])
        clear hw cA fA i2 i3 i4 n1
        generalize hx : wd (blk p k) t = x at *
        gi_wp2_with fail
        have kA' := kA2.set t (.int .u32 x)
        rw [us_set, HU.out] at kA'
        go_roundw
        case rel => exact ⟨t + 1, by omega, by simp, kA', hX2.setCell (p := ⟨X.heap.size, _, none⟩) (by simp) _⟩
        case measure => simp [intOf]; omega
      · obtain rfl : t = 16 := by omega
        rw [us_congr (g := wd (blk p k)) (fun j hj => if_pos hj)] at kA
        obtain ⟨fn, tmps, assign, body, hyr, hR⟩ := hY k (wd (blk p k)) wr (blkWords_at p hk) (hJ k X wr none hj (grown_of_below hbel) (by simp))
        have hyc : wr.cell? ⟨W.heap.size, 0, none⟩ = some (.func (.yield l) #[] #[]) := (hbel.cell (p := ⟨W.heap.size, 0, none⟩) hy.lt).trans hy.cell
        gi_wp2_with (with_reducible refine arrIn_load arr16 rfl (.tmp 4) rfl X.heap.size rfl 68 (wd (blk p k)) kA ?_)
        refine ⟨fun h => (by cases h), ?_⟩
        refine (roundIn_any hR).mono ?_
        rintro e W3 ⟨rfl, hJ3, hk3⟩
        clear hyr
        gi_wp2_with fail
        have hXW : AllBut B l X W3 := (AllBut.of_below hbel).t hk3
        have ly := hy.lt
        have l1 := hc1.lt
        have l2 := hc2.lt
        refine ⟨⟨hXW.1, fun j o hBj hj ho => (hXW.2 j (Array.getElem?_eq_some_iff.1 hj).1 (by omega) (by omega)).trans hj⟩, ⟨hXW.2 _ l1 (by omega) (by omega), hXW.2 _ l2 (by omega) (by omega)⟩, ⟨hJ3, (hXW.2 pb hpX hpB (by omega)).trans hkp⟩, ⟨(hXW.2 _ ly (by omega) (by omega)).trans hy, (hXW.2 _ l1 (by omega) (by omega)).trans hc1, (hXW.2 _ l2 (by omega) (by omega)).trans hc2⟩, Nat.le_trans hsz hXW.1⟩
  · rintro D X hD ⟨⟨hj, _⟩, _, _⟩ hK
    rw [chs_length, hq64] at hj
    gi_wp2_with fail
    refine ⟨by simp, .inl ⟨_, _, rfl, run_takeDeferred hK, ?_⟩⟩
    refine ⟨_, results_none rfl _ _ _, ⟨_, rfl⟩, ?_⟩
    rw [show (blkWords p N).length = N by simp [blkWords]]
    exact hJ.putObj _ hj (by omega) hK rfl
end Go.Proofs.Ytneilnfjnbecbaa
