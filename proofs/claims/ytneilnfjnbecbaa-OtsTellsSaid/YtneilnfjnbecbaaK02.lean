/-
  slices.Values over slices of octets: each.
  blob.octets hands back a sequence of a number's octets, the highest first.
  blob.Num: the lowest octets of a number.
  Appending a slice of octets, nil or not.
  blob.Cat: all, one behind the other.
-/
import Derived.Laws.OwnMore
import Derived.WalkSpells
import Derived.Test.YtneilnfjnbecbaaK01
namespace Go.Proofs.Ytneilnfjnbecbaa
open Go.RowKit Go.Shelf
attribute [local go_sem] Oper.semAt_some

/-- A slice value with its octets, m at most, as they lie below n in w. -/
abbrev SX (m n : Nat) (w : World) := { x : Value × List UInt8 // BSl 0 n w x.1 x.2 ∧ x.2.length ≤ m }
abbrev sxEnc {o n : Nat} {w : World} (x : SX o n w) : Array Value := #[x.1.1]
/-- The row at b, off holds these slices. -/
def SRow {o n : Nat} {w : World} (W : World) (b off : Nat) (l : List (SX o n w)) : Prop := ∀ k x, l[k]? = some x → W.cell? ⟨b, off + k, none⟩ = some x.1.1
theorem SRow.below {o n : Nat} {w : World} {W W' : World} {m b off : Nat} {l : List (SX o n w)} (h : SRow W b off l) (hb : Below m W W') (hlt : b < m) : SRow W' b off l := fun k x hx => (hb.cell (p := ⟨b, _, none⟩) hlt).trans (h k x hx)
/-- sv holds these slices, in a block below m; or there are none. -/
def SSl {o n : Nat} {w : World} (m : Nat) (W : World) (sv : Value) (zs : List (SX o n w)) : Prop :=
  ∃ a cap, sv = .slice a zs.length cap ∧ (zs = [] ∨ ∃ b off, a = some ⟨b, off, none⟩ ∧ b < m ∧ SRow W b off zs)
theorem SSl.below {o n : Nat} {w : World} {m k : Nat} {W W' : World} {sv : Value} {zs : List (SX o n w)} (h : SSl m W sv zs) (hb : Below k W W') (hm : m ≤ k) : SSl m W' sv zs := by
  obtain ⟨a, cap, e, h0 | ⟨b, off, ha, hl, ho⟩⟩ := h
  · exact ⟨a, cap, e, .inl h0⟩
  · exact ⟨a, cap, e, .inr ⟨b, off, ha, hl, ho.below hb (by omega)⟩⟩
/-- All octets, one behind the other. -/
def flat {o n : Nat} {w : World} (l : List (SX o n w)) : List UInt8 := (l.map fun x => x.1.2).flatten
theorem flat_snoc {o n : Nat} {w : World} (l : List (SX o n w)) (x : SX o n w) : flat (l ++ [x]) = flat l ++ x.1.2 := by simp [flat]
theorem flat_le {o n : Nat} {w : World} (l : List (SX o n w)) : (flat l).length ≤ l.length * o := by
  induction l with
  | nil => simp [flat]
  | cons x l ih =>
    have e : flat (x :: l) = x.1.2 ++ flat l := by simp [flat]
    rw [e, List.length_append, List.length_cons, Nat.add_mul, Nat.one_mul]
    have := x.2.2
    omega

set_option maxRecDepth 100000 in
set_option maxHeartbeats 4000000 in
theorem valuesS1_in (F : Fence) (n : Nat) (h7 : F.fn 81) (hro : F.round = none) (hn : 1 ≤ n) (l Bs n₀ b off cap : Nat) {m₁ n₁ : Nat} {w₁ : World} (zs : List (SX m₁ n₁ w₁)) (hreach : zs.length ≤ 140737488351232) (hb : b < n₀) (J Jx : List (SX m₁ n₁ w₁) → World → Prop)
    (W : World)
    (hY : ∀ pre x W, J pre W → zs[pre.length]? = some x → YieldAt F (n - 1) Try.prog l (sxEnc x) W fun e W' =>
      (e = .returned (.bool true) ∧ J (pre ++ [x]) W' ∧ Below n₀ W W') ∨ (e = .returned (.bool false) ∧ Jx (pre ++ [x]) W'))
    (hBs : W.cell? ⟨Bs, 0, none⟩ = some (.slice (some ⟨b, off, none⟩) zs.length cap)) (hc : SRow W b off zs) (h0 : J [] W) :
    CallsIn F n Try.prog 81 #[.func (.yield l) #[] #[], .pointer (some ⟨Bs, 0, none⟩)] W fun e W' => (∃ v, e = .returned v) ∧
      ((∃ ys, ys = zs ∧ J ys W') ∨ (∃ pre, True ∧ Jx pre W')) := by
  refine callsIn_of_wp Try.func81 rfl h7 ?_ hro
  simp only [Try.ntmps81, List.size_toArray, List.length_cons, List.length_nil, Nat.reduceAdd, Nat.reduceSub, Array.replicate_succ, Array.replicate_zero, List.push_toArray, List.append_toArray, List.nil_append, List.cons_append]
  gi_wp2
  gi_loopw [7] (fun i wr => ∃ k : Nat, k ≤ zs.length ∧ i = .int .i64 k ∧ J (zs.take k) wr ∧ Below n₀ W wr) (fun i _ => zs.length - (intOf i).toNat)
  case atStart => exact ⟨0, Nat.zero_le _, rfl, h0, Below.refl _ _⟩
  case round =>
    obtain ⟨k, hk, rfl, hJs, hnx⟩ := hrel
    by_cases hlt : k < zs.length
    · obtain ⟨x, hx⟩ : ∃ x, zs[k]? = some x := ⟨_, List.getElem?_eq_getElem hlt⟩
      have c0 := (hc.below hnx hb) k x hx
      obtain ⟨⟨xa, xc, hxe, _⟩, _⟩ := x.2
      rw [hxe] at c0
      have hk0 : (k : Int) < (zs.length : Int) := by omega
      obtain ⟨fn, tmps, assign, body, hy, hR⟩ := hY (zs.take k) x wr hJs (by rw [List.length_take, Nat.min_eq_left (Nat.le_of_lt hlt)]; exact hx)
      have ht : zs.take (k + 1) = zs.take k ++ [x] := by rw [List.take_add_one, hx]; rfl
      rw [← ht] at hR
      have hE : sxEnc x = #[.slice xa x.1.2.length xc] := by show #[x.1.1] = _; rw [hxe]
      rw [hE] at hy
      clear ht hE hxe
      have HX := Lib.hid hx
      clear hx
      generalize hL : zs.length = len at *
      have HL := Lib.hid hL
      clear hL
      gi_wp2
      refine hR.mono ?_
      rintro e W3 (⟨rfl, hJ3, hk3⟩ | ⟨rfl, hJx3⟩)
      · gi_wp2
        go_roundw
        case rel => exact ⟨k + 1, by omega, by simp, hJ3, hnx.trans hk3⟩
        case measure => simp [intOf]; omega
      · gi_wp2
        refine bodyPost_ret (results_none rfl _ _ _) rfl ?_
        exact ⟨⟨_, rfl⟩, .inr ⟨_, trivial, hJx3⟩⟩
    · obtain rfl : k = zs.length := by omega
      gi_wp2
      go_end0
      rw [List.take_length] at hJs
      exact ⟨⟨_, rfl⟩, .inl ⟨_, rfl, hJs⟩⟩

set_option maxRecDepth 100000 in
set_option maxHeartbeats 1000000 in
/-- .. at a slice of none: no round. -/
theorem valuesS1_nil_in {m₁ n₁ : Nat} {w₁ : World} (F : Fence) (n : Nat) (h7 : F.fn 81) (hro : F.round = none) (l Bs : Nat) (a : Option Addr) (cap : Nat) (J : List (SX m₁ n₁ w₁) → World → Prop) (W : World) (hBs : W.cell? ⟨Bs, 0, none⟩ = some (.slice a 0 cap)) (h0 : J [] W) :
    CallsIn F n Try.prog 81 #[.func (.yield l) #[] #[], .pointer (some ⟨Bs, 0, none⟩)] W fun e W' => (∃ v, e = .returned v) ∧ J [] W' := by
  refine callsIn_of_wp Try.func81 rfl h7 ?_ hro
  simp only [Try.ntmps81, List.size_toArray, List.length_cons, List.length_nil, Nat.reduceAdd, Nat.reduceSub, Array.replicate_succ, Array.replicate_zero, List.push_toArray, List.append_toArray, List.nil_append, List.cons_append]
  gi_wp2
  gi_loopw [7] (fun i wr => i = .int .i64 0 ∧ J [] wr) (fun _ _ => 0)
  case atStart => exact ⟨rfl, h0⟩
  case round =>
    obtain ⟨rfl, hJs⟩ := hrel
    gi_wp2
    go_end0
    exact ⟨⟨_, rfl⟩, hJs⟩

set_option maxHeartbeats 1000000 in
theorem valuesS_in (F : Fence) (n : Nat) (h5 : F.fn 80) (hro : F.round = none) (a : Option Addr) (len cap : Nat) (w : World) :
    CallsIn F n Try.prog 80 #[.slice a len cap] w fun e w' => e = .returned (.func (.func 81) #[] #[.pointer (some ⟨w.heap.size, 0, none⟩)]) ∧ w' = w.alloc (.cells #[.slice a len cap] 79) := by
  refine callsIn_of_wp Try.func80 rfl h5 ?_ hro
  simp only [Try.ntmps80, List.size_toArray, List.length_cons, List.length_nil, Nat.reduceAdd, Nat.reduceSub, Array.replicate_succ, Array.replicate_zero, List.push_toArray, List.append_toArray, List.nil_append, List.cons_append]
  gi_wp2
  go_ret
  exact ⟨rfl, rfl⟩

theorem valuesS_stops (F : Fence) (n : Nat) (h7 : F.fn 81) (hro : F.round = none) (hn : 1 ≤ n) (Bs n₀ : Nat) (sv : Value) {m₁ n₁ : Nat} {w₁ : World} (zs : List (SX m₁ n₁ w₁)) (hreach : zs.length ≤ 140737488351232) (w : World) (hn₀ : n₀ ≤ w.heap.size)
    (hk : Boxed w Bs 79 sv) (hI : SSl n₀ w sv zs) :
    SeqStopsK F n Try.prog 81 #[.pointer (some ⟨Bs, 0, none⟩)] sxEnc (Below n₀) (fun ys => ys = zs) (fun _ => True) zs.length w := fun l J Jx W hW hJ _ hY h0 => by
  have hc' := (hW.cell (p := ⟨Bs, 0, none⟩) hk.lt).trans hk.cell
  obtain ⟨a, cap, rfl, rfl | ⟨b, off, rfl, hb, hcs⟩⟩ := hI.below hW hn₀
  · exact (valuesS1_nil_in F n h7 hro l Bs a cap J W hc' h0).mono fun e W' ⟨he, hj⟩ => ⟨he, .inl ⟨_, rfl, hj⟩⟩
  · exact valuesS1_in F n h7 hro hn l Bs n₀ b off cap zs hreach hb J Jx W (fun pre x W hj hx => hY pre x W hj (List.getElem?_eq_some_iff.1 hx).1) hc' hcs h0

theorem valuesS_rel (m : Nat) (hm : 1 ≤ m) (Bs n₀ : Nat) (sv : Value) {m₁ n₁ : Nat} {w₁ : World} (zs : List (SX m₁ n₁ w₁)) (hreach : zs.length ≤ 140737488351232) (w : World) (hn₀ : n₀ ≤ w.heap.size)
    (hk : Boxed w Bs 79 sv) (hI : SSl n₀ w sv zs) :
    SeqRel Fence.wide m Try.prog 81 #[.pointer (some ⟨Bs, 0, none⟩)] zs.length (fun k x _ => ∃ y, zs[k]? = some y ∧ x = sxEnc y) (fun _ => Below n₀) w := fun l J W hW _ _ _ hY h0 => by
  have hc' := (hW.cell (p := ⟨Bs, 0, none⟩) hk.lt).trans hk.cell
  obtain ⟨a, cap, rfl, rfl | ⟨b, off, rfl, hb, hcs⟩⟩ := hI.below hW hn₀
  · exact (valuesS1_nil_in (m₁ := m₁) (n₁ := n₁) (w₁ := w₁) Fence.wide m trivial rfl l Bs a cap (fun _ => J 0) W hc' h0).mono fun e W' ⟨he, hj⟩ => ⟨he, hj⟩
  · refine (valuesS1_in Fence.wide m trivial rfl hm l Bs n₀ b off cap zs hreach hb (fun pre X => pre = zs.take pre.length ∧ J pre.length X) (fun _ _ => False) W (fun pre x W1 hj hx => ?_) hc' hcs ⟨rfl, h0⟩).mono ?_
    · refine (hY pre.length (sxEnc x) W1 (List.getElem?_eq_some_iff.1 hx).1 ⟨x, hx, rfl⟩ hj.2).mono fun e W' h => .inl ⟨h.1, ⟨?_, by rw [List.length_append]; exact h.2.1⟩, h.2.2⟩
      rw [List.length_append, List.length_singleton, List.take_add_one, hx, ← hj.1]; rfl
    · rintro e W' ⟨he, ⟨ys, rfl, _, hj⟩ | ⟨_, _, h⟩⟩
      · exact ⟨he, hj⟩
      · exact h.elim

end Go.Proofs.Ytneilnfjnbecbaa

namespace Go.Proofs.Ytneilnfjnbecbaa
open Go.RowKit Go.Shelf
attribute [local go_sem] Oper.semAt_some

theorem oct_toNat (n p : Nat) : ((oct n p).toNat : Int) = (n : Int) / 2 ^ (p * 8) % 256 := by
  unfold oct
  rw [UInt8.toNat_ofNat']
  simp

theorem oct_bv (n p : Nat) : bv (oct n p) = .int .u8 ((n : Int) / 2 ^ (p * 8) % 256) := by rw [← oct_toNat]

set_option maxRecDepth 100000 in
set_option maxHeartbeats 2000000 in
theorem octets1_stops (F : Fence) (m : Nat) (h : F.fn 76) (hro : F.round = none) (hm : 1 ≤ m) (n s : Nat) (hs : s ≤ 8) (Bn Bs : Nat) (w : World) (hBn : Bn < w.heap.size) (hBs : Bs < w.heap.size)
    (hcn : w.cell? ⟨Bn, 0, none⟩ = some (.int .u64 (n : Nat))) (hcs : w.cell? ⟨Bs, 0, none⟩ = some (.int .i64 (s : Nat))) (Kp : World → World → Prop) (hKp : ∀ A B, Kp A B → B.cell? ⟨Bn, 0, none⟩ = A.cell? ⟨Bn, 0, none⟩) :
    SeqStopsK F m Try.prog 76 #[.pointer (some ⟨Bs, 0, none⟩), .pointer (some ⟨Bn, 0, none⟩)] (fun x => #[bv x]) Kp (fun ys => ys = octs n s) (fun _ => True) s w := fun l J Jx W hW _ _ hY h0 => by
  have hcn' := (hW.cell (p := ⟨Bn, 0, none⟩) hBn).trans hcn
  have hcs' := (hW.cell (p := ⟨Bs, 0, none⟩) hBs).trans hcs
  clear hcn hcs
  refine callsIn_of_wp Try.func76 rfl h ?_ hro
  simp only [Try.ntmps76, List.size_toArray, List.length_cons, List.length_nil, Nat.reduceAdd, Nat.reduceSub, Array.replicate_succ, Array.replicate_zero, List.push_toArray, List.append_toArray, List.nil_append, List.cons_append]
  have hs' : (s : Int) ≤ 8 := by omega
  gi_wp2
  clear hcs'
  gi_loopw [4] (fun i wr => ∃ k : Nat, k ≤ s ∧ i = .int .i64 ((s : Int) - 1 - k) ∧ wr.cell? ⟨Bn, 0, none⟩ = some (.int .u64 (n : Nat)) ∧ J ((octs n s).take k) wr) (fun i _ => ((intOf i) + 1).toNat)
  case atStart => exact ⟨0, by omega, by simp, hcn', h0⟩
  case round =>
    obtain ⟨k, hk, rfl, hcw, hJs⟩ := hrel
    clear hcn'
    by_cases hlt : k < s
    · obtain ⟨fn, tmps, assign, body, hy, hR⟩ := hY _ (oct n (s - 1 - k)) wr hJs (by simp [octs_length]; omega)
      have ht : (octs n s).take (k + 1) = (octs n s).take k ++ [oct n (s - 1 - k)] := by rw [List.take_add_one, octs_at n s k hlt]; rfl
      have HT := Lib.hid ht
      clear ht
      have hp : (s : Int) - 1 - k = ((s - 1 - k : Nat) : Int) := by omega
      have hpl : s - 1 - k ≤ 7 := by omega
      rw [hp]
      generalize s - 1 - k = p at *
      have HP := Lib.hid hp
      clear hp
      rw [oct_bv] at hy
      gi_wp2
      refine hR.mono ?_
      clear hy
      rintro e W3 (⟨rfl, hJ3, hk3⟩ | ⟨rfl, hJx3⟩)
      · have hcw3 := (hKp _ _ hk3).trans hcw
        clear hcw
        gi_wp2
        have hq : ((s : Int) - 1 - ((k + 1 : Nat) : Int)) = (p : Int) - 1 := by have := HP.out; omega
        go_roundw
        case rel => exact ⟨k + 1, by omega, by rw [hq], hcw3, by rw [HT.out]; exact hJ3⟩
        case measure => simp [intOf]
      · gi_wp2
        refine bodyPost_ret (results_none rfl _ _ _) rfl ?_
        exact ⟨⟨_, rfl⟩, .inr ⟨_, trivial, hJx3⟩⟩
    · obtain rfl : k = s := by omega
      have hp : (k : Int) - 1 - k = -1 := by omega
      rw [hp]
      clear hp
      gi_wp2
      go_end0
      rw [List.take_of_length_le (by rw [octs_length]; omega)] at hJs
      exact ⟨⟨_, rfl⟩, .inl ⟨_, rfl, hJs⟩⟩

set_option maxHeartbeats 1000000 in
theorem octets_in (F : Fence) (m : Nat) (h : F.fn 65) (hro : F.round = none) (n s : Int) (w : World) :
    CallsIn F m Try.prog 65 #[.int .u64 n, .int .i64 s] w fun e w' => e = .returned (.func (.func 76) #[] #[.pointer (some ⟨w.heap.size + 1, 0, none⟩), .pointer (some ⟨w.heap.size, 0, none⟩)]) ∧ w' = (w.alloc (.cells #[.int .u64 n] 78)).alloc (.cells #[.int .i64 s] 3) := by
  refine callsIn_of_wp Try.func65 rfl h ?_ hro
  simp only [Try.ntmps65, List.size_toArray, List.length_cons, List.length_nil, Nat.reduceAdd, Nat.reduceSub, Array.replicate_succ, Array.replicate_zero, List.push_toArray, List.append_toArray, List.nil_append, List.cons_append]
  gi_wp2
  go_ret
  exact ⟨rfl, rfl⟩

end Go.Proofs.Ytneilnfjnbecbaa

namespace Go.Proofs.Ytneilnfjnbecbaa
open Go.RowKit Go.Shelf
attribute [local go_sem] Oper.semAt_some

/-- A slice of these octets, in memory of the call's own. -/
def ByW (l : List UInt8) (w : World) (e : Ending) (W' : World) : Prop := ∃ sv, e = .returned sv ∧ BSl w.heap.size W'.heap.size W' sv l ∧ Below w.heap.size w W'
/-- From 0 to 8, else the nearest. -/
def clamp (z : Int) : Nat := if z ≤ 0 then 0 else if 8 ≤ z then 8 else z.toNat
/-- A number as its two's complement. -/
def two (z : Int) : Nat := (z % 18446744073709551616).toNat

theorem Try.infoByte : (Try.prog.info? 5).map (fun i => (i.zero, i.size, i.bytes)) = some (some (.int .u8 0), 1, 1) := by kernel_rfl
theorem wrap_two (z : Int) : IntKind.u64.wrap z = (two z : Nat) := by
  unfold two
  simp [IntKind.wrap, IntKind.bits, IntKind.signed]
  omega
theorem clamp_le (z : Int) : clamp z ≤ 8 := by unfold clamp; split; · omega
                                               split <;> omega
theorem clamp_cases (z : Int) : (z < 0 ∧ (clamp z : Int) = 0) ∨ (0 ≤ z ∧ z ≤ 8 ∧ (clamp z : Int) = z) ∨ (8 < z ∧ (clamp z : Int) = 8) := by
  unfold clamp
  by_cases h0 : z < 0
  · rw [if_pos (by omega)]; exact .inl ⟨h0, rfl⟩
  · by_cases h8 : 8 < z
    · rw [if_neg (by omega), if_pos (by omega)]; exact .inr (.inr ⟨h8, rfl⟩)
    · refine .inr (.inl ⟨by omega, by omega, ?_⟩)
      by_cases e0 : z = 0
      · rw [if_pos (by omega)]; omega
      · rw [if_neg (by omega)]
        by_cases e8 : z = 8
        · rw [if_pos (by omega)]; omega
        · rw [if_neg (by omega)]; omega
/-- Between two rounds: the box holds a slice that owns what has come. -/
def NumI (N Bn x : Nat) (w : World) (pre : List UInt8) (W : World) : Prop :=
  ((∃ v, Boxed W N 22 v ∧ W.ownsRow N 5 1 v pre.length (pre.map bv) ∧ True) ∧ Boxed W Bn 78 (.int .u64 (x : Nat))) ∧ Below N w W
theorem numI_own {N Bn x : Nat} {w : World} {B : Nat} (h : N ≤ w.heap.size) (hB : N ≤ B) : OwnFrom B (NumI N Bn x w) :=
  OwnFrom.and (OwnFrom.and (Own.from (holdsRow_own N N 22 5 1 (fun pre : List UInt8 => pre.length) (fun pre => pre.map bv) (fun _ _ => True)) _)
    (Own.from (fun _ X Y row hs hg hr => blk_own Bn 78 (fun (_ : Unit) => [.int .u64 (x : Nat)]) () X Y row hs hg hr) _)) (ownFrom_below h hB)

set_option maxRecDepth 100000 in
set_option maxHeartbeats 4000000 in
theorem num_in (m : Nat) (hm : 3 ≤ m) (n size : Int) (hs : -9223372036854775808 ≤ size) (hs' : size ≤ 9223372036854775807) (w : World) :
    CallsIn Fence.wide m Try.prog 46 #[.int .i64 n, .int .i64 size] w (ByW (octs (two n) (clamp size)) w) := by
  have h1 : 1 ≤ m := by omega
  refine callsIn_of_wp_marks Try.func46 rfl trivial ?_ rfl
  simp only [Try.ntmps46, List.size_toArray, List.length_cons, List.length_nil, Nat.reduceAdd, Nat.reduceSub, Array.replicate_succ, Array.replicate_zero, List.push_toArray, List.append_toArray, List.nil_append, List.cons_append]
  obtain ⟨i0, hi, hz0, hz1, hz2⟩ := info_parts Try.infoByte
  have hU : IntKind.u64.wrap n = (two n : Nat) := wrap_two n
  have hx : two n < M := by unfold two M; omega
  generalize two n = x at *
  have H8 := clamp_le size
  have hCC := clamp_cases size
  generalize clamp size = s at *
  rcases hCC with ⟨hc0, hC⟩ | ⟨hc0, hc8, hC⟩ | ⟨hc8, hC⟩
  all_goals
    have HC := Lib.hid hC
    clear hC
    gi_wp2_with (refine ⟨trivial, ?_⟩; gi_at_call 65; refine (octets_in Fence.wide (m - 1) trivial rfl _ _ _).mono ?_; rintro e w' ⟨rfl, rfl⟩)
    generalize hW5 : World.alloc _ _ = W5
    have k0 : Boxed W5 w.heap.size 22 (.slice none 0 0) := by rw [← hW5]; exact ((Boxed.new _ _ _).alloc _).alloc _
    have k1 : Boxed W5 (w.heap.size + 1) 78 (.int .u64 (x : Nat)) := by rw [← hW5]; exact (Blk.new' (vs := [.int .u64 (x : Nat)]) (by simp)).alloc _
    have k2 : Boxed W5 (w.heap.size + 1 + 1) 3 (.int .i64 (s : Nat)) := by rw [HC.out, ← hW5]; exact Blk.new' (vs := [.int .i64 _]) (by simp)
    have hB0 : Below w.heap.size w W5 := by rw [← hW5]; exact chainA (chainA (chain0 _ _) _) _
    have hz : W5.heap.size = w.heap.size + 3 := by rw [← hW5]; simp
    clear hW5
    refine wpIn_rangeFunc_ownF (S := fun ys => ys = octs x s) rfl h1 (gf := 76) (lb := #[.pointer (some ⟨w.heap.size + 1 + 1, 0, none⟩), .pointer (some ⟨w.heap.size + 1, 0, none⟩)]) rfl trivial (enters_of Try.func76 (by kernel_rfl) rfl)
      (octets1_stops Fence.wide (m - 1) trivial rfl (by omega) x s H8 (w.heap.size + 1) (w.heap.size + 1 + 1) W5 k1.lt k2.lt (k1.cell) k2.cell (KeepB (w.heap.size + 1)) (fun A B h => World.cell?_of_block h)) KeepB.t (KeepB.b k1.lt) (Below.refl _ _) (fun _ => rfl)
      (NumI w.heap.size (w.heap.size + 1) x w) (fun _ _ _ => False) (numI_own (Nat.le_refl _) (by omega)) (fun _ _ _ _ _ hs _ _ => hs)
      ⟨⟨⟨_, k0, World.ownsRow_nil _ _ _ _, trivial⟩, k1⟩, hB0⟩ ?_ ?_ ?_ ?_ ?_
    rotate_left
    · intro l x W K hK
      gi_wp2
      exact hK
    · rintro l pre o W ⟨⟨⟨v, kv, hown, _⟩, kn⟩, hB⟩ hlt
      have ko := kv.cell
      have kf := kv.frozen
      have hNW : w.heap.size ≤ W.heap.size := hB.size
      gi_wp2_with (gi_at_builtin; refine wpListIn_append_own _ rfl _ _ 22 rfl w.heap.size 5 i0 (.int .u8 0) 1 1 Try.underlying22 hi hz0 hz1 hz2 rfl (by decide) v pre.length (pre.map bv) rfl (hown.alloc _) ⟨W.heap.size, 0, none⟩ 1 1 [bv o] rfl rfl (cell_one_new _ _ _) (by simp [Value.oneCell']) (by unfold maxLen; omega) (by omega) (by simp; omega) ?_; intro v' w1 hown' hgrow _; obtain ⟨g, cap, rfl⟩ := ownsRow_succ hown'; obtain ⟨hv1, kv', hrow', hk3, hbw⟩ := kv.appended (by decide) hown hNW (Nat.le_refl _) hown' hgrow; have ko1 := hv1.cell; have kf1 := hv1.frozen)
      have hn1 : W.heap.size ≤ w1.heap.size := Nat.le_trans (by simp) hgrow.size
      have kn1 : Boxed w1 (w.heap.size + 1) 78 (.int .u64 (x : Nat)) := (kn.alloc _).kept hgrow (Boxed.not_row kn (by decide) hown)
      have kn3 := kn1.kept (grownBy_setCell' w1 w.heap.size (.slice (some ⟨g, 0, none⟩) (pre.length + 1) cap)) (by simp)
      exact ⟨hk3, kn3.trans kn.symm, ⟨⟨_, kv', by simpa using hrow', trivial⟩, kn3⟩, hB.trans hbw⟩
    · rintro D ys W hD rfl ⟨⟨⟨v, kv, hown, _⟩, kn⟩, hB⟩ hK
      have ko := kv.cell
      have HZ := Lib.hid hz
      clear hz
      gi_wp2
      have hB' := hB.trans (belowK_b (w := w) (Nat.le_refl _) _ D _ (.deferred none) (by have := HZ.out; omega) hK rfl rfl)
      have hown3 := ownsRow_putObj hown (.deferred none) hK rfl
      refine ⟨by simp, .inl ⟨_, _, rfl, run_takeDeferred hK, ?_⟩⟩
      refine ⟨v, ?_, ?_⟩
      · simp [results, Try.f46, go_sem]
      · exact ⟨v, rfl, BSl.of_own hown3, hB'⟩
    · rintro D c pre W _ _ h _
      exact h.elim

theorem num_any (n size : Int) (hs : -9223372036854775808 ≤ size) (hs' : size ≤ 9223372036854775807) (w : World) :
    Calls Try.prog 46 #[.int .i64 n, .int .i64 size] w (ByW (octs (two n) (clamp size)) w) := callsIn_wide.1 (num_in 3 (by omega) n size hs hs' w)

end Go.Proofs.Ytneilnfjnbecbaa

namespace Go.Proofs.Ytneilnfjnbecbaa
open Go.RowKit Go.Shelf

theorem run_append_b {P : Program} (w : World) (base : Nat) (t ty e : TypeId) (i : TypeInfo) (z : Value) (ht : P.underlying t = some (.slice e)) (hi : P.info? e = some i) (hz : i.zero = some z)
    (hsize : i.size = 1) (hby : i.bytes = 1) (hzs : z.cells.size = 1) (v : Value) (n : Nat) (xs : List Value) (hown : w.ownsRow base e 1 v n xs)
    {lo hi' : Nat} {sv : Value} {l : List UInt8} (hsv : BSl lo hi' w sv l) (h63 : n + l.length ≤ 140737488355328) (hbase : base ≤ w.heap.size) :
    ∃ v' w', (Builtin.append_ #[t, t] ty #[v, sv]).run P w = .ok v' w' ∧ w'.ownsRow base e 1 v' (n + l.length) (xs ++ l.map bv) ∧ w.grownBy w' v.ownBlock := by
  obtain ⟨a, cap, rfl, _, h0⟩ := hsv
  rcases a with _ | ad
  · have hl : l = [] := by
      rcases h0 with h0 | ⟨_, _, h, _⟩
      · exact h0
      · cases h
    subst hl
    refine ⟨v, w, ?_, by simpa using hown, World.grownBy.refl w _⟩
    rcases hown.2 with ⟨rfl, rfl⟩ | ⟨g, c, cur, rfl, _, _, hnc, _⟩
    · simp [Builtin.append_, run_underlying ht, sizeOf, typeInfo, hi, Builtin.lenOf, Builtin.firstCells]
    · simp [Builtin.append_, run_underlying ht, sizeOf, typeInfo, hi, Builtin.lenOf, Builtin.firstCells, hnc, storeCells]
  · obtain ⟨v', w', hr, h2, h3, _⟩ := run_append_own (P := P) w base t ty e i z 1 1 ht hi hz hsize hby hzs (by omega) v n xs hown ad l.length cap (l.map bv) (by simp)
      (fun j u hu => by
        rcases h0 with rfl | ⟨b, off, ha, _, _, ho⟩
        · simp at hu
        · cases ha
          rw [List.getElem?_map] at hu
          obtain ⟨x, hx, rfl⟩ := Option.map_eq_some_iff.1 hu
          have hp : (⟨b, off, none⟩ : Addr).add j = ⟨b, off + j, none⟩ := by cases j <;> simp [Addr.add]
          rw [hp]; exact ho j x hx)
      (by intro u hu; obtain ⟨x, _, rfl⟩ := List.mem_map.1 hu; rfl) (by unfold maxLen; omega) (by omega) hbase
    exact ⟨v', w', hr, h2, h3⟩

theorem wpList_append_b {P : Program} (w : World) {ops : Array Oper} {rest : List Oper} {o : Oper} {a : Act} {Q : Exit → Act → World → Prop}
    (hg : o.guard = none) (s x : Operand) (t : TypeId) (hop : o.op = Op.call { callee := Callee.builtin Builtin.append, args := #[s, x], argTypes := #[t, t] })
    (base : Nat) (e : TypeId) (i : TypeInfo) (z : Value) (ht : P.underlying t = some (.slice e)) (hi : P.info? e = some i) (hz : i.zero = some z)
    (hsize : i.size = 1) (hby : i.bytes = 1) (hzs : z.cells.size = 1) (v : Value) (n : Nat) (xs : List Value) (hs : a.eval s = v) (hown : w.ownsRow base e 1 v n xs)
    {lo hi' : Nat} (sv : Value) (l : List UInt8) (hx : a.eval x = sv) (hsv : BSl lo hi' w sv l) (h63 : n + l.length ≤ 140737488355328) (hbase : base ≤ w.heap.size)
    (hK : ∀ v' w', w'.ownsRow base e 1 v' (n + l.length) (xs ++ l.map bv) → w.grownBy w' v.ownBlock → wpList P ops Q rest (a.put o.dst v') w') :
    wpList P ops Q (o :: rest) a w := by
  refine wpList_plain hg fun K hK' => ?_
  obtain ⟨v', w', hrun, r1, r2⟩ := run_append_b (P := P) w base t o.type e i z ht hi hz hsize hby hzs v n xs hown hsv h63 hbase
  unfold Oper.wp
  simp [execOp, hop, resolve, invoke, builtin, hs, hx, hrun, Result.andThen]
  exact hK' _ _ (hK v' w' r1 r2)

theorem wpListIn_append_b {F : Fence} {m : Nat} {P : Program} (w : World) {ops : Array Oper} {rest : List Oper} {o : Oper} {a : Act} {Q : Exit → Act → World → Prop}
    (hg : o.guard = none) (s x : Operand) (t : TypeId) (hop : o.op = Op.call { callee := Callee.builtin Builtin.append, args := #[s, x], argTypes := #[t, t] })
    (base : Nat) (e : TypeId) (i : TypeInfo) (z : Value) (ht : P.underlying t = some (.slice e)) (hi : P.info? e = some i) (hz : i.zero = some z)
    (hsize : i.size = 1) (hby : i.bytes = 1) (hzs : z.cells.size = 1) (v : Value) (n : Nat) (xs : List Value) (hs : a.eval s = v) (hown : w.ownsRow base e 1 v n xs)
    {lo hi' : Nat} (sv : Value) (l : List UInt8) (hx : a.eval x = sv) (hsv : BSl lo hi' w sv l) (h63 : n + l.length ≤ 140737488355328) (hbase : base ≤ w.heap.size)
    (hK : ∀ v' w', w'.ownsRow base e 1 v' (n + l.length) (xs ++ l.map bv) → w.grownBy w' v.ownBlock → wpListIn F m P ops Q rest (a.put o.dst v') w') :
    wpListIn F m P ops Q (o :: rest) a w := by
  refine wpListIn_plain hg fun K hK' => ?_
  obtain ⟨v', w', hrun, r1, r2⟩ := run_append_b (P := P) w base t o.type e i z ht hi hz hsize hby hzs v n xs hown hsv h63 hbase
  unfold Oper.wpIn
  refine ⟨?_, ?_⟩
  · simp [Oper.about, hop, resolve, Target.leads, Sem.run_pure]
  · rw [Oper.semAt_plain F _ _ (by rw [hop]; intro c hc'; cases hc')]
    simp [execOp, hop, resolve, invoke, builtin, hs, hx, hrun, Result.andThen]
    exact hK' _ _ (hK v' w' r1 r2)

/-- A slice of these octets: a row of the call's own. -/
def ByO (l : List UInt8) (w : World) (e : Ending) (W' : World) : Prop := ∃ sv, e = .returned sv ∧ W'.ownsRow w.heap.size 5 1 sv l.length (l.map bv) ∧ Below w.heap.size w W'

end Go.Proofs.Ytneilnfjnbecbaa

namespace Go.Proofs.Ytneilnfjnbecbaa
open Go.RowKit Go.Shelf
attribute [local go_sem] Oper.semAt_some

theorem flat_prefix {o n : Nat} {w : World} (zs : List (SX o n w)) (k : Nat) : (flat (zs.take k)).length ≤ (flat zs).length := by
  have h : flat zs = flat (zs.take k) ++ flat (zs.drop k) := by
    unfold flat
    rw [← List.flatten_append, ← List.map_append, List.take_append_drop]
  rw [h, List.length_append]
  omega
theorem flat_take {o n : Nat} {w : World} (zs : List (SX o n w)) {k : Nat} {x : SX o n w} (hx : zs[k]? = some x) : flat (zs.take (k + 1)) = flat (zs.take k) ++ x.1.2 := by
  rw [List.take_add_one, hx]
  exact flat_snoc _ _

/-- Between two rounds. -/
def CatI {o n : Nat} {w₁ : World} (N : Nat) (w : World) (zs : List (SX o n w₁)) (k : Nat) (W : World) : Prop :=
  (∃ v, Boxed W N 22 v ∧ W.ownsRow N 5 1 v (flat (zs.take k)).length ((flat (zs.take k)).map bv) ∧ True) ∧ Below N w W
theorem catI_own {o n : Nat} {w₁ : World} {N : Nat} {w : World} {B : Nat} (zs : List (SX o n w₁)) (h : N ≤ w.heap.size) (hB : N ≤ B) : OwnFrom B (CatI (o := o) (n := n) (w₁ := w₁) N w zs) :=
  OwnFrom.and (Own.from (holdsRow_own N N 22 5 1 (fun k : Nat => (flat (zs.take k)).length) (fun k => (flat (zs.take k)).map bv) (fun _ _ => True)) _) (ownFrom_below h hB)

set_option maxRecDepth 100000 in
set_option maxHeartbeats 4000000 in
theorem cat_in (m : Nat) (hm : 3 ≤ m) {o : Nat} (sv : Value) (w : World) (zs : List (SX o w.heap.size w)) (hreach : zs.length ≤ 140737488351232) (ho : (flat zs).length ≤ 140737488355328) (hsv : SSl w.heap.size w sv zs) :
    CallsIn Fence.wide m Try.prog 79 #[sv] w (ByW (flat zs) w) := by
  have h1 : 1 ≤ m := by omega
  have hsv0 := hsv
  obtain ⟨a, cap, rfl, hcs⟩ := hsv
  clear hcs
  refine callsIn_of_wp_marks Try.func79 rfl trivial ?_ rfl
  simp only [Try.ntmps79, List.size_toArray, List.length_cons, List.length_nil, Nat.reduceAdd, Nat.reduceSub, Array.replicate_succ, Array.replicate_zero, List.push_toArray, List.append_toArray, List.nil_append, List.cons_append]
  obtain ⟨i0, hi, hz0, hz1, hz2⟩ := info_parts Try.infoByte
  gi_wp2_with (refine ⟨trivial, ?_⟩; gi_at_call 80; refine (valuesS_in Fence.wide (m - 1) trivial rfl _ _ _ _).mono ?_; rintro e w' ⟨rfl, rfl⟩)
  generalize hW5 : World.alloc _ _ = W5
  have k0 : Boxed W5 w.heap.size 22 (.slice none 0 0) := by rw [← hW5]; exact (Boxed.new _ _ _).alloc _
  have k2 : Boxed W5 (w.heap.size + 1) 79 (.slice a zs.length cap) := by rw [← hW5]; exact Blk.new' (vs := [_]) (by simp)
  have hB0 : Below w.heap.size w W5 := by rw [← hW5]; exact chainA (chain0 _ _) _
  have hz : W5.heap.size = w.heap.size + 2 := by rw [← hW5]; simp
  clear hW5
  refine wpIn_rangeFunc_relA rfl h1 (gf := 81) (lb := #[.pointer (some ⟨w.heap.size + 1, 0, none⟩)]) rfl trivial (enters_of Try.func81 (by kernel_rfl) rfl)
    (valuesS_rel (m - 1) (by omega) (w.heap.size + 1) w.heap.size _ zs hreach W5 (by omega) k2 (hsv0.below hB0 (Nat.le_refl _))) (fun h k => h.trans k) (fun X o o' h2 h3 h4 => belowK_b (w := w) (Nat.le_refl _) _ _ o o' (by omega) h2 h3 h4) (fun X => Below.refl _ X) (Below.refl _ _) (fun _ => rfl)
    (CatI w.heap.size w zs) (catI_own zs (Nat.le_refl _) (by omega))
    ⟨⟨_, k0, World.ownsRow_nil _ _ _ _, trivial⟩, hB0⟩ (fun _ _ _ _ _ _ h _ _ => h) ?_ ?_ ?_ ?_
  rotate_left
  · intro l k x W K _ hK
    gi_wp2
    exact hK
  · rintro r k x W hlt ⟨⟨v, kv, hown, _⟩, hB⟩ hx
    have ko := kv.cell
    have kf := kv.frozen
    have hNW : w.heap.size ≤ W.heap.size := hB.size
    have hxs := x.2.1.below hB (Nat.le_refl _)
    have hfs := flat_take zs hx
    have hle := flat_prefix zs (k + 1)
    rw [hfs, List.length_append] at hle
    have HF := Lib.hid hfs
    clear hfs hx
    obtain ⟨⟨sx, l⟩, _⟩ := x
    dsimp only at hxs hle HF
    generalize zs.take k = pre at *
    gi_wp2_with (gi_at_builtin; refine wpListIn_append_b _ rfl _ _ 22 rfl w.heap.size 5 i0 (.int .u8 0) Try.underlying22 hi hz0 hz1 hz2 rfl v (flat pre).length ((flat pre).map bv) rfl hown sx l rfl hxs (by omega) hNW ?_; intro v' w1 hown' hgrow; obtain ⟨a', c', rfl⟩ := ownsRow_slice hown'; have kv1 := kv.kept hgrow (kv.not_row (by decide) hown); have ko1 := kv1.cell; have kf1 := kv1.frozen)
    have kv3 := kv1.set (.slice a' ((flat pre).length + l.length) c')
    have hrow3 := hown'.kept (grownBy_setCell' w1 w.heap.size (.slice a' ((flat pre).length + l.length) c')) (.inr (kv1.not_row (by decide) hown').symm)
    have hsp : Spares 5 W w1 := (Spares.of_below (Below.refl _ W)).grown hgrow (fun r e => .inr (ownsRow_block hown r e))
    have hbw := ((Below.refl w.heap.size W).grown hgrow hNW (fun j hj => (World.ownsRow.lt hown j hj).1)).setCell (p := ⟨w.heap.size, 0, none⟩) (Nat.le_refl _) (.slice a' ((flat pre).length + l.length) c')
    refine ⟨(hsp.others.trans (KeepsOthers.setCell _ _ _)).from _, hbw, ⟨_, kv3, ?_, trivial⟩, hB.trans hbw⟩
    rw [HF.out, List.map_append, List.length_append]
    exact hrow3
  · rintro D W hD ⟨⟨v, kv, hown, _⟩, hB⟩ hK
    rw [List.take_length] at hown
    have ko := kv.cell
    have HZ := Lib.hid hz
    clear hz
    gi_wp2
    have hB' := hB.trans (belowK_b (w := w) (Nat.le_refl _) _ D _ (.deferred none) (by have := HZ.out; omega) hK rfl rfl)
    have hown3 := ownsRow_putObj hown (.deferred none) hK rfl
    refine ⟨by simp, .inl ⟨_, _, rfl, run_takeDeferred hK, ?_⟩⟩
    refine ⟨v, ?_, ?_⟩
    · simp [results, Try.f79, go_sem]
    · exact ⟨v, rfl, BSl.of_own hown3, hB'⟩

theorem cat_any {o : Nat} (sv : Value) (w : World) (zs : List (SX o w.heap.size w)) (hreach : zs.length ≤ 140737488351232) (ho : (flat zs).length ≤ 140737488355328) (hsv : SSl w.heap.size w sv zs) :
    Calls Try.prog 79 #[sv] w (ByW (flat zs) w) := callsIn_wide.1 (cat_in 3 (by omega) sv w zs hreach ho hsv)

/-- .. with a bound on each. -/
theorem cat_anyO {o : Nat} (sv : Value) (w : World) (zs : List (SX o w.heap.size w)) (hreach : zs.length ≤ 140737488351232) (ho : zs.length * o ≤ 140737488355328) (hsv : SSl w.heap.size w sv zs) :
    Calls Try.prog 79 #[sv] w (ByW (flat zs) w) := cat_any sv w zs hreach (Nat.le_trans (flat_le zs) ho) hsv

end Go.Proofs.Ytneilnfjnbecbaa
