/-
  slices.Values over octets: each.
  blob.Int: the number of the first seven octets at most.
  slices.All over octets: each with its place.
  blob.Unwide: the number of 32 octets.
  field.In: how it reads.
  A thing that is stored beside an object.
  A transfer, and a side's data, read of an In.
-/
import Derived.Maps.Range
import Derived.Outline
import Derived.Deep.Cut
import Derived.Test.YtafcngnophlhgaaK06
namespace Go.Proofs.Ytafcngnophlhgaa
open Go.RowKit Go.Shelf
attribute [local go_sem] Oper.semAt_some

set_option maxRecDepth 100000 in
set_option maxHeartbeats 4000000 in
theorem valuesB1_in (F : Fence) (n : Nat) (h7 : F.fn 89) (hro : F.round = none) (hn : 1 ≤ n) (l Bs n₀ b off cap : Nat) (zs : List UInt8) (hreach : zs.length ≤ 140737488351232) (hb : b < n₀) (J Jx : List UInt8 → World → Prop)
    (W : World)
    (hY : ∀ pre x W, J pre W → pre.length < zs.length → YieldAt F (n - 1) Try.prog l #[bv x] W fun e W' =>
      (e = .returned (.bool true) ∧ J (pre ++ [x]) W' ∧ Below n₀ W W') ∨ (e = .returned (.bool false) ∧ Jx (pre ++ [x]) W'))
    (hBs : W.cell? ⟨Bs, 0, none⟩ = some (.slice (some ⟨b, off, none⟩) zs.length cap)) (hc : Octs W b off zs) (h0 : J [] W) :
    CallsIn F n Try.prog 89 #[.func (.yield l) #[] #[], .pointer (some ⟨Bs, 0, none⟩)] W fun e W' => (∃ v, e = .returned v) ∧
      ((∃ ys, ys = zs ∧ J ys W') ∨ (∃ pre, True ∧ Jx pre W')) := by
  refine callsIn_of_wp Try.func89 rfl h7 ?_ hro
  simp only [Try.ntmps89, List.size_toArray, List.length_cons, List.length_nil, Nat.reduceAdd, Nat.reduceSub, Array.replicate_succ, Array.replicate_zero, List.push_toArray, List.append_toArray, List.nil_append, List.cons_append]
  gi_wp2
  gi_loopw [7] (fun i wr => ∃ k : Nat, k ≤ zs.length ∧ i = .int .i64 k ∧ J (zs.take k) wr ∧ Below n₀ W wr) (fun i _ => zs.length - (intOf i).toNat)
  case atStart => exact ⟨0, Nat.zero_le _, rfl, h0, Below.refl _ _⟩
  case round =>
    obtain ⟨k, hk, rfl, hJs, hnx⟩ := hrel
    by_cases hlt : k < zs.length
    · obtain ⟨x, hx⟩ : ∃ x, zs[k]? = some x := ⟨_, List.getElem?_eq_getElem hlt⟩
      have c0 := (hc.below hnx hb) k x hx
      have hk0 : (k : Int) < (zs.length : Int) := by omega
      obtain ⟨fn, tmps, assign, body, hy, hR⟩ := hY (zs.take k) x wr hJs (by simp; omega)
      have ht : zs.take (k + 1) = zs.take k ++ [x] := by rw [List.take_add_one, hx]; rfl
      rw [← ht] at hR
      clear ht
      have HX := Lib.hid hx
      clear hx
      generalize hL : zs.length = len at *
      have HL := Lib.hid hL
      clear hL
      gi_wp2
      refine hR.mono ?_
      rintro e W3 (⟨rfl, hJ3, hk3⟩ | ⟨rfl, hJx3⟩)
      · gi_wp2
        go_roundw
        case rel => exact ⟨k + 1, by omega, by simp, hJ3, hnx.trans hk3⟩
        case measure => simp [intOf]; omega
      · gi_wp2
        refine bodyPost_ret (results_none rfl _ _ _) rfl ?_
        exact ⟨⟨_, rfl⟩, .inr ⟨_, trivial, hJx3⟩⟩
    · obtain rfl : k = zs.length := by omega
      gi_wp2
      go_end0
      rw [List.take_length] at hJs
      exact ⟨⟨_, rfl⟩, .inl ⟨_, rfl, hJs⟩⟩

set_option maxRecDepth 100000 in
set_option maxHeartbeats 1000000 in
/-- .. at a slice of none: no round. -/
theorem valuesB1_nil_in (F : Fence) (n : Nat) (h7 : F.fn 89) (hro : F.round = none) (l Bs : Nat) (a : Option Addr) (cap : Nat) (J : List UInt8 → World → Prop) (W : World) (hBs : W.cell? ⟨Bs, 0, none⟩ = some (.slice a 0 cap)) (h0 : J [] W) :
    CallsIn F n Try.prog 89 #[.func (.yield l) #[] #[], .pointer (some ⟨Bs, 0, none⟩)] W fun e W' => (∃ v, e = .returned v) ∧ J [] W' := by
  refine callsIn_of_wp Try.func89 rfl h7 ?_ hro
  simp only [Try.ntmps89, List.size_toArray, List.length_cons, List.length_nil, Nat.reduceAdd, Nat.reduceSub, Array.replicate_succ, Array.replicate_zero, List.push_toArray, List.append_toArray, List.nil_append, List.cons_append]
  gi_wp2
  gi_loopw [7] (fun i wr => i = .int .i64 0 ∧ J [] wr) (fun _ _ => 0)
  case atStart => exact ⟨rfl, h0⟩
  case round =>
    obtain ⟨rfl, hJs⟩ := hrel
    gi_wp2
    go_end0
    exact ⟨⟨_, rfl⟩, hJs⟩

set_option maxHeartbeats 1000000 in
theorem valuesB_in (F : Fence) (n : Nat) (h5 : F.fn 87) (hro : F.round = none) (a : Option Addr) (len cap : Nat) (w : World) :
    CallsIn F n Try.prog 87 #[.slice a len cap] w fun e w' => e = .returned (.func (.func 89) #[] #[.pointer (some ⟨w.heap.size, 0, none⟩)]) ∧ w' = w.alloc (.cells #[.slice a len cap] 31) := by
  refine callsIn_of_wp Try.func87 rfl h5 ?_ hro
  simp only [Try.ntmps87, List.size_toArray, List.length_cons, List.length_nil, Nat.reduceAdd, Nat.reduceSub, Array.replicate_succ, Array.replicate_zero, List.push_toArray, List.append_toArray, List.nil_append, List.cons_append]
  gi_wp2
  go_ret
  exact ⟨rfl, rfl⟩

theorem valuesB_stops (F : Fence) (n : Nat) (h7 : F.fn 89) (hro : F.round = none) (hn : 1 ≤ n) (Bs n₀ : Nat) (sv : Value) (zs : List UInt8) (hreach : zs.length ≤ 140737488351232) (w : World) (hn₀ : n₀ ≤ w.heap.size)
    (hk : Boxed w Bs 31 sv) (hI : BSl 0 n₀ w sv zs) :
    SeqStopsK F n Try.prog 89 #[.pointer (some ⟨Bs, 0, none⟩)] (fun x => #[bv x]) (Below n₀) (fun ys => ys = zs) (fun _ => True) zs.length w := fun l J Jx W hW hJ _ hY h0 => by
  have hc' := (hW.cell (p := ⟨Bs, 0, none⟩) hk.lt).trans hk.cell
  obtain ⟨a, cap, rfl, hcap, rfl | ⟨b, off, rfl, _, hb, hcs⟩⟩ := hI.below hW hn₀
  · exact (valuesB1_nil_in F n h7 hro l Bs a cap J W hc' h0).mono fun e W' ⟨he, hj⟩ => ⟨he, .inl ⟨_, rfl, hj⟩⟩
  · exact valuesB1_in F n h7 hro hn l Bs n₀ b off cap zs hreach hb J Jx W hY hc' hcs h0

end Go.Proofs.Ytafcngnophlhgaa

namespace Go.Proofs.Ytafcngnophlhgaa
open Go.RowKit Go.Shelf
attribute [local go_sem] Oper.semAt_some

/-- Between two rounds. -/
def IntI (N : Nat) (w : World) (pre : List UInt8) (W : World) : Prop := Boxed W N 3 (.int .i64 (be pre : Nat)) ∧ Below N w W
theorem intI_own {N : Nat} {w : World} {B : Nat} (h : N ≤ w.heap.size) (hB : N ≤ B) : OwnFrom B (IntI N w) :=
  OwnFrom.and (Own.from (fun s X Y row hs hg hr => blk_own N 3 (fun s : List UInt8 => [.int .i64 (be s : Nat)]) s X Y row hs hg hr) _) (ownFrom_below h hB)
/-- A slice's first octets. -/
theorem BSl.take {lo hi : Nat} {W : World} {a : Option Addr} {cap : Nat} {l : List UInt8} (h : BSl lo hi W (.slice a l.length cap) l) (k : Nat) (hk : k ≤ l.length) : BSl lo hi W (.slice a k cap) (l.take k) := by
  obtain ⟨a', cap', e, hc, h0⟩ := h
  cases e
  refine ⟨a, cap, by rw [List.length_take, Nat.min_eq_left hk], by simp; omega, ?_⟩
  rcases h0 with rfl | ⟨b, off, ha, h1, h2, ho⟩
  · exact .inl (by simp)
  · exact .inr ⟨b, off, ha, h1, h2, fun j x hj => ho j x (by
      have hjk : j < k := by have := (List.getElem?_eq_some_iff.1 hj).1; simp at this; omega
      rwa [List.getElem?_take_of_lt hjk] at hj)⟩

set_option maxRecDepth 100000 in
set_option maxHeartbeats 4000000 in
theorem blobInt_in (m : Nat) (hm : 2 ≤ m) (l : List UInt8) (sv : Value) (w : World) (hreach : l.length ≤ 140737488351232) (hsv : BSl 0 w.heap.size w sv l) :
    CallsIn Fence.wide m Try.prog 82 #[sv] w fun e W' => e = .returned (.int .i64 (be (l.take 7) : Nat)) ∧ Below w.heap.size w W' := by
  have h1 : 1 ≤ m := by omega
  have hsv0 := hsv
  obtain ⟨a, cap, rfl, hcap, hcs⟩ := hsv
  clear hcs
  refine callsIn_of_wp_marks Try.func82 rfl trivial ?_ rfl
  simp only [Try.ntmps82, List.size_toArray, List.length_cons, List.length_nil, Nat.reduceAdd, Nat.reduceSub, Array.replicate_succ, Array.replicate_zero, List.push_toArray, List.append_toArray, List.nil_append, List.cons_append]
  have hN : (l.take 7).length ≤ 7 := by rw [List.length_take]; omega
  have hcase : (((l.length : Nat) : Int) ≤ 7 ∧ BSl 0 w.heap.size w (.slice a l.length cap) (l.take 7)) ∨ (¬ ((l.length : Nat) : Int) ≤ 7 ∧ BSl 0 w.heap.size w (.slice a 7 cap) (l.take 7)) := by
    by_cases h : l.length ≤ 7
    · exact .inl ⟨by omega, by rw [List.take_of_length_le h]; exact hsv0⟩
    · exact .inr ⟨by omega, hsv0.take 7 (by omega)⟩
  clear hsv0
  generalize l.take 7 = z at *
  rcases hcase with ⟨h7, hT⟩ | ⟨h7, hT⟩
  all_goals
    gi_wp2_with (refine ⟨trivial, ?_⟩; gi_at_call 87; refine (valuesB_in Fence.wide (m - 1) trivial rfl _ _ _ _).mono ?_; rintro e w' ⟨rfl, rfl⟩)
    generalize hW5 : World.alloc _ _ = W5
    have k0 : Boxed W5 w.heap.size 3 (.int .i64 (be [] : Nat)) := by rw [← hW5]; exact (Boxed.new _ _ (.int .i64 (be [] : Nat))).alloc _
    have k2 := show Boxed W5 (w.heap.size + 1) 31 (.slice a _ cap) by rw [← hW5]; exact Blk.new' (vs := [_]) (by simp)
    have hB0 : Below w.heap.size w W5 := by rw [← hW5]; exact chainA (chain0 _ _) _
    have hz : W5.heap.size = w.heap.size + 2 := by rw [← hW5]; simp
    clear hW5
    refine wpIn_rangeFunc_ownF (S := fun ys => ys = z) rfl h1 (gf := 89) (lb := #[.pointer (some ⟨w.heap.size + 1, 0, none⟩)]) rfl trivial (enters_of Try.func89 (by kernel_rfl) rfl)
      (valuesB_stops Fence.wide (m - 1) trivial rfl (by omega) (w.heap.size + 1) w.heap.size _ z (by omega) W5 (by omega) k2 (hT.below hB0 (Nat.le_refl _))) belowK_t (belowK_b (by omega)) (Below.refl _ _) (fun _ => rfl)
      (IntI w.heap.size w) (fun _ _ _ => False) (intI_own (Nat.le_refl _) (by omega)) (fun _ _ _ _ _ hs _ _ => hs)
      ⟨k0, hB0⟩ ?_ ?_ ?_ ?_ ?_
    rotate_left
    · intro l x W K hK
      gi_wp2
      exact hK
    · rintro r pre x W ⟨k0, hB⟩ hlt
      have co := k0.cell
      have cf := k0.frozen
      have hsn := be_snoc pre x
      have HS := Lib.hid hsn
      have hl1 : be pre ≤ 281474976710655 := by have := be_lt' (l := pre) (k := 6) (by omega); omega
      have hor := or_byte64 (a := be pre) (x := x.toNat) (by omega) x.toNat_lt
      have HO := Lib.hid hor
      clear hor hsn
      generalize be pre = y at *
      have hy : (y : Int) ≤ 281474976710655 := by omega
      have hxl := x.toNat_lt
      have hxl' : (x.toNat : Int) ≤ 255 := by omega
      gi_wp2
      rw [HO.out, ← HS.out]
      have hbw := (Below.refl w.heap.size W).setCell (p := ⟨w.heap.size, 0, none⟩) (Nat.le_refl _) (.int .i64 (be (pre ++ [x]) : Nat))
      exact ⟨KeepsOthers.setCell _ _ _, hbw, k0.set _, hB.trans hbw⟩
    · rintro D ys W hD rfl ⟨k0, hB⟩ hK
      have co := k0.cell
      have HZ := Lib.hid hz
      clear hz
      gi_wp2
      have hB' := hB.trans (belowK_b (w := w) (Nat.le_refl _) _ D _ (.deferred none) (by have := HZ.out; omega) hK rfl rfl)
      refine ⟨by simp, .inl ⟨_, _, rfl, run_takeDeferred hK, ?_⟩⟩
      refine ⟨.int .i64 (be ys : Nat), ?_, ?_⟩
      · simp [results, Try.f82, go_sem]
      · exact ⟨rfl, hB'⟩
    · rintro D c pre W _ _ h _
      exact h.elim

theorem blobInt_any (l : List UInt8) (sv : Value) (w : World) (hreach : l.length ≤ 140737488351232) (hsv : BSl 0 w.heap.size w sv l) :
    Calls Try.prog 82 #[sv] w fun e W' => e = .returned (.int .i64 (be (l.take 7) : Nat)) ∧ Below w.heap.size w W' := callsIn_wide.1 (blobInt_in 2 (by omega) l sv w hreach hsv)

end Go.Proofs.Ytafcngnophlhgaa

namespace Go.Proofs.Ytafcngnophlhgaa
open Go.RowKit Go.Shelf
attribute [local go_sem] Oper.semAt_some

/-- The elements els stand for the octets zs with their places. -/
def Places {α : Type} (encs : α → Array Value) (els : List α) (zs : List UInt8) : Prop := els.length = zs.length ∧ ∀ (k : Nat) (e : α), els[k]? = some e → ∃ x, zs[k]? = some x ∧ encs e = #[.int .i64 (k : Int), bv x]

set_option maxRecDepth 100000 in
set_option maxHeartbeats 4000000 in
theorem all1_in {α : Type} (encs : α → Array Value) (els : List α) (F : Fence) (n : Nat) (h7 : F.fn 88) (hro : F.round = none) (hn : 1 ≤ n) (l Bs n₀ b off cap : Nat) (zs : List UInt8) (hreach : zs.length ≤ 140737488351232) (hb : b < n₀) (hels : Places encs els zs) (J Jx : List α → World → Prop)
    (W : World)
    (hY : ∀ pre x W, J pre W → pre.length < zs.length → YieldAt F (n - 1) Try.prog l (encs x) W fun e W' =>
      (e = .returned (.bool true) ∧ J (pre ++ [x]) W' ∧ Below n₀ W W') ∨ (e = .returned (.bool false) ∧ Jx (pre ++ [x]) W'))
    (hBs : W.cell? ⟨Bs, 0, none⟩ = some (.slice (some ⟨b, off, none⟩) zs.length cap)) (hc : Octs W b off zs) (h0 : J [] W) :
    CallsIn F n Try.prog 88 #[.func (.yield l) #[] #[], .pointer (some ⟨Bs, 0, none⟩)] W fun e W' => (∃ v, e = .returned v) ∧
      ((∃ ys, ys = els ∧ J ys W') ∨ (∃ pre, True ∧ Jx pre W')) := by
  refine callsIn_of_wp Try.func88 rfl h7 ?_ hro
  simp only [Try.ntmps88, List.size_toArray, List.length_cons, List.length_nil, Nat.reduceAdd, Nat.reduceSub, Array.replicate_succ, Array.replicate_zero, List.push_toArray, List.append_toArray, List.nil_append, List.cons_append]
  gi_wp2
  gi_loopw [7] (fun i wr => ∃ k : Nat, k ≤ zs.length ∧ i = .int .i64 k ∧ J (els.take k) wr ∧ Below n₀ W wr) (fun i _ => zs.length - (intOf i).toNat)
  case atStart => exact ⟨0, Nat.zero_le _, rfl, h0, Below.refl _ _⟩
  case round =>
    obtain ⟨k, hk, rfl, hJs, hnx⟩ := hrel
    by_cases hlt : k < zs.length
    · obtain ⟨e, he⟩ : ∃ e, els[k]? = some e := ⟨_, List.getElem?_eq_getElem (by rw [hels.1]; exact hlt)⟩
      obtain ⟨x, hx, hen⟩ := hels.2 k e he
      have c0 := (hc.below hnx hb) k x hx
      have hk0 : (k : Int) < (zs.length : Int) := by omega
      obtain ⟨fn, tmps, assign, body, hy, hR⟩ := hY (els.take k) e wr hJs (by simp; omega)
      have ht : els.take (k + 1) = els.take k ++ [e] := by rw [List.take_add_one, he]; rfl
      rw [← ht] at hR
      rw [hen] at hy
      clear ht he hen
      have HX := Lib.hid hx
      clear hx
      have HE := Lib.hid hels
      clear hels
      generalize hL : zs.length = len at *
      have HL := Lib.hid hL
      clear hL
      gi_wp2
      refine hR.mono ?_
      rintro e W3 (⟨rfl, hJ3, hk3⟩ | ⟨rfl, hJx3⟩)
      · gi_wp2
        go_roundw
        case rel => exact ⟨k + 1, by omega, by simp, hJ3, hnx.trans hk3⟩
        case measure => simp [intOf]; omega
      · gi_wp2
        refine bodyPost_ret (results_none rfl _ _ _) rfl ?_
        exact ⟨⟨_, rfl⟩, .inr ⟨_, trivial, hJx3⟩⟩
    · obtain rfl : k = zs.length := by omega
      gi_wp2
      go_end0
      rw [List.take_of_length_le (by rw [hels.1]; exact Nat.le_refl _)] at hJs
      exact ⟨⟨_, rfl⟩, .inl ⟨_, rfl, hJs⟩⟩

set_option maxRecDepth 100000 in
set_option maxHeartbeats 1000000 in
/-- .. at a slice of none: no round. -/
theorem all1_nil_in {α : Type} (F : Fence) (n : Nat) (h7 : F.fn 88) (hro : F.round = none) (l Bs : Nat) (a : Option Addr) (cap : Nat) (J : List α → World → Prop) (W : World) (hBs : W.cell? ⟨Bs, 0, none⟩ = some (.slice a 0 cap)) (h0 : J [] W) :
    CallsIn F n Try.prog 88 #[.func (.yield l) #[] #[], .pointer (some ⟨Bs, 0, none⟩)] W fun e W' => (∃ v, e = .returned v) ∧ J [] W' := by
  refine callsIn_of_wp Try.func88 rfl h7 ?_ hro
  simp only [Try.ntmps88, List.size_toArray, List.length_cons, List.length_nil, Nat.reduceAdd, Nat.reduceSub, Array.replicate_succ, Array.replicate_zero, List.push_toArray, List.append_toArray, List.nil_append, List.cons_append]
  gi_wp2
  gi_loopw [7] (fun i wr => i = .int .i64 0 ∧ J [] wr) (fun _ _ => 0)
  case atStart => exact ⟨rfl, h0⟩
  case round =>
    obtain ⟨rfl, hJs⟩ := hrel
    gi_wp2
    go_end0
    exact ⟨⟨_, rfl⟩, hJs⟩

set_option maxHeartbeats 1000000 in
theorem all_in (F : Fence) (n : Nat) (h5 : F.fn 83) (hro : F.round = none) (a : Option Addr) (len cap : Nat) (w : World) :
    CallsIn F n Try.prog 83 #[.slice a len cap] w fun e w' => e = .returned (.func (.func 88) #[] #[.pointer (some ⟨w.heap.size, 0, none⟩)]) ∧ w' = w.alloc (.cells #[.slice a len cap] 31) := by
  refine callsIn_of_wp Try.func83 rfl h5 ?_ hro
  simp only [Try.ntmps83, List.size_toArray, List.length_cons, List.length_nil, Nat.reduceAdd, Nat.reduceSub, Array.replicate_succ, Array.replicate_zero, List.push_toArray, List.append_toArray, List.nil_append, List.cons_append]
  gi_wp2
  go_ret
  exact ⟨rfl, rfl⟩

theorem all_stops {α : Type} (encs : α → Array Value) (els : List α) (F : Fence) (n : Nat) (h7 : F.fn 88) (hro : F.round = none) (hn : 1 ≤ n) (Bs n₀ : Nat) (sv : Value) (zs : List UInt8) (hreach : zs.length ≤ 140737488351232) (w : World) (hn₀ : n₀ ≤ w.heap.size)
    (hk : Boxed w Bs 31 sv) (hI : BSl 0 n₀ w sv zs) (hels : Places encs els zs) :
    SeqStopsK F n Try.prog 88 #[.pointer (some ⟨Bs, 0, none⟩)] encs (Below n₀) (fun ys => ys = els) (fun _ => True) zs.length w := fun l J Jx W hW hJ _ hY h0 => by
  have hc' := (hW.cell (p := ⟨Bs, 0, none⟩) hk.lt).trans hk.cell
  obtain ⟨a, cap, rfl, hcap, rfl | ⟨b, off, rfl, _, hb, hcs⟩⟩ := hI.below hW hn₀
  · exact (all1_nil_in F n h7 hro l Bs a cap J W hc' h0).mono fun e W' ⟨he, hj⟩ => ⟨he, .inl ⟨_, (List.eq_nil_of_length_eq_zero hels.1).symm, hj⟩⟩
  · exact all1_in encs els F n h7 hro hn l Bs n₀ b off cap zs hreach hb hels J Jx W hY hc' hcs h0

end Go.Proofs.Ytafcngnophlhgaa

namespace Go.Proofs.Ytafcngnophlhgaa
open Go.RowKit Go.Shelf
attribute [local go_sem] Oper.semAt_some

/-- The number of 32 octets and true; else zero and false. -/
def UnW (l : List UInt8) (w : World) (e : Ending) (W' : World) : Prop :=
  (l.length = 32 ∧ e = .returned (.tuple #[wv (uwd l 32 0) (uwd l 32 1) (uwd l 32 2) (uwd l 32 3), .bool true]) ∧ Below w.heap.size w W') ∨
  (l.length ≠ 32 ∧ NoW w e W')
/-- Between two rounds. -/
def UnI (N : Nat) (w : World) (pre : List PX) (W : World) : Prop :=
  (Blk W N 24 (ws fun _ => 0) ∧ Blk W (N + 1) 24 (ws (unF pre))) ∧ Below N w W
theorem unI_own {N : Nat} {w : World} {B : Nat} (h : N ≤ w.heap.size) (hB : N ≤ B) : OwnFrom B (UnI N w) :=
  OwnFrom.and (Own.from (fun s X Y row hs hg hr => ⟨blk_own N 24 (fun (_ : Unit) => ws fun _ => 0) () X Y row hs.1 hg hr, blk_own (N + 1) 24 (fun s : List PX => ws (unF s)) s X Y row hs.2 hg hr⟩) _) (ownFrom_below h hB)
theorem pxs_places {l : List UInt8} (h : l.length = 32) : Places pxEnc (pxs l h) l := ⟨by rw [pxs_length, h], fun k e he => by
  obtain ⟨h2, hx⟩ := pxs_at h he
  exact ⟨_, hx, by unfold pxEnc; rw [h2]⟩⟩

set_option maxRecDepth 100000 in
set_option maxHeartbeats 4000000 in
theorem unwide_no (m : Nat) (l : List UInt8) (sv : Value) (w : World) (hl : l.length ≠ 32) (hsv : BSl 0 w.heap.size w sv l) :
    CallsIn Fence.wide m Try.prog 76 #[sv] w (NoW w) := by
  obtain ⟨a, cap, rfl, hcap, hcs⟩ := hsv
  clear hcs
  refine callsIn_of_wp_marks Try.func76 rfl trivial ?_ rfl
  simp only [Try.ntmps76, List.size_toArray, List.length_cons, List.length_nil, Nat.reduceAdd, Nat.reduceSub, Array.replicate_succ, Array.replicate_zero, List.push_toArray, List.append_toArray, List.nil_append, List.cons_append]
  have hb : (((l.length : Nat) : Int) == 32) = false := by simp; omega
  have hne : ((l.length : Nat) : Int) ≠ 32 := by omega
  have hb2 : (((l.length : Nat) : Int) != 32) = true := by simp; omega
  gi_wp2
  refine ⟨.tuple #[wv 0 0 0 0, .bool false], ?_, ?_⟩
  · simp [results, Try.f76, go_sem]
  · exact ⟨rfl, chainA (chain0 _ _) _⟩

set_option maxRecDepth 100000 in
set_option maxHeartbeats 4000000 in
theorem unwide_yes (m : Nat) (hm : 2 ≤ m) (l : List UInt8) (sv : Value) (w : World) (hl : l.length = 32) (hsv : BSl 0 w.heap.size w sv l) :
    CallsIn Fence.wide m Try.prog 76 #[sv] w fun e W' => e = .returned (.tuple #[wv (uwd l 32 0) (uwd l 32 1) (uwd l 32 2) (uwd l 32 3), .bool true]) ∧ Below w.heap.size w W' := by
  have h1 : 1 ≤ m := by omega
  have hsv0 := hsv
  obtain ⟨a, cap, rfl, hcap, hcs⟩ := hsv
  clear hcs
  have HL := Lib.hid hl
  rw [hl] at hsv0 hcap ⊢
  clear hl
  refine callsIn_of_wp_marks Try.func76 rfl trivial ?_ rfl
  simp only [Try.ntmps76, List.size_toArray, List.length_cons, List.length_nil, Nat.reduceAdd, Nat.reduceSub, Array.replicate_succ, Array.replicate_zero, List.push_toArray, List.append_toArray, List.nil_append, List.cons_append]
  gi_wp2_with (refine ⟨trivial, ?_⟩; gi_at_call 83; refine (all_in Fence.wide (m - 1) trivial rfl _ _ _ _).mono ?_; rintro e w' ⟨rfl, rfl⟩)
  generalize hW5 : World.alloc _ _ = W5
  have k0 : Blk W5 w.heap.size 24 (ws fun _ => 0) := by rw [← hW5]; exact ((Blk.new' rfl).alloc _).alloc _
  have k1 : Blk W5 (w.heap.size + 1) 24 (ws (unF [])) := by rw [← hW5]; exact (Blk.new' (by simp)).alloc _
  have k2 : Boxed W5 (w.heap.size + 1 + 1) 31 (.slice a 32 cap) := by rw [← hW5]; exact Blk.new' (vs := [_]) (by simp)
  have hB0 : Below w.heap.size w W5 := by rw [← hW5]; exact chainA (chainA (chain0 _ _) _) _
  have hz : W5.heap.size = w.heap.size + 3 := by rw [← hW5]; simp
  clear hW5
  refine wpIn_rangeFunc_ownF (S := fun ys => ys = pxs l HL.out) rfl h1 (gf := 88) (lb := #[.pointer (some ⟨w.heap.size + 1 + 1, 0, none⟩)]) rfl trivial (enters_of Try.func88 (by kernel_rfl) rfl)
    (all_stops pxEnc (pxs l HL.out) Fence.wide (m - 1) trivial rfl (by omega) (w.heap.size + 1 + 1) w.heap.size (.slice a 32 cap) l (by rw [HL.out]; omega) W5 (by omega) k2 (hsv0.below hB0 (Nat.le_refl _)) (pxs_places HL.out)) belowK_t (belowK_b (by omega)) (Below.refl _ _) (fun _ => rfl)
    (UnI w.heap.size w) (fun _ _ _ => False) (unI_own (Nat.le_refl _) (by omega)) (fun _ _ _ _ _ hs _ _ => hs)
    ⟨⟨k0, k1⟩, hB0⟩ ?_ ?_ ?_ ?_ ?_
  rotate_left
  · intro l x W K hK
    gi_wp2
    exact hK
  · rintro r pre ⟨⟨x, i⟩, hi⟩ W ⟨⟨k0, k1⟩, hB⟩ hlt
    have hi' : (i : Int) ≤ 31 := by omega
    have hq : 3 - i / 8 < 4 := by omega
    have e3 : (3 : Int) - (i : Int) / 8 = ((3 - i / 8 : Nat) : Int) := by omega
    have cs := k1.cell (3 - i / 8)
    rw [ws_at _ hq] at cs
    have cf := k1.frozen (3 - i / 8)
    have hsn := unF_snoc pre ⟨(x, i), hi⟩
    unfold unS at hsn
    have hor := or_wrap (a := unF pre (3 - i / 8)) (x := x.toNat) x.toNat_lt
    have hl1 := unF_lt pre (3 - i / 8)
    dsimp only at hsn
    have HS := Lib.hid hsn
    clear hsn
    have HO := Lib.hid hor
    clear hor
    generalize unF pre (3 - i / 8) = y at *
    generalize 3 - i / 8 = q at *
    have HE := Lib.hid e3
    gi_wp2
    rw [wr_u64 (x.toNat : Int) (by omega) (by have := x.toNat_lt; omega), HO.out]
    have kk := k1.set q (.int .u64 ((y * 256 % M ||| x.toNat : Nat) : Int))
    rw [ws_set _ hq, ← HS.out] at kk
    have hbw := (Below.refl w.heap.size W).setCell (p := ⟨w.heap.size + 1, q, none⟩) (by simp) (.int .u64 ((y * 256 % M ||| x.toNat : Nat) : Int))
    exact ⟨KeepsOthers.setCell _ _ _, hbw, ⟨k0.other q _ (by omega), kk⟩, hB.trans hbw⟩
  · rintro D ys W hD rfl ⟨⟨k0, k1⟩, hB⟩ hK
    rw [unF_all HL.out] at k1
    have c10 : W.cell? ⟨w.heap.size + 1, 0, none⟩ = some (.int .u64 (uwd l 32 0 : Nat)) := k1.cell 0
    have c11 : W.cell? ⟨w.heap.size + 1, 1, none⟩ = some (.int .u64 (uwd l 32 1 : Nat)) := k1.cell 1
    have c12 : W.cell? ⟨w.heap.size + 1, 2, none⟩ = some (.int .u64 (uwd l 32 2 : Nat)) := k1.cell 2
    have c13 : W.cell? ⟨w.heap.size + 1, 3, none⟩ = some (.int .u64 (uwd l 32 3 : Nat)) := k1.cell 3
    have c00 : W.cell? ⟨w.heap.size, 0, none⟩ = some (.int .u64 ((0 : Nat) : Int)) := k0.cell 0
    have c01 : W.cell? ⟨w.heap.size, 1, none⟩ = some (.int .u64 ((0 : Nat) : Int)) := k0.cell 1
    have c02 : W.cell? ⟨w.heap.size, 2, none⟩ = some (.int .u64 ((0 : Nat) : Int)) := k0.cell 2
    have c03 : W.cell? ⟨w.heap.size, 3, none⟩ = some (.int .u64 ((0 : Nat) : Int)) := k0.cell 3
    have f0 := k0.frozen 0
    have f1 := k0.frozen 1
    have f2 := k0.frozen 2
    have f3 := k0.frozen 3
    have HZ := Lib.hid hz
    clear hz
    generalize hs0 : uwd l 32 0 = s0 at *
    have H0 := Lib.hid hs0
    clear hs0
    generalize hs1 : uwd l 32 1 = s1 at *
    have H1 := Lib.hid hs1
    clear hs1
    generalize hs2 : uwd l 32 2 = s2 at *
    have H2 := Lib.hid hs2
    clear hs2
    generalize hs3 : uwd l 32 3 = s3 at *
    have H3 := Lib.hid hs3
    clear hs3
    gi_wp2
    have hD' : w.heap.size < D := by have := HZ.out; omega
    have KO : KeepsOthers W ((((W.setCell ⟨w.heap.size, 0, none⟩ (.int .u64 (s0 : Nat))).setCell ⟨w.heap.size, 1, none⟩ (.int .u64 (s1 : Nat))).setCell ⟨w.heap.size, 2, none⟩ (.int .u64 (s2 : Nat))).setCell ⟨w.heap.size, 3, none⟩ (.int .u64 (s3 : Nat))) :=
      (((KeepsOthers.setCell _ _ _).trans (KeepsOthers.setCell _ _ _)).trans (KeepsOthers.setCell _ _ _)).trans (KeepsOthers.setCell _ _ _)
    have hK' := KO.same D _ hK rfl
    have k2' := ((((k0.set 0 (.int .u64 (s0 : Nat))).set 1 (.int .u64 (s1 : Nat))).set 2 (.int .u64 (s2 : Nat))).set 3 (.int .u64 (s3 : Nat))).kept (grownBy_putObj' _ D (.deferred none)) (by intro e; cases e; omega)
    have r0 := k2'.cell 0
    have r1 := k2'.cell 1
    have r2 := k2'.cell 2
    have r3 := k2'.cell 3
    simp only [ws, List.set_cons_zero, List.set_cons_succ, List.getElem?_cons_zero, List.getElem?_cons_succ] at r0 r1 r2 r3
    have hB' := ((((hB.setCell (p := ⟨w.heap.size, 0, none⟩) (Nat.le_refl _) (.int .u64 (s0 : Nat))).setCell (p := ⟨w.heap.size, 1, none⟩) (Nat.le_refl _) (.int .u64 (s1 : Nat))).setCell (p := ⟨w.heap.size, 2, none⟩) (Nat.le_refl _) (.int .u64 (s2 : Nat))).setCell (p := ⟨w.heap.size, 3, none⟩) (Nat.le_refl _) (.int .u64 (s3 : Nat))).trans (belowK_b (w := w) (Nat.le_refl _) _ D _ (.deferred none) (by omega) hK' rfl rfl)
    refine ⟨by simp, .inl ⟨_, _, rfl, run_takeDeferred hK', ?_⟩⟩
    refine ⟨.tuple #[wv s0 s1 s2 s3, .bool true], ?_, ?_⟩
    · simp [results, Try.f76, go_sem, r0, r1, r2, r3]
    · exact ⟨by rw [H0.out, H1.out, H2.out, H3.out], hB'⟩
  · rintro D c pre W _ _ h _
    exact h.elim

theorem unwide_any (l : List UInt8) (sv : Value) (w : World) (hsv : BSl 0 w.heap.size w sv l) : Calls Try.prog 76 #[sv] w (UnW l w) := by
  by_cases hl : l.length = 32
  · exact (callsIn_wide.1 (unwide_yes 2 (by omega) l sv w hl hsv)).mono fun e W' h => .inl ⟨hl, h.1, h.2⟩
  · exact (callsIn_wide.1 (unwide_no 2 l sv w hl hsv)).mono fun e W' h => .inr ⟨hl, h⟩

end Go.Proofs.Ytafcngnophlhgaa

namespace Go.Proofs.Ytafcngnophlhgaa
open Go.RowKit Go.Shelf

theorem err_nil (w : World) :
    Calls Try.prog 20 #[.pointer none] w fun e W' => e = .returned (.int .i64 9) ∧ w = W' := by
  go_enter Try.func20, Try.ntmps20
  go_wp2
  go_ret
  exact ⟨rfl, rfl⟩
theorem err_at {B : Nat} {m : Bool} {sv : Value} {x : Int} (w : World) (h : Blk w B 82 [.bool m, sv, .int .i64 x]) :
    Calls Try.prog 20 #[.pointer (some ⟨B, 0, none⟩)] w fun e W' => e = .returned (.int .i64 (if m then x else 9)) ∧ w = W' := by
  obtain ⟨c0, -, c2⟩ := h.c3
  cases m
  all_goals
    go_enter Try.func20, Try.ntmps20
    go_wp2
    go_ret
    exact ⟨rfl, rfl⟩
theorem inErr_any {p : Option Addr} {s : St} (w : World) (h : ObjP 82 w p s) :
    Calls Try.prog 20 #[.pointer p] w fun e W' => e = .returned (.int .i64 s.2) ∧ w = W' := by
  rcases h with ⟨rfl, rfl⟩ | ⟨B, m, a, n, c, x, rfl, hb, ⟨rfl, rfl⟩ | ⟨rfl, rfl, _, _⟩⟩
  · exact err_nil w
  · exact err_at w hb
  · exact err_at w hb

theorem inFail_any {p : Option Addr} {s : St} (x : Int) (w : World) (h : ObjP 82 w p s) :
    Calls Try.prog 57 #[.pointer p, .int .i64 x] w (DidS 82 p (errS s x) w) := by
  by_cases hf : s.2 = 0
  · have h' := h
    rcases h with ⟨rfl, rfl⟩ | ⟨B, m, a, n, c, x0, rfl, hb, ⟨rfl, rfl⟩ | ⟨rfl, hx, hok, hsl⟩⟩
    · simp at hf
    · simp at hf
    have e1 : errS s x = ([], x) := if_pos hf
    rw [e1]
    clear e1
    have HF := Lib.hid hf
    have HX := Lib.hid hx
    clear hf hx
    obtain ⟨-, c1, c2⟩ := hb.c3
    have f1 := hb.frozen 1
    have f2 := hb.frozen 2
    go_enter Try.func57, Try.ntmps57
    go_wp2_with (go_at_call 20; refine (inErr_any _ h').mono ?_; rw [HF.out]; rintro e w' ⟨rfl, rfl⟩)
    go_end0
    refine ⟨rfl, .inr ⟨B, true, none, 0, 0, x, rfl, ?_, .inr ⟨rfl, rfl, ⟨fun _ => rfl, by simp⟩, BSl.nil _ _ _⟩⟩, ?_⟩
    · exact (hb.set 1 (.slice none 0 0)).set 2 (.int .i64 x)
    · exact (grownBy_setCell4 w B 1 _).trans (grownBy_setCell4 _ B 2 _)
  · rw [errS_bad hf]
    have hf1 : (s.2 == 0) = false := by simpa using hf
    go_enter Try.func57, Try.ntmps57
    go_wp2_with (go_at_call 20; refine (inErr_any _ h).mono ?_; rintro e w' ⟨rfl, rfl⟩)
    go_end0
    exact ⟨rfl, h, World.grownBy.refl _ _⟩
theorem inSpoil_any {p : Option Addr} {s : St} (w : World) (h : ObjP 82 w p s) :
    Calls Try.prog 36 #[.pointer p] w (DidS 82 p (errS s 16) w) := by
  go_enter Try.func36, Try.ntmps36
  go_wp2_with (go_at_call 57; refine (inFail_any _ _ h).mono ?_; rintro e w' ⟨rfl, hO, hG⟩)
  go_end0
  exact ⟨rfl, hO, hG⟩

theorem inLeft_any {p : Option Addr} {s : St} (w : World) (h : ObjP 82 w p s) :
    Calls Try.prog 21 #[.pointer p] w fun e W' => e = .returned (.int .i64 (s.1.length : Nat)) ∧ w = W' := by
  by_cases hf : s.2 = 0
  · have h' := h
    rcases h with ⟨rfl, rfl⟩ | ⟨B, m, a, n, c, x0, rfl, hb, ⟨rfl, rfl⟩ | ⟨rfl, hx, hok, hsl⟩⟩
    · simp at hf
    · simp at hf
    have hsl0 := hsl
    obtain ⟨a', c', e', _, _⟩ := hsl0
    cases e'
    have HF := Lib.hid hf
    have HX := Lib.hid hx
    clear hf hx
    obtain ⟨-, c1, c2⟩ := hb.c3
    generalize s.1.length = n at *
    go_enter Try.func21, Try.ntmps21
    go_wp2_with (go_at_call 20; refine (inErr_any _ h').mono ?_; rw [HF.out]; rintro e w' ⟨rfl, rfl⟩)
    go_ret
    exact ⟨rfl, rfl⟩
  · have hs1 := h.ok.1 hf
    have hf1 : (s.2 == 0) = false := by simpa using hf
    have hf2 : (s.2 != 0) = true := by simpa using hf
    have HS := Lib.hid hs1
    clear hs1
    go_enter Try.func21, Try.ntmps21
    go_wp2_with (go_at_call 20; refine (inErr_any _ h).mono ?_; rintro e w' ⟨rfl, rfl⟩)
    go_ret
    exact ⟨by rw [HS.out]; rfl, rfl⟩

theorem bsl_take {lo hi : Nat} {W : World} {a : Option Addr} {n c : Nat} {l : List UInt8} (h : BSl lo hi W (.slice a n c) l) {k : Nat} (hk : k ≤ l.length) : BSl lo hi W (.slice a k k) (l.take k) := by
  obtain ⟨a', c', e, hc, h0⟩ := h
  cases e
  refine ⟨a, k, by rw [List.length_take, Nat.min_eq_left hk], by rw [List.length_take]; omega, ?_⟩
  rcases h0 with rfl | ⟨b, off, ha, hl, hh, ho⟩
  · exact .inl (by simp)
  · refine .inr ⟨b, off, ha, hl, hh, fun i x hx => ho i x ?_⟩
    have hi : i < k := by have := (List.getElem?_eq_some_iff.1 hx).1; rw [List.length_take] at this; omega
    rwa [List.getElem?_take_of_lt hi] at hx
theorem bsl_drop {lo hi : Nat} {W : World} {a : Option Addr} {n c : Nat} {l : List UInt8} (h : BSl lo hi W (.slice a n c) l) {k : Nat} (hk : k ≤ l.length) : BSl lo hi W (.slice (a.map fun x => x.add k) (n - k) (c - k)) (l.drop k) := by
  obtain ⟨a', c', e, hc, h0⟩ := h
  cases e
  refine ⟨_, _, by rw [List.length_drop], by rw [List.length_drop]; omega, ?_⟩
  rcases h0 with rfl | ⟨b, off, rfl, hl, hh, ho⟩
  · exact .inl (by simp)
  · have hp : (⟨b, off, none⟩ : Addr).add k = ⟨b, off + k, none⟩ := by cases k <;> simp [Addr.add]
    refine .inr ⟨b, off + k, by simp [hp], hl, hh, fun i x hx => ?_⟩
    rw [List.getElem?_drop] at hx
    have := ho _ x hx
    rwa [← Nat.add_assoc] at this
theorem bsl_none {lo hi : Nat} {W : World} {a : Option Addr} {n c : Nat} {l : List UInt8} (h : BSl lo hi W (.slice a n c) l) {k : Nat} (hk : k ≤ l.length) (hck : c = k) : BSl lo hi W (.slice a (n - k) (c - k)) (l.drop k) := by
  obtain ⟨a', c', e, hc, h0⟩ := h
  cases e
  have e : l.drop k = [] := List.drop_of_length_le (by omega)
  rw [e]
  exact ⟨_, _, by rw [show l.length - k = 0 by omega]; rfl, by simp, .inl rfl⟩
/-- What is lent, and the state behind it. -/
def LentS (T : TypeId) (p : Option Addr) (r : List UInt8 × St) (w : World) (e : Ending) (W' : World) : Prop :=
  ∃ sv, e = .returned sv ∧ BSl 0 W'.heap.size W' sv r.1 ∧ ObjP T W' p r.2 ∧ w.grownBy W' (p.map (·.block))

set_option maxRecDepth 100000 in
set_option maxHeartbeats 1000000 in
theorem inLend_any {p : Option Addr} {s : St} (k : Nat) (hk : k ≤ 100000) (w : World) (h : ObjP 82 w p s) :
    Calls Try.prog 77 #[.pointer p, .int .i64 (k : Nat)] w (LentS 82 p (takeS s k) w) := by
  by_cases hf : s.2 = 0
  · by_cases hfit : k ≤ s.1.length
    · rw [takeS_ok hf hfit]
      have h' := h
      rcases h with ⟨rfl, rfl⟩ | ⟨B, m, a, n, c, x0, rfl, hb, ⟨rfl, rfl⟩ | ⟨rfl, hx, hok, hsl⟩⟩
      · simp at hf
      · simp at hf
      have hsl0 := hsl
      obtain ⟨a', c', e', hcap, h0⟩ := hsl0
      cases e'
      have HF := Lib.hid hf
      have HX := Lib.hid hx
      clear hf hx
      obtain ⟨-, c1, c2⟩ := hb.c3
      have f1 := hb.frozen 1
      generalize hn : s.1.length = n at *
      have HN := Lib.hid hn
      clear hn
      have hgt : ¬ ((n : Int) < (k : Int)) := by omega
      have hle : (k : Int) ≤ (n : Int) := by omega
      have hle2 : (k : Int) ≤ (c : Int) := by omega
      have hfin : ∀ V, (∃ a' n' c', V = Value.slice a' n' c') → BSl 0 w.heap.size w V (s.1.drop k) → LentS 82 (some ⟨B, 0, none⟩) (s.1.take k, s.1.drop k, 0) w (.returned (.slice a k k)) (w.setCell ⟨B, 1, none⟩ V) := by
        rintro V ⟨a', n', c', rfl⟩ hV
        have G1 := grownBy_setCell4 w B 1 (.slice a' n' c')
        have hno : ∀ r, some B = some r → NoOct w r := fun r e => by cases e; exact noOct3 hb
        refine ⟨_, rfl, ((bsl_take hsl (by rw [HN.out]; exact hfit)).to (Nat.le_refl _) G1 hno).mono (Nat.le_refl _) G1.size, .inr ⟨B, true, a', n', c', x0, rfl, hb.set 1 _, .inr ⟨rfl, HF.out.symm.trans HX.out, ⟨fun k => absurd rfl k, ?_⟩, ((hV.to (Nat.le_refl _) G1 hno).mono (Nat.le_refl _) G1.size)⟩⟩, G1⟩
        have := hok.2
        simp only [List.length_drop]; omega
      have HFIN := Lib.hid hfin
      have HDR := Lib.hid (bsl_drop hsl (k := k) (by rw [HN.out]; exact hfit))
      have HDN := Lib.hid (fun e => bsl_none hsl (k := k) (by rw [HN.out]; exact hfit) e)
      clear hfin
      by_cases hck : c = k
      · subst hck
        go_enter Try.func77, Try.ntmps77
        go_wp2_with (first
          | (go_at_call 21; refine (inLeft_any _ h').mono ?_; rw [HN.out]; rintro e w' ⟨rfl, rfl⟩)
          | (go_at_call 20; refine (inErr_any _ h').mono ?_; rw [HF.out]; rintro e w' ⟨rfl, rfl⟩))
        go_ret
        have := HFIN.out _ ⟨_, _, _, rfl⟩ (HDN.out (by trivial))
        rw [show n - c = 0 by omega, Nat.sub_self] at this
        exact this
      · go_enter Try.func77, Try.ntmps77
        go_wp2_with (first
          | (go_at_call 21; refine (inLeft_any _ h').mono ?_; rw [HN.out]; rintro e w' ⟨rfl, rfl⟩)
          | (go_at_call 20; refine (inErr_any _ h').mono ?_; rw [HF.out]; rintro e w' ⟨rfl, rfl⟩))
        go_ret
        exact HFIN.out _ ⟨_, _, _, rfl⟩ HDR.out
    · rw [takeS_short hf (by omega)]
      have hgt : (s.1.length : Int) < (k : Int) := by omega
      have e5 := Lib.hid (show errS s 16 = ([], 16) from if_pos hf)
      clear hf
      go_enter Try.func77, Try.ntmps77
      go_wp2_with (first
        | (go_at_call 21; refine (inLeft_any _ h).mono ?_; rintro e w' ⟨rfl, rfl⟩)
        | (go_at_call 57; refine (inFail_any _ _ h).mono ?_; rw [e5.out]; rintro e w1 ⟨rfl, hO, hG⟩)
        | (go_at_call 20; refine (inErr_any _ hO).mono ?_; rintro e w' ⟨rfl, rfl⟩))
      go_ret
      exact ⟨_, rfl, BSl.nil _ _ _, hO, hG⟩
  · rw [takeS_bad hf]
    have hs1 := h.ok.1 hf
    have hf1 : (s.2 == 0) = false := by simpa using hf
    have hf2 : (s.2 != 0) = true := by simpa using hf
    have HE := Lib.hid (errS_bad hf 16)
    have HL : Hid ((s.1.length : Nat) = 0) := by rw [hs1]; exact Lib.hid rfl
    clear hs1 hf
    by_cases h0 : k = 0
    · subst h0
      go_enter Try.func77, Try.ntmps77
      go_wp2_with (first
        | (go_at_call 21; refine (inLeft_any _ h).mono ?_; rw [HL.out]; rintro e w' ⟨rfl, rfl⟩)
        | (go_at_call 20; refine (inErr_any _ h).mono ?_; rintro e w' ⟨rfl, rfl⟩))
      go_ret
      exact ⟨_, rfl, BSl.nil _ _ _, h, World.grownBy.refl _ _⟩
    · have hgt : (0 : Int) < (k : Int) := by omega
      go_enter Try.func77, Try.ntmps77
      go_wp2_with (first
        | (go_at_call 21; refine (inLeft_any _ h).mono ?_; rw [HL.out]; rintro e w' ⟨rfl, rfl⟩)
        | (go_at_call 57; refine (inFail_any _ _ h).mono ?_; rw [HE.out]; rintro e w1 ⟨rfl, hO, hG⟩)
        | (go_at_call 20; refine (inErr_any _ hO).mono ?_; rintro e w' ⟨rfl, rfl⟩))
      go_ret
      exact ⟨_, rfl, BSl.nil _ _ _, hO, hG⟩

/-- A number is read, or none; the state behind it. -/
def NumS (T : TypeId) (p : Option Addr) (r : Nat × St) (w : World) (e : Ending) (W' : World) : Prop :=
  e = .returned (.int .i64 (r.1 : Nat)) ∧ ObjP T W' p r.2 ∧ w.grownBy W' (p.map (·.block))
theorem be7_le (l : List UInt8) : be (l.take 7) ≤ 72057594037927935 := by
  have := be_lt' (l := l.take 7) (k := 7) (by rw [List.length_take]; omega)
  omega

set_option maxRecDepth 100000 in
theorem inMost_any {p : Option Addr} {s : St} (size : Nat) (most : Int) (hk : size ≤ 100000) (w : World) (h : ObjP 82 w p s) :
    Calls Try.prog 75 #[.pointer p, .int .i64 (size : Nat), .int .i64 most] w (NumS 82 p (mostS s size most) w) := by
  have hl := takeS_len s size
  have hb7 := be7_le (takeS s size).1
  have he : (takeS s size).2.2 ≠ 0 → be ((takeS s size).1.take 7) = 0 := fun e => by rw [takeS_err e]; rfl
  have H := inLend_any (p := p) size hk w h
  unfold mostS
  generalize takeS s size = r at *
  have HB := Lib.hid (fun sv w1 hs => blobInt_any r.1 sv w1 (by omega) hs)
  generalize be (r.1.take 7) = b at *
  by_cases hlt : most < (b : Int)
  · by_cases hf : r.2.2 = 0
    · rw [if_pos ⟨hf, hlt⟩]
      have e5 := Lib.hid (show errS r.2 4 = ([], 4) from if_pos hf)
      clear hf he
      go_enter Try.func75, Try.ntmps75
      go_wp2_with (first
        | (go_at_call 77; refine H.mono ?_; rintro e w1 ⟨v, rfl, hv, hO1, hG1⟩)
        | (go_at_call 82; refine (HB.out _ _ hv).mono ?_; rintro e w2 ⟨rfl, hb2⟩)
        | (go_at_call 57; refine (inFail_any _ _ (hO1.below hb2)).mono ?_; rw [e5.out]; rintro e w3 ⟨rfl, hO3, hG3⟩))
      go_ret
      exact ⟨rfl, hO3, (hG1.trans (grew hb2 _)).trans hG3⟩
    · rw [if_neg (fun e => hf e.1)]
      obtain rfl := he hf
      have e5 := Lib.hid (errS_bad hf 4)
      clear hf he
      go_enter Try.func75, Try.ntmps75
      go_wp2_with (first
        | (go_at_call 77; refine H.mono ?_; rintro e w1 ⟨v, rfl, hv, hO1, hG1⟩)
        | (go_at_call 82; refine (HB.out _ _ hv).mono ?_; rintro e w2 ⟨rfl, hb2⟩)
        | (go_at_call 57; refine (inFail_any _ _ (hO1.below hb2)).mono ?_; rw [e5.out]; rintro e w3 ⟨rfl, hO3, hG3⟩))
      go_ret
      exact ⟨rfl, hO3, (hG1.trans (grew hb2 _)).trans hG3⟩
  · rw [if_neg (fun e => hlt e.2)]
    clear he
    go_enter Try.func75, Try.ntmps75
    go_wp2_with (first
      | (go_at_call 77; refine H.mono ?_; rintro e w1 ⟨v, rfl, hv, hO1, hG1⟩)
      | (go_at_call 82; refine (HB.out _ _ hv).mono ?_; rintro e w2 ⟨rfl, hb2⟩))
    go_ret
    exact ⟨rfl, hO1.below hb2, hG1.trans (grew hb2 _)⟩

theorem inNumP_any {p : Option Addr} {s : St} (most m : Int) (hm : (1099511627776 < most ∧ m = 1099511627776) ∨ (¬ 1099511627776 < most ∧ m = most)) (w : World) (h : ObjP 82 w p s) :
    Calls Try.prog 61 #[.pointer p, .int .i64 most] w (NumS 82 p (mostS s 6 m) w) := by
  have H : Calls Try.prog 75 #[.pointer p, .int .i64 6, .int .i64 m] w (NumS 82 p (mostS s 6 m) w) := inMost_any (p := p) 6 m (by omega) w h
  rcases hm with ⟨hc, rfl⟩ | ⟨hc, rfl⟩
  all_goals
    go_enter Try.func61, Try.ntmps61
    go_wp2_with (go_at_call 75; refine H.mono ?_; rintro e w1 ⟨rfl, hO1, hG1⟩)
    go_ret
    exact ⟨rfl, hO1, hG1⟩
theorem inNum_any {p : Option Addr} {s : St} (most : Int) (w : World) (h : ObjP 82 w p s) :
    Calls Try.prog 61 #[.pointer p, .int .i64 most] w (NumS 82 p (mostS s 6 (min most 1099511627776)) w) := inNumP_any most _ (by omega) w h

/-- A text is read, or none; the state behind it. -/
def TxtS (T : TypeId) (p : Option Addr) (r : List UInt8 × St) (w : World) (e : Ending) (W' : World) : Prop :=
  e = .returned (.string ⟨r.1.toArray⟩) ∧ ObjP T W' p r.2 ∧ w.grownBy W' (p.map (·.block))
theorem be2_le (l : List UInt8) (h : l.length ≤ 2) : be (l.take 7) ≤ 65535 := by
  have := be_lt' (l := l.take 7) (k := 2) (by rw [List.length_take]; omega)
  omega
theorem most2_le (s : St) (m : Int) : (mostS s 2 m).1 ≤ 65535 := by
  unfold mostS; split
  · simp
  · exact be2_le _ (takeS_len _ _)
theorem inTextP_any {p : Option Addr} {s : St} (most m : Int) (hm : (1024 < most ∧ m = 1024) ∨ (¬ 1024 < most ∧ m = most)) (w : World) (h : ObjP 82 w p s) :
    Calls Try.prog 65 #[.pointer p, .int .i64 most] w (TxtS 82 p (gtxtS s m) w) := by
  have H : Calls Try.prog 75 #[.pointer p, .int .i64 2, .int .i64 m] w (NumS 82 p (mostS s 2 m) w) := inMost_any (p := p) 2 m (by omega) w h
  have h6 := most2_le s m
  unfold gtxtS
  generalize mostS s 2 m = r at *
  rcases hm with ⟨hc, rfl⟩ | ⟨hc, rfl⟩
  all_goals
    go_enter Try.func65, Try.ntmps65
    go_wp2_with (first
      | (go_at_call 75; refine H.mono ?_; rintro e w1 ⟨rfl, hO1, hG1⟩)
      | (go_at_call 77; refine (inLend_any r.1 (by omega) w1 hO1).mono ?_; rintro e w2 ⟨v, rfl, hv, hO2, hG2⟩; have hst := run_string (P := Try.prog) 31 5 9 Try.underlying31 Try.underlying5 Try.underlying9 w2 hv))
    go_ret
    exact ⟨rfl, hO2, hG1.trans hG2⟩
theorem inText_any {p : Option Addr} {s : St} (most : Int) (w : World) (h : ObjP 82 w p s) :
    Calls Try.prog 65 #[.pointer p, .int .i64 most] w (TxtS 82 p (gtxtS s (min most 1024)) w) := inTextP_any most _ (by omega) w h

/-- A wide number is read, or none. -/
def WidS (T : TypeId) (p : Option Addr) (r : List UInt8 × St) (w : World) (e : Ending) (W' : World) : Prop :=
  e = .returned (wv (wdS r.1 0) (wdS r.1 1) (wdS r.1 2) (wdS r.1 3)) ∧ ObjP T W' p r.2 ∧ w.grownBy W' (p.map (·.block))
theorem unwideS_any (l : List UInt8) (sv : Value) (w : World) (hsv : BSl 0 w.heap.size w sv l) :
    Calls Try.prog 76 #[sv] w fun e W' => e = .returned (.tuple #[wv (wdS l 0) (wdS l 1) (wdS l 2) (wdS l 3), .bool (decide (l.length = 32))]) ∧ Below w.heap.size w W' := by
  refine (unwide_any l sv w hsv).mono ?_
  rintro e W' (⟨h, he, hb⟩ | ⟨h, he, hb⟩)
  · exact ⟨by rw [he]; unfold wdS; simp only [h, if_true, decide_true], hb⟩
  · exact ⟨by rw [he]; unfold wdS; simp only [h, if_false, decide_false], hb⟩
/-- Words are stored into a block of the call's own. -/
theorem wide_stored {T Tw : TypeId} {p : Option Addr} {s : St} {w w0 w1 w2 : World} {a0 a1 a2 a3 : Int} {b0 b1 b2 b3 : Int} (hO : ObjP T w1 p s) (hG0 : w.grownBy w0 (p.map (·.block))) (hG1 : w0.grownBy w1 (p.map (·.block))) (hb2 : Below w1.heap.size w1 w2) (o : Obj)
    (kR : Blk w2 w.heap.size Tw [.int .u64 b0, .int .u64 b1, .int .u64 b2, .int .u64 b3]) (hne : some w.heap.size ≠ p.map (·.block)) :
    Blk (((((w2.alloc o).setCell ⟨w.heap.size, 0, none⟩ (.int .u64 a0)).setCell ⟨w.heap.size, 1, none⟩ (.int .u64 a1)).setCell ⟨w.heap.size, 2, none⟩ (.int .u64 a2)).setCell ⟨w.heap.size, 3, none⟩ (.int .u64 a3)) w.heap.size Tw [.int .u64 a0, .int .u64 a1, .int .u64 a2, .int .u64 a3] ∧
    ObjP T (((((w2.alloc o).setCell ⟨w.heap.size, 0, none⟩ (.int .u64 a0)).setCell ⟨w.heap.size, 1, none⟩ (.int .u64 a1)).setCell ⟨w.heap.size, 2, none⟩ (.int .u64 a2)).setCell ⟨w.heap.size, 3, none⟩ (.int .u64 a3)) p s ∧
    w.grownBy (((((w2.alloc o).setCell ⟨w.heap.size, 0, none⟩ (.int .u64 a0)).setCell ⟨w.heap.size, 1, none⟩ (.int .u64 a1)).setCell ⟨w.heap.size, 2, none⟩ (.int .u64 a2)).setCell ⟨w.heap.size, 3, none⟩ (.int .u64 a3)) (p.map (·.block)) := by
  have k0 := kR.alloc o
  have k1 := k0.set 0 (.int .u64 a0)
  have k2 := k1.set 1 (.int .u64 a1)
  have k3 := k2.set 2 (.int .u64 a2)
  have k4 := k3.set 3 (.int .u64 a3)
  have O0 : ObjP T (w2.alloc o) p s := (hO.below hb2).below (chain0 _ _)
  have st : ∀ (W : World) (i : Nat) (v : Value), NoOct W w.heap.size → ObjP T W p s → ObjP T (W.setCell ⟨w.heap.size, i, none⟩ v) p s := fun W i v hno h => h.to (grownBy_setCell4 W w.heap.size i v) (fun r e => by cases e; exact ⟨hno, fun e => hne e.symm⟩)
  have O1 := st _ 0 (.int .u64 a0) (noOct4 k0) O0
  have O2 := st _ 1 (.int .u64 a1) (noOct4 k1) O1
  have O3 := st _ 2 (.int .u64 a2) (noOct4 k2) O2
  have O4 := st _ 3 (.int .u64 a3) (noOct4 k3) O3
  have G0 : w.grownBy (w2.alloc o) (p.map (·.block)) := ((hG0.trans hG1).trans (grew hb2 _)).trans (World.grownBy_alloc _ _ _)
  have sg : ∀ (W : World) (i : Nat) (v : Value), w.grownBy W (p.map (·.block)) → w.grownBy (W.setCell ⟨w.heap.size, i, none⟩ v) (p.map (·.block)) := fun W i v h => h.andThen (grownBy_setCell4 W w.heap.size i v) (fun j e => by cases e; exact .inl (Nat.le_refl _))
  exact ⟨k4, O4, sg _ _ _ (sg _ _ _ (sg _ _ _ (sg _ _ _ G0)))⟩
set_option maxRecDepth 100000 in
set_option maxHeartbeats 1000000 in
theorem inWide_any {p : Option Addr} {s : St} (w : World) (h : ObjP 82 w p s) :
    Calls Try.prog 62 #[.pointer p] w (WidS 82 p (takeS s 32) w) := by
  have hne := ptr_lt h (Nat.le_refl _)
  have hO0 := h.below (chain0 w (.cells #[.int .u64 0, .int .u64 0, .int .u64 0, .int .u64 0] 24))
  have kR0 : Blk (w.alloc (.cells #[.int .u64 0, .int .u64 0, .int .u64 0, .int .u64 0] 24)) w.heap.size 24 [.int .u64 0, .int .u64 0, .int .u64 0, .int .u64 0] := Blk.new w _ [_, _, _, _]
  have hG0 : w.grownBy (w.alloc (.cells #[.int .u64 0, .int .u64 0, .int .u64 0, .int .u64 0] 24)) (p.map (·.block)) := World.grownBy_alloc _ _ _
  have H := inLend_any (p := p) 32 (by omega) _ hO0
  generalize takeS s 32 = r at *
  have HU := Lib.hid (fun sv w1 hs => unwideS_any r.1 sv w1 hs)
  have HN := Lib.hid hne
  clear h hO0 hne
  generalize hq0 : wdS r.1 0 = a0 at *
  have HQ0 := Lib.hid hq0
  clear hq0
  generalize hq1 : wdS r.1 1 = a1 at *
  have HQ1 := Lib.hid hq1
  clear hq1
  generalize hq2 : wdS r.1 2 = a2 at *
  have HQ2 := Lib.hid hq2
  clear hq2
  generalize hq3 : wdS r.1 3 = a3 at *
  have HQ3 := Lib.hid hq3
  clear hq3
  generalize (decide (r.1.length = 32)) = bb at *
  go_enter Try.func62, Try.ntmps62
  go_wp2_with (first
    | (go_at_call 77; refine H.mono ?_; rintro e w1 ⟨v, rfl, hv, hO1, hG1⟩)
    | (go_at_call 76; refine (HU.out _ _ hv).mono ?_; rintro e w2 ⟨rfl, hb2⟩; have kR2 := (kR0.kept hG1 HN.out).below hb2 (kR0.kept hG1 HN.out).lt; have r0 := fun o => (Blk.c4 (kR2.alloc o)).1; have r1 := fun o => (Blk.c4 (kR2.alloc o)).2.1; have r2 := fun o => (Blk.c4 (kR2.alloc o)).2.2.1; have r3 := fun o => (Blk.c4 (kR2.alloc o)).2.2.2; have g0 := fun o => (kR2.alloc o).frozen 0; have g1 := fun o => (kR2.alloc o).frozen 1; have g2 := fun o => (kR2.alloc o).frozen 2; have g3 := fun o => (kR2.alloc o).frozen 3))
  obtain ⟨kR3, hO3, hG3⟩ := wide_stored (p := p) hO1 hG0 hG1 hb2 (.cells #[.int .u64 a0, .int .u64 a1, .int .u64 a2, .int .u64 a3] 24) kR2 HN.out (a0 := a0) (a1 := a1) (a2 := a2) (a3 := a3)
  obtain ⟨q0, q1, q2, q3⟩ := Blk.c4 kR3
  exact bodyPost_ret (v := wv a0 a1 a2 a3) (by simp [results, Try.results62, go_sem, q0, q1, q2, q3]) rfl ⟨by rw [HQ0.out, HQ1.out, HQ2.out, HQ3.out], hO3, hG3⟩

/-- An In of octets. -/
def openS (l : List UInt8) : St := if l.length ≤ 8192 then (l, 0) else ([], 5)
theorem openS_ok (l : List UInt8) : OkS (openS l) := by
  unfold openS; split
  · exact ⟨fun k => absurd rfl k, by simpa using ‹_›⟩
  · exact ⟨fun _ => rfl, by simp⟩
theorem inOpen_any (l : List UInt8) (sv : Value) (w : World) (hl : l.length ≤ 140737488351232) (hsv : BSl 0 w.heap.size w sv l) :
    Calls Try.prog 18 #[sv] w fun e W' => ∃ NB, e = .returned (.pointer (some ⟨NB, 0, none⟩)) ∧ w.heap.size ≤ NB ∧ ObjP 82 W' (some ⟨NB, 0, none⟩) (openS l) ∧ Below w.heap.size w W' := by
  obtain ⟨a, c, rfl, -⟩ := hsv.shape
  have HOK := openS_ok l
  unfold openS at *
  generalize hn : l.length = n at *
  have HN := Lib.hid hn
  clear hn
  by_cases hfit : n ≤ 8192
  · rw [if_pos hfit] at *
    have hgt : ¬ (8192 : Int) < (n : Int) := by omega
    go_enter Try.func18, Try.ntmps18
    go_wp2_with (go_at_call 42; refine (clone_any l _ w (by rw [HN.out]; omega) hsv (Nat.le_refl _)).mono ?_; rintro e w1 ⟨v, rfl, hv, hb1⟩; obtain ⟨va, vm, vc, rfl⟩ := (BSl.of_own hv).shape3)
    go_ret
    have hB := chainA hb1 (.cells #[.bool true, .slice va vm vc, .int .i64 0] 82)
    have hB1 := chain0 w1 (.cells #[.bool true, .slice va vm vc, .int .i64 0] 82)
    exact ⟨w1.heap.size, rfl, hb1.size, .inr ⟨_, true, va, vm, vc, 0, rfl, Blk.new w1 _ [_, _, _], .inr ⟨rfl, rfl, HOK, (((BSl.of_own hv).below hB1 (Nat.le_refl _)).mono (Nat.zero_le _) hB1.size)⟩⟩, hB⟩
  · rw [if_neg hfit] at *
    have hgt : (8192 : Int) < (n : Int) := by omega
    go_enter Try.func18, Try.ntmps18
    go_wp2
    go_ret
    exact ⟨w.heap.size, rfl, Nat.le_refl _, .inr ⟨_, true, none, 0, 0, 5, rfl, Blk.new w _ [_, _, _], .inr ⟨rfl, rfl, HOK, BSl.nil _ _ _⟩⟩, chain0 _ _⟩
end Go.Proofs.Ytafcngnophlhgaa

namespace Go.Proofs.Ytafcngnophlhgaa
open Go.RowKit Go.Shelf

theorem grown_set {w W : World} {row : Option Nat} {B i : Nat} {v : Value} (h : w.grownBy W row) (hB : w.heap.size ≤ B) : w.grownBy (W.setCell ⟨B, i, none⟩ v) row := by
  have g := grownBy_setCell4 W B i v
  exact ⟨g.os.trans h.os, g.tape.trans h.tape, g.output.trans h.output, Nat.le_trans h.size g.size, fun k hk hr => (g.block k (Nat.lt_of_lt_of_le hk h.size) (by intro e; cases e; omega)).trans (h.block k hk hr)⟩
theorem noBv_i (x : Int) (y : UInt8) : (.int .i64 x : Value) ≠ bv y := by simp [bv]
theorem noBv_s (x : ByteArray) (y : UInt8) : (.string x : Value) ≠ bv y := by simp [bv]
theorem noBv_u (x : Int) (y : UInt8) : (.int .u64 x : Value) ≠ bv y := by simp [bv]
/-- One thing is stored beside an object. -/
theorem objP_one {T : TypeId} {W : World} {p : Option Addr} {s : St} {B k : Nat} {v : Value} (h : ObjP T W p s) (hno : NoOct W B) (hne : some B ≠ p.map (·.block)) : ObjP T (W.setCell ⟨B, k, none⟩ v) p s :=
  h.to (grownBy_setCell4 W B k v) (fun r e => by cases e; exact ⟨hno, fun e => hne e.symm⟩)
theorem errS_ne (s : St) : (errS s 16).2 ≠ 0 := by
  unfold errS; split
  · simp
  · assumption
end Go.Proofs.Ytafcngnophlhgaa

namespace Go.Proofs.Ytafcngnophlhgaa
open Go.RowKit Go.Shelf

theorem noOct7 {W : World} {B : Nat} {T : TypeId} {i : Trf} (h : Blk W B T (ivc i)) : NoOct W B := noOct_blk h (by
  intro v hv y
  simp only [ivc, List.mem_cons, List.not_mem_nil, or_false] at hv
  rcases hv with rfl | rfl | rfl | rfl | rfl | rfl | rfl <;> simp [bv])
theorem noOct5 {W : World} {B : Nat} {T : TypeId} {i : Sid} (h : Blk W B T (svc i)) : NoOct W B := noOct_blk h (by
  intro v hv y
  simp only [svc, List.mem_cons, List.not_mem_nil, or_false] at hv
  rcases hv with rfl | rfl | rfl | rfl | rfl <;> simp [bv])
theorem stored7 {T : TypeId} {p : Option Addr} {s : St} {w Y : World} {R : Nat} {i : Trf} (hO : ObjP T Y p s) (hG : w.grownBy Y (p.map (·.block))) (kR : Blk Y R 26 (ivc i)) (hR : w.heap.size ≤ R) (hne : some R ≠ p.map (·.block)) (x : Trf) :
    Blk (((((((Y.setCell ⟨R, 0, none⟩ (.int .i64 x.us)).setCell ⟨R, 1, none⟩ (.string x.rt)).setCell ⟨R, 2, none⟩ (.int .i64 x.ro)).setCell ⟨R, 3, none⟩ (.int .i64 x.se)).setCell ⟨R, 4, none⟩ (.int .i64 x.re)).setCell ⟨R, 5, none⟩ (.int .i64 x.to)).setCell ⟨R, 6, none⟩ (.string x.id)) R 26 (ivc x) ∧ ObjP T (((((((Y.setCell ⟨R, 0, none⟩ (.int .i64 x.us)).setCell ⟨R, 1, none⟩ (.string x.rt)).setCell ⟨R, 2, none⟩ (.int .i64 x.ro)).setCell ⟨R, 3, none⟩ (.int .i64 x.se)).setCell ⟨R, 4, none⟩ (.int .i64 x.re)).setCell ⟨R, 5, none⟩ (.int .i64 x.to)).setCell ⟨R, 6, none⟩ (.string x.id)) p s ∧ w.grownBy (((((((Y.setCell ⟨R, 0, none⟩ (.int .i64 x.us)).setCell ⟨R, 1, none⟩ (.string x.rt)).setCell ⟨R, 2, none⟩ (.int .i64 x.ro)).setCell ⟨R, 3, none⟩ (.int .i64 x.se)).setCell ⟨R, 4, none⟩ (.int .i64 x.re)).setCell ⟨R, 5, none⟩ (.int .i64 x.to)).setCell ⟨R, 6, none⟩ (.string x.id)) (p.map (·.block)) := by
  have st : ∀ (vs : List Value) (W : World) (k : Nat) (v : Value), Blk W R 26 vs → (∀ u ∈ vs, ∀ y, u ≠ bv y) → (∀ y, v ≠ bv y) → ObjP T W p s → w.grownBy W (p.map (·.block)) →
      Blk (W.setCell ⟨R, k, none⟩ v) R 26 (vs.set k v) ∧ (∀ u ∈ vs.set k v, ∀ y, u ≠ bv y) ∧ ObjP T (W.setCell ⟨R, k, none⟩ v) p s ∧ w.grownBy (W.setCell ⟨R, k, none⟩ v) (p.map (·.block)) := by
    intro vs W k v kW hno hv h g
    refine ⟨kW.set k v, fun u hu => ?_, h.to (grownBy_setCell4 W R k v) (fun r e => by cases e; exact ⟨noOct_blk kW hno, fun e => hne e.symm⟩), grown_set g hR⟩
    rcases List.mem_or_eq_of_mem_set hu with h1 | rfl
    · exact hno u h1
    · exact hv
  have h0 : ∀ u ∈ ivc i, ∀ y, u ≠ bv y := by
    intro u hu y
    simp only [ivc, List.mem_cons, List.not_mem_nil, or_false] at hu
    rcases hu with rfl | rfl | rfl | rfl | rfl | rfl | rfl <;> simp [bv]
  obtain ⟨k0, n0, o0, g0⟩ := st _ _ 0 (.int .i64 x.us) kR h0 (by intro y; simp [bv]) hO hG
  obtain ⟨k1, n1, o1, g1⟩ := st _ _ 1 (.string x.rt) k0 n0 (by intro y; simp [bv]) o0 g0
  obtain ⟨k2, n2, o2, g2⟩ := st _ _ 2 (.int .i64 x.ro) k1 n1 (by intro y; simp [bv]) o1 g1
  obtain ⟨k3, n3, o3, g3⟩ := st _ _ 3 (.int .i64 x.se) k2 n2 (by intro y; simp [bv]) o2 g2
  obtain ⟨k4, n4, o4, g4⟩ := st _ _ 4 (.int .i64 x.re) k3 n3 (by intro y; simp [bv]) o3 g3
  obtain ⟨k5, n5, o5, g5⟩ := st _ _ 5 (.int .i64 x.to) k4 n4 (by intro y; simp [bv]) o4 g4
  obtain ⟨k6, n6, o6, g6⟩ := st _ _ 6 (.string x.id) k5 n5 (by intro y; simp [bv]) o5 g5
  exact ⟨k6, o6, g6⟩
theorem stored5 {T : TypeId} {p : Option Addr} {s : St} {w Y : World} {R : Nat} {i : Sid} (hO : ObjP T Y p s) (hG : w.grownBy Y (p.map (·.block))) (kR : Blk Y R 28 (svc i)) (hR : w.heap.size ≤ R) (hne : some R ≠ p.map (·.block)) (x : Sid) :
    Blk (((((Y.setCell ⟨R, 0, none⟩ (.int .u64 (x.a0 : Nat))).setCell ⟨R, 1, none⟩ (.int .u64 (x.a1 : Nat))).setCell ⟨R, 2, none⟩ (.int .u64 (x.a2 : Nat))).setCell ⟨R, 3, none⟩ (.int .u64 (x.a3 : Nat))).setCell ⟨R, 4, none⟩ (.int .i64 x.x)) R 28 (svc x) ∧ ObjP T (((((Y.setCell ⟨R, 0, none⟩ (.int .u64 (x.a0 : Nat))).setCell ⟨R, 1, none⟩ (.int .u64 (x.a1 : Nat))).setCell ⟨R, 2, none⟩ (.int .u64 (x.a2 : Nat))).setCell ⟨R, 3, none⟩ (.int .u64 (x.a3 : Nat))).setCell ⟨R, 4, none⟩ (.int .i64 x.x)) p s ∧ w.grownBy (((((Y.setCell ⟨R, 0, none⟩ (.int .u64 (x.a0 : Nat))).setCell ⟨R, 1, none⟩ (.int .u64 (x.a1 : Nat))).setCell ⟨R, 2, none⟩ (.int .u64 (x.a2 : Nat))).setCell ⟨R, 3, none⟩ (.int .u64 (x.a3 : Nat))).setCell ⟨R, 4, none⟩ (.int .i64 x.x)) (p.map (·.block)) := by
  have st : ∀ (vs : List Value) (W : World) (k : Nat) (v : Value), Blk W R 28 vs → (∀ u ∈ vs, ∀ y, u ≠ bv y) → (∀ y, v ≠ bv y) → ObjP T W p s → w.grownBy W (p.map (·.block)) →
      Blk (W.setCell ⟨R, k, none⟩ v) R 28 (vs.set k v) ∧ (∀ u ∈ vs.set k v, ∀ y, u ≠ bv y) ∧ ObjP T (W.setCell ⟨R, k, none⟩ v) p s ∧ w.grownBy (W.setCell ⟨R, k, none⟩ v) (p.map (·.block)) := by
    intro vs W k v kW hno hv h g
    refine ⟨kW.set k v, fun u hu => ?_, h.to (grownBy_setCell4 W R k v) (fun r e => by cases e; exact ⟨noOct_blk kW hno, fun e => hne e.symm⟩), grown_set g hR⟩
    rcases List.mem_or_eq_of_mem_set hu with h1 | rfl
    · exact hno u h1
    · exact hv
  have h0 : ∀ u ∈ svc i, ∀ y, u ≠ bv y := by
    intro u hu y
    simp only [svc, List.mem_cons, List.not_mem_nil, or_false] at hu
    rcases hu with rfl | rfl | rfl | rfl | rfl <;> simp [bv]
  obtain ⟨k0, n0, o0, g0⟩ := st _ _ 0 (.int .u64 (x.a0 : Nat)) kR h0 (by intro y; simp [bv]) hO hG
  obtain ⟨k1, n1, o1, g1⟩ := st _ _ 1 (.int .u64 (x.a1 : Nat)) k0 n0 (by intro y; simp [bv]) o0 g0
  obtain ⟨k2, n2, o2, g2⟩ := st _ _ 2 (.int .u64 (x.a2 : Nat)) k1 n1 (by intro y; simp [bv]) o1 g1
  obtain ⟨k3, n3, o3, g3⟩ := st _ _ 3 (.int .u64 (x.a3 : Nat)) k2 n2 (by intro y; simp [bv]) o2 g2
  obtain ⟨k4, n4, o4, g4⟩ := st _ _ 4 (.int .i64 x.x) k3 n3 (by intro y; simp [bv]) o3 g3
  exact ⟨k4, o4, g4⟩
theorem stored5z {T : TypeId} {p : Option Addr} {s : St} {w Y : World} {R : Nat} {i : Sid} (hO : ObjP T Y p s) (hG : w.grownBy Y (p.map (·.block))) (kR : Blk Y R 28 (svc i)) (hR : w.heap.size ≤ R) (hne : some R ≠ p.map (·.block)) :
    Blk (((((Y.setCell ⟨R, 0, none⟩ (.int .u64 0)).setCell ⟨R, 1, none⟩ (.int .u64 0)).setCell ⟨R, 2, none⟩ (.int .u64 0)).setCell ⟨R, 3, none⟩ (.int .u64 0)).setCell ⟨R, 4, none⟩ (.int .i64 0)) R 28 [.int .u64 0, .int .u64 0, .int .u64 0, .int .u64 0, .int .i64 0] ∧ ObjP T (((((Y.setCell ⟨R, 0, none⟩ (.int .u64 0)).setCell ⟨R, 1, none⟩ (.int .u64 0)).setCell ⟨R, 2, none⟩ (.int .u64 0)).setCell ⟨R, 3, none⟩ (.int .u64 0)).setCell ⟨R, 4, none⟩ (.int .i64 0)) p s ∧ w.grownBy (((((Y.setCell ⟨R, 0, none⟩ (.int .u64 0)).setCell ⟨R, 1, none⟩ (.int .u64 0)).setCell ⟨R, 2, none⟩ (.int .u64 0)).setCell ⟨R, 3, none⟩ (.int .u64 0)).setCell ⟨R, 4, none⟩ (.int .i64 0)) (p.map (·.block)) := stored5 hO hG kR hR hne ⟨0, 0, 0, 0, 0⟩

/-- A transfer is read, or none; the state behind it. -/
def GotI (T : TypeId) (p : Option Addr) (r : Trf × St) (w : World) (e : Ending) (W' : World) : Prop :=
  e = .returned (ivv r.1) ∧ ObjP T W' p r.2 ∧ w.grownBy W' (p.map (·.block))
def GotV (T : TypeId) (p : Option Addr) (r : Sid × St) (w : World) (e : Ending) (W' : World) : Prop :=
  e = .returned (svv r.1) ∧ ObjP T W' p r.2 ∧ w.grownBy W' (p.map (·.block))
theorem getI_yes {s : St} (h : (rd7 s).2.2 = 0) (g : goodI s) : getI s = (rawI s, (rd7 s).2) := if_pos ⟨h, g⟩
theorem getI_bad {s : St} (h : (rd7 s).2.2 ≠ 0) : getI s = (noI, (rd7 s).2) := by unfold getI; rw [if_neg (fun e => h e.1), errS_bad h]
theorem getI_no {s : St} (h : ¬ goodI s) : getI s = (noI, errS (rd7 s).2 16) := if_neg fun e => h e.2
theorem getV_yes {s : St} (h : (vd1 s).2.2 = 0) (g : maybeV (rawV s)) : getV s = (rawV s, (vd1 s).2) := if_pos ⟨h, g⟩
theorem getV_bad {s : St} (h : (vd1 s).2.2 ≠ 0) : getV s = (noV, (vd1 s).2) := by unfold getV; rw [if_neg (fun e => h e.1), errS_bad h]
theorem getV_no {s : St} (h : ¬ maybeV (rawV s)) : getV s = (noV, errS (vd1 s).2 16) := if_neg fun e => h e.2

set_option maxRecDepth 100000 in
set_option maxHeartbeats 4000000 in
theorem dealGet_any {p : Option Addr} {s : St} (w : World) (h : ObjP 82 w p s) :
    Calls Try.prog 63 #[.pointer p] w (GotI 82 p (getI s) w) := by
  have HT := fun (st : St) (W : World) (n : Int) (hn : n ≤ 1024) (hO : ObjP 82 W p st) => inTextP_any (p := p) n n (Or.inr ⟨by omega, rfl⟩) W hO
  have HN := fun (st : St) (W : World) (hO : ObjP 82 W p st) => inNumP_any (p := p) 1099511627776 1099511627776 (Or.inr ⟨by omega, rfl⟩) W hO
  have H0 : Hid (∀ W, ObjP 82 W p s → Calls Try.prog 65 #[.pointer p, .int .i64 16] W (TxtS 82 p (rd0 s) W)) := Lib.hid fun W hO => HT _ W 16 (by omega) hO
  have H1 : Hid (∀ W, ObjP 82 W p (rd0 s).2 → Calls Try.prog 61 #[.pointer p, .int .i64 1099511627776] W (NumS 82 p (rd1 s) W)) := Lib.hid fun W hO => HN _ W hO
  have H2 : Hid (∀ W, ObjP 82 W p (rd1 s).2 → Calls Try.prog 65 #[.pointer p, .int .i64 8] W (TxtS 82 p (rd2 s) W)) := Lib.hid fun W hO => HT _ W 8 (by omega) hO
  have H3 : Hid (∀ W, ObjP 82 W p (rd2 s).2 → Calls Try.prog 61 #[.pointer p, .int .i64 1099511627776] W (NumS 82 p (rd3 s) W)) := Lib.hid fun W hO => HN _ W hO
  have H4 : Hid (∀ W, ObjP 82 W p (rd3 s).2 → Calls Try.prog 61 #[.pointer p, .int .i64 1099511627776] W (NumS 82 p (rd4 s) W)) := Lib.hid fun W hO => HN _ W hO
  have H5 : Hid (∀ W, ObjP 82 W p (rd4 s).2 → Calls Try.prog 61 #[.pointer p, .int .i64 1099511627776] W (NumS 82 p (rd5 s) W)) := Lib.hid fun W hO => HN _ W hO
  have H6 : Hid (∀ W, ObjP 82 W p (rd5 s).2 → Calls Try.prog 61 #[.pointer p, .int .i64 1099511627776] W (NumS 82 p (rd6 s) W)) := Lib.hid fun W hO => HN _ W hO
  have H7 : Hid (∀ W, ObjP 82 W p (rd6 s).2 → Calls Try.prog 65 #[.pointer p, .int .i64 16] W (TxtS 82 p (rd7 s) W)) := Lib.hid fun W hO => HT _ W 16 (by omega) hO
  clear HT HN
  have HW1 : Hid ((str (rd0 s).1 = invB ∧ maybeI (rawI s)) ↔ goodI s) := Lib.hid Iff.rfl
  have HR : Hid (rawI s = ⟨(rd1 s).1, str (rd2 s).1, (rd3 s).1, (rd4 s).1, (rd5 s).1, (rd6 s).1, str (rd7 s).1⟩) := Lib.hid rfl
  have HNR := Lib.hid (ptr_lt h (Nat.le_refl w.heap.size))
  have HNL := Lib.hid (ptr_lt h (Nat.le_succ w.heap.size))
  have hz0 : (w.alloc (.cells (ivc noI).toArray 26)).heap.size = w.heap.size + 1 := by simp
  have kR := (Blk.new w 26 (ivc noI)).alloc (.cells (ivc noI).toArray 26)
  have kL : Blk ((w.alloc (.cells (ivc noI).toArray 26)).alloc (.cells (ivc noI).toArray 26)) (w.heap.size + 1) 26 (ivc noI) := Blk.new' hz0
  have hG := (World.grownBy_alloc w (.cells (ivc noI).toArray 26) (p.map (·.block))).trans (World.grownBy_alloc _ (.cells (ivc noI).toArray 26) (p.map (·.block)))
  have hO0 := (h.below (chain0 w (.cells (ivc noI).toArray 26))).below (chain0 _ (.cells (ivc noI).toArray 26))
  clear h hz0
  go_enter Try.func63, Try.ntmps63
  go_upto_region 10 with (first
    | (go_at_call 65; refine (H0.out _ hO0).mono ?_; rintro e W0 ⟨rfl, q, g⟩; replace hG := World.grownBy.trans hG g; replace kR := kR.kept g HNR.out; replace kL := kL.kept g HNL.out; (try clear z f); have hO1 := q; clear q g hO0)
    | (go_at_call 61; refine (H1.out _ hO1).mono ?_; rintro e W1 ⟨rfl, q, g⟩; replace hG := World.grownBy.trans hG g; replace kR := kR.kept g HNR.out; replace kL := kL.kept g HNL.out; (try clear z f); have z := (kL.cell 0).trans rfl; have f := kL.frozen 0; have hO2 := objP_one (B := w.heap.size + 1) (k := 0) (v := (.int .i64 ((rd1 s).1 : Nat))) q (noOct7 kL) HNL.out; replace kR := kR.other (B' := w.heap.size + 1) 0 (.int .i64 ((rd1 s).1 : Nat)) (by omega); replace kL : Blk _ (w.heap.size + 1) 26 (ivc ⟨(((rd1 s).1 : Nat) : Int), ⟨#[]⟩, (0 : Int), (0 : Int), (0 : Int), (0 : Int), ⟨#[]⟩⟩) := kL.set 0 (.int .i64 ((rd1 s).1 : Nat)); replace hG := grown_set (B := w.heap.size + 1) (i := 0) (v := (.int .i64 ((rd1 s).1 : Nat))) hG (Nat.le_succ _); clear q g hO1)
    | (go_at_call 65; refine (H2.out _ hO2).mono ?_; rintro e W2 ⟨rfl, q, g⟩; replace hG := World.grownBy.trans hG g; replace kR := kR.kept g HNR.out; replace kL := kL.kept g HNL.out; (try clear z f); have z := (kL.cell 1).trans rfl; have f := kL.frozen 1; have hO3 := objP_one (B := w.heap.size + 1) (k := 1) (v := (.string ⟨(rd2 s).1.toArray⟩)) q (noOct7 kL) HNL.out; replace kR := kR.other (B' := w.heap.size + 1) 1 (.string ⟨(rd2 s).1.toArray⟩) (by omega); replace kL : Blk _ (w.heap.size + 1) 26 (ivc ⟨(((rd1 s).1 : Nat) : Int), (str (rd2 s).1), (0 : Int), (0 : Int), (0 : Int), (0 : Int), ⟨#[]⟩⟩) := kL.set 1 (.string ⟨(rd2 s).1.toArray⟩); replace hG := grown_set (B := w.heap.size + 1) (i := 1) (v := (.string ⟨(rd2 s).1.toArray⟩)) hG (Nat.le_succ _); clear q g hO2)
    | (go_at_call 61; refine (H3.out _ hO3).mono ?_; rintro e W3 ⟨rfl, q, g⟩; replace hG := World.grownBy.trans hG g; replace kR := kR.kept g HNR.out; replace kL := kL.kept g HNL.out; (try clear z f); have z := (kL.cell 2).trans rfl; have f := kL.frozen 2; have hO4 := objP_one (B := w.heap.size + 1) (k := 2) (v := (.int .i64 ((rd3 s).1 : Nat))) q (noOct7 kL) HNL.out; replace kR := kR.other (B' := w.heap.size + 1) 2 (.int .i64 ((rd3 s).1 : Nat)) (by omega); replace kL : Blk _ (w.heap.size + 1) 26 (ivc ⟨(((rd1 s).1 : Nat) : Int), (str (rd2 s).1), (((rd3 s).1 : Nat) : Int), (0 : Int), (0 : Int), (0 : Int), ⟨#[]⟩⟩) := kL.set 2 (.int .i64 ((rd3 s).1 : Nat)); replace hG := grown_set (B := w.heap.size + 1) (i := 2) (v := (.int .i64 ((rd3 s).1 : Nat))) hG (Nat.le_succ _); clear q g hO3)
    | (go_at_call 61; refine (H4.out _ hO4).mono ?_; rintro e W4 ⟨rfl, q, g⟩; replace hG := World.grownBy.trans hG g; replace kR := kR.kept g HNR.out; replace kL := kL.kept g HNL.out; (try clear z f); have z := (kL.cell 3).trans rfl; have f := kL.frozen 3; have hO5 := objP_one (B := w.heap.size + 1) (k := 3) (v := (.int .i64 ((rd4 s).1 : Nat))) q (noOct7 kL) HNL.out; replace kR := kR.other (B' := w.heap.size + 1) 3 (.int .i64 ((rd4 s).1 : Nat)) (by omega); replace kL : Blk _ (w.heap.size + 1) 26 (ivc ⟨(((rd1 s).1 : Nat) : Int), (str (rd2 s).1), (((rd3 s).1 : Nat) : Int), (((rd4 s).1 : Nat) : Int), (0 : Int), (0 : Int), ⟨#[]⟩⟩) := kL.set 3 (.int .i64 ((rd4 s).1 : Nat)); replace hG := grown_set (B := w.heap.size + 1) (i := 3) (v := (.int .i64 ((rd4 s).1 : Nat))) hG (Nat.le_succ _); clear q g hO4)
    | (go_at_call 61; refine (H5.out _ hO5).mono ?_; rintro e W5 ⟨rfl, q, g⟩; replace hG := World.grownBy.trans hG g; replace kR := kR.kept g HNR.out; replace kL := kL.kept g HNL.out; (try clear z f); have z := (kL.cell 4).trans rfl; have f := kL.frozen 4; have hO6 := objP_one (B := w.heap.size + 1) (k := 4) (v := (.int .i64 ((rd5 s).1 : Nat))) q (noOct7 kL) HNL.out; replace kR := kR.other (B' := w.heap.size + 1) 4 (.int .i64 ((rd5 s).1 : Nat)) (by omega); replace kL : Blk _ (w.heap.size + 1) 26 (ivc ⟨(((rd1 s).1 : Nat) : Int), (str (rd2 s).1), (((rd3 s).1 : Nat) : Int), (((rd4 s).1 : Nat) : Int), (((rd5 s).1 : Nat) : Int), (0 : Int), ⟨#[]⟩⟩) := kL.set 4 (.int .i64 ((rd5 s).1 : Nat)); replace hG := grown_set (B := w.heap.size + 1) (i := 4) (v := (.int .i64 ((rd5 s).1 : Nat))) hG (Nat.le_succ _); clear q g hO5)
    | (go_at_call 61; refine (H6.out _ hO6).mono ?_; rintro e W6 ⟨rfl, q, g⟩; replace hG := World.grownBy.trans hG g; replace kR := kR.kept g HNR.out; replace kL := kL.kept g HNL.out; (try clear z f); have z := (kL.cell 5).trans rfl; have f := kL.frozen 5; have hO7 := objP_one (B := w.heap.size + 1) (k := 5) (v := (.int .i64 ((rd6 s).1 : Nat))) q (noOct7 kL) HNL.out; replace kR := kR.other (B' := w.heap.size + 1) 5 (.int .i64 ((rd6 s).1 : Nat)) (by omega); replace kL : Blk _ (w.heap.size + 1) 26 (ivc ⟨(((rd1 s).1 : Nat) : Int), (str (rd2 s).1), (((rd3 s).1 : Nat) : Int), (((rd4 s).1 : Nat) : Int), (((rd5 s).1 : Nat) : Int), (((rd6 s).1 : Nat) : Int), ⟨#[]⟩⟩) := kL.set 5 (.int .i64 ((rd6 s).1 : Nat)); replace hG := grown_set (B := w.heap.size + 1) (i := 5) (v := (.int .i64 ((rd6 s).1 : Nat))) hG (Nat.le_succ _); clear q g hO6)
    | (go_at_call 65; refine (H7.out _ hO7).mono ?_; rintro e W7 ⟨rfl, q, g⟩; replace hG := World.grownBy.trans hG g; replace kR := kR.kept g HNR.out; replace kL := kL.kept g HNL.out; (try clear z f); have z := (kL.cell 6).trans rfl; have f := kL.frozen 6; have hO8 := objP_one (B := w.heap.size + 1) (k := 6) (v := (.string ⟨(rd7 s).1.toArray⟩)) q (noOct7 kL) HNL.out; replace kR := kR.other (B' := w.heap.size + 1) 6 (.string ⟨(rd7 s).1.toArray⟩) (by omega); replace kL : Blk _ (w.heap.size + 1) 26 (ivc ⟨(((rd1 s).1 : Nat) : Int), (str (rd2 s).1), (((rd3 s).1 : Nat) : Int), (((rd4 s).1 : Nat) : Int), (((rd5 s).1 : Nat) : Int), (((rd6 s).1 : Nat) : Int), (str (rd7 s).1)⟩) := kL.set 6 (.string ⟨(rd7 s).1.toArray⟩); replace hG := grown_set (B := w.heap.size + 1) (i := 6) (v := (.string ⟨(rd7 s).1.toArray⟩)) hG (Nat.le_succ _); clear q g hO7))
  clear H0 H1 H2 H3 H4 H5 H6 H7 z f
  have hz : (w.heap.size + 1 = w.heap.size.succ) := rfl
  clear hz
  generalize hY : (World.setCell W7 _ _) = Y at *
  clear hY
  obtain ⟨c0, c1, c2, c3, c4, c5, c6⟩ := kL.c7
  have HC : Hid (∀ W, Calls Try.prog 55 #[ivv ⟨(rd1 s).1, str (rd2 s).1, (rd3 s).1, (rd4 s).1, (rd5 s).1, (rd6 s).1, str (rd7 s).1⟩] W fun e W' => e = .returned (.int .i64 (errI (rawI s))) ∧ Below W.heap.size W W') := Lib.hid (check_any (rawI s))
  have HGD : Hid (goodI s ↔ (rd0 s).1 = [105, 110, 118] ∧ maybeI (rawI s)) := Lib.hid (by
    have e : str (rd0 s).1 = invB ↔ (rd0 s).1 = [105, 110, 118] := ⟨fun e => by have := congrArg (fun b : ByteArray => b.data.toList) e; simpa [str, invB] using this, fun e => by rw [e]; rfl⟩
    rw [goodI, e])
  clear HR HW1
  have hes : ((errS (rd7 s).2 16).2 != 0) = true := by simpa using errS_ne (rd7 s).2
  have hes2 : ((errS (rd7 s).2 16).2 == 0) = false := by simpa using errS_ne (rd7 s).2
  by_cases hw : (rd0 s).1 = [105, 110, 118]
  · have hw2 : ((rd0 s).1 == [105, 110, 118]) = true := by simpa using hw
    by_cases hm : maybeI (rawI s)
    · have HE := Lib.hid (errI_zero hm)
      have HGG := Lib.hid (HGD.out.2 ⟨hw, hm⟩)
      clear hm hw HGD
      by_cases he : (rd7 s).2.2 = 0
      · have hq1 : ((rd7 s).2.2 == 0) = true := by simpa using he
        have hq2 : ((rd7 s).2.2 != 0) = false := by simpa using he
        have HX := Lib.hid (getI_yes he HGG.out)
        clear he HGG
        have HRW : Hid (rawI s = ⟨(rd1 s).1, str (rd2 s).1, (rd3 s).1, (rd4 s).1, (rd5 s).1, (rd6 s).1, str (rd7 s).1⟩) := Lib.hid rfl
        go_wp2_with (first
          | (go_at_call 55; refine (HC.out _).mono ?_; rw [HE.out]; rintro e V0 ⟨rfl, hb⟩; replace kR := kR.below hb kR.lt; replace kL := kL.below hb kL.lt; replace hG := World.grownBy.trans hG (grew hb _); replace hO8 := hO8.below hb; obtain ⟨r0, r1, r2, r3, r4, r5, r6⟩ := kR.c7; have fr := kR.frozen; obtain ⟨c0, c1, c2, c3, c4, c5, c6⟩ := kL.c7)
          | (go_at_call 20; refine (inErr_any _ hO8).mono ?_; rintro e V2 ⟨rfl, rfl⟩))
        obtain ⟨kZ, oZ, gZ⟩ := stored7 hO8 hG kR (Nat.le_refl _) HNR.out ⟨(rd1 s).1, str (rd2 s).1, (rd3 s).1, (rd4 s).1, (rd5 s).1, (rd6 s).1, str (rd7 s).1⟩
        dsimp only at kZ oZ gZ
        obtain ⟨q0, q1, q2, q3, q4, q5, q6⟩ := kZ.c7
        exact bodyPost_ret (v := ivv ⟨(rd1 s).1, str (rd2 s).1, (rd3 s).1, (rd4 s).1, (rd5 s).1, (rd6 s).1, str (rd7 s).1⟩) (by simp [results, Try.results63, go_sem, q0, q1, q2, q3, q4, q5, q6]) rfl ⟨by rw [HX.out]; rfl, by rw [HX.out]; exact oZ, gZ⟩
      · have hq1 : ((rd7 s).2.2 == 0) = false := by simpa using he
        have hq2 : ((rd7 s).2.2 != 0) = true := by simpa using he
        have HX := Lib.hid (getI_bad he)
        clear he HGG
        go_wp2_with (first
          | (go_at_call 55; refine (HC.out _).mono ?_; rw [HE.out]; rintro e V0 ⟨rfl, hb⟩; replace kR := kR.below hb kR.lt; replace kL := kL.below hb kL.lt; replace hG := World.grownBy.trans hG (grew hb _); replace hO8 := hO8.below hb; obtain ⟨r0, r1, r2, r3, r4, r5, r6⟩ := kR.c7; have fr := kR.frozen; obtain ⟨c0, c1, c2, c3, c4, c5, c6⟩ := kL.c7)
          | (go_at_call 20; refine (inErr_any _ hO8).mono ?_; rintro e V2 ⟨rfl, rfl⟩))
        obtain ⟨kZ, oZ, gZ⟩ := stored7 hO8 hG kR (Nat.le_refl _) HNR.out ⟨0, ⟨#[]⟩, 0, 0, 0, 0, ⟨#[]⟩⟩
        dsimp only at kZ oZ gZ
        obtain ⟨q0, q1, q2, q3, q4, q5, q6⟩ := kZ.c7
        exact bodyPost_ret (v := ivv ⟨0, ⟨#[]⟩, 0, 0, 0, 0, ⟨#[]⟩⟩) (by simp [results, Try.results63, go_sem, q0, q1, q2, q3, q4, q5, q6]) rfl ⟨by rw [HX.out]; rfl, by rw [HX.out]; exact oZ, gZ⟩
    · have HE := Lib.hid (errI_bad hm)
      have HX := Lib.hid (getI_no (s := s) (fun e => hm (HGD.out.1 e).2))
      clear hm hw HGD
      go_wp2_with (first
        | (go_at_call 55; refine (HC.out _).mono ?_; rw [HE.out]; rintro e V0 ⟨rfl, hb⟩; replace kR := kR.below hb kR.lt; replace kL := kL.below hb kL.lt; replace hG := World.grownBy.trans hG (grew hb _); replace hO8 := hO8.below hb; obtain ⟨r0, r1, r2, r3, r4, r5, r6⟩ := kR.c7; have fr := kR.frozen; obtain ⟨c0, c1, c2, c3, c4, c5, c6⟩ := kL.c7)
        | (go_at_call 36; refine (inSpoil_any _ hO8).mono ?_; rintro e V1 ⟨rfl, hO9, g⟩; replace kR := kR.kept g HNR.out; replace hG := World.grownBy.trans hG g; obtain ⟨r0, r1, r2, r3, r4, r5, r6⟩ := kR.c7; have fr := kR.frozen)
        | (go_at_call 20; refine (inErr_any _ hO9).mono ?_; rintro e V2 ⟨rfl, rfl⟩))
      obtain ⟨kZ, oZ, gZ⟩ := stored7 hO9 hG kR (Nat.le_refl _) HNR.out ⟨0, ⟨#[]⟩, 0, 0, 0, 0, ⟨#[]⟩⟩
      dsimp only at kZ oZ gZ
      obtain ⟨q0, q1, q2, q3, q4, q5, q6⟩ := kZ.c7
      exact bodyPost_ret (v := ivv ⟨0, ⟨#[]⟩, 0, 0, 0, 0, ⟨#[]⟩⟩) (by simp [results, Try.results63, go_sem, q0, q1, q2, q3, q4, q5, q6]) rfl ⟨by rw [HX.out]; rfl, by rw [HX.out]; exact oZ, gZ⟩
  · have hw2 : ((rd0 s).1 == [105, 110, 118]) = false := by simpa using hw
    have HX := Lib.hid (getI_no (s := s) (fun e => hw (HGD.out.1 e).1))
    clear hw HGD
    go_wp2_with (first
      | (go_at_call 36; refine (inSpoil_any _ hO8).mono ?_; rintro e V1 ⟨rfl, hO9, g⟩; replace kR := kR.kept g HNR.out; replace hG := World.grownBy.trans hG g; obtain ⟨r0, r1, r2, r3, r4, r5, r6⟩ := kR.c7; have fr := kR.frozen)
      | (go_at_call 20; refine (inErr_any _ hO9).mono ?_; rintro e V2 ⟨rfl, rfl⟩))
    obtain ⟨kZ, oZ, gZ⟩ := stored7 hO9 hG kR (Nat.le_refl _) HNR.out ⟨0, ⟨#[]⟩, 0, 0, 0, 0, ⟨#[]⟩⟩
    dsimp only at kZ oZ gZ
    obtain ⟨q0, q1, q2, q3, q4, q5, q6⟩ := kZ.c7
    exact bodyPost_ret (v := ivv ⟨0, ⟨#[]⟩, 0, 0, 0, 0, ⟨#[]⟩⟩) (by simp [results, Try.results63, go_sem, q0, q1, q2, q3, q4, q5, q6]) rfl ⟨by rw [HX.out]; rfl, by rw [HX.out]; exact oZ, gZ⟩

set_option maxRecDepth 100000 in
set_option maxHeartbeats 4000000 in
theorem dealGetVar_any {p : Option Addr} {s : St} (w : World) (h : ObjP 82 w p s) :
    Calls Try.prog 64 #[.pointer p] w (GotV 82 p (getV s) w) := by
  have H0 : Hid (∀ W, ObjP 82 W p s → Calls Try.prog 62 #[.pointer p] W (WidS 82 p (vd0 s) W)) := Lib.hid fun W hO => inWide_any W hO
  have H1 : Hid (∀ W, ObjP 82 W p (vd0 s).2 → Calls Try.prog 61 #[.pointer p, .int .i64 1099511627776] W (NumS 82 p (vd1 s) W)) := Lib.hid fun W hO => inNumP_any (p := p) 1099511627776 1099511627776 (Or.inr ⟨by omega, rfl⟩) W hO
  have HNR := Lib.hid (ptr_lt h (Nat.le_refl w.heap.size))
  have HNL := Lib.hid (ptr_lt h (Nat.le_succ w.heap.size))
  have hz0 : (w.alloc (.cells (svc noV).toArray 28)).heap.size = w.heap.size + 1 := by simp
  have kR := (Blk.new w 28 (svc noV)).alloc (.cells (svc noV).toArray 28)
  have kL : Blk ((w.alloc (.cells (svc noV).toArray 28)).alloc (.cells (svc noV).toArray 28)) (w.heap.size + 1) 28 (svc noV) := Blk.new' hz0
  have hG := (World.grownBy_alloc w (.cells (svc noV).toArray 28) (p.map (·.block))).trans (World.grownBy_alloc _ (.cells (svc noV).toArray 28) (p.map (·.block)))
  have hO0 := (h.below (chain0 w (.cells (svc noV).toArray 28))).below (chain0 _ (.cells (svc noV).toArray 28))
  clear h hz0
  generalize hu0 : wdS (vd0 s).1 0 = u0 at *
  generalize hu1 : wdS (vd0 s).1 1 = u1 at *
  generalize hu2 : wdS (vd0 s).1 2 = u2 at *
  generalize hu3 : wdS (vd0 s).1 3 = u3 at *
  have HU : Hid (wdS (vd0 s).1 0 = u0 ∧ wdS (vd0 s).1 1 = u1 ∧ wdS (vd0 s).1 2 = u2 ∧ wdS (vd0 s).1 3 = u3) := Lib.hid ⟨hu0, hu1, hu2, hu3⟩
  have HRW : Hid (rawV s = ⟨u0, u1, u2, u3, ((vd1 s).1 : Nat)⟩) := Lib.hid (by rw [rawV, hu0, hu1, hu2, hu3])
  have HQ0 : Hid (∀ W, ObjP 82 W p s → Calls Try.prog 62 #[.pointer p] W (fun e W' => e = .returned (wv u0 u1 u2 u3) ∧ ObjP 82 W' p (vd0 s).2 ∧ W.grownBy W' (p.map (·.block)))) := Lib.hid fun W hO => (H0.out W hO).mono (by rintro e W' ⟨rfl, a, b⟩; exact ⟨by rw [hu0, hu1, hu2, hu3], a, b⟩)
  clear hu0 hu1 hu2 hu3 H0
  go_enter Try.func64, Try.ntmps64
  go_upto_region 4 with (first
    | (go_at_call 62; refine (HQ0.out _ hO0).mono ?_; rintro e W0 ⟨rfl, q, g⟩; replace hG := World.grownBy.trans hG g; replace kR := kR.kept g HNR.out; replace kL := kL.kept g HNL.out; obtain ⟨z0, z1, z2, z3, z4⟩ := kL.c5; have f := kL.frozen; replace q := objP_one (B := w.heap.size + 1) (k := 0) (v := .int .u64 (u0 : Nat)) q (noOct5 kL) HNL.out; replace kR := kR.other (B' := w.heap.size + 1) 0 (.int .u64 (u0 : Nat)) (by omega); replace kL : Blk _ (w.heap.size + 1) 28 (svc ⟨u0, 0, 0, 0, 0⟩) := kL.set 0 (.int .u64 (u0 : Nat)); replace hG := grown_set (B := w.heap.size + 1) (i := 0) (v := .int .u64 (u0 : Nat)) hG (Nat.le_succ _); replace q := objP_one (B := w.heap.size + 1) (k := 1) (v := .int .u64 (u1 : Nat)) q (noOct5 kL) HNL.out; replace kR := kR.other (B' := w.heap.size + 1) 1 (.int .u64 (u1 : Nat)) (by omega); replace kL : Blk _ (w.heap.size + 1) 28 (svc ⟨u0, u1, 0, 0, 0⟩) := kL.set 1 (.int .u64 (u1 : Nat)); replace hG := grown_set (B := w.heap.size + 1) (i := 1) (v := .int .u64 (u1 : Nat)) hG (Nat.le_succ _); replace q := objP_one (B := w.heap.size + 1) (k := 2) (v := .int .u64 (u2 : Nat)) q (noOct5 kL) HNL.out; replace kR := kR.other (B' := w.heap.size + 1) 2 (.int .u64 (u2 : Nat)) (by omega); replace kL : Blk _ (w.heap.size + 1) 28 (svc ⟨u0, u1, u2, 0, 0⟩) := kL.set 2 (.int .u64 (u2 : Nat)); replace hG := grown_set (B := w.heap.size + 1) (i := 2) (v := .int .u64 (u2 : Nat)) hG (Nat.le_succ _); replace q := objP_one (B := w.heap.size + 1) (k := 3) (v := .int .u64 (u3 : Nat)) q (noOct5 kL) HNL.out; replace kR := kR.other (B' := w.heap.size + 1) 3 (.int .u64 (u3 : Nat)) (by omega); replace kL : Blk _ (w.heap.size + 1) 28 (svc ⟨u0, u1, u2, u3, 0⟩) := kL.set 3 (.int .u64 (u3 : Nat)); replace hG := grown_set (B := w.heap.size + 1) (i := 3) (v := .int .u64 (u3 : Nat)) hG (Nat.le_succ _); have hO1 := q; clear q g hO0)
    | (go_at_call 61; refine (H1.out _ hO1).mono ?_; rintro e W1 ⟨rfl, q, g⟩; replace hG := World.grownBy.trans hG g; replace kR := kR.kept g HNR.out; replace kL := kL.kept g HNL.out; clear z0 z1 z2 z3 z4 f; have z4 := (kL.cell 4).trans rfl; have f := kL.frozen 4; have hO2 := objP_one (B := w.heap.size + 1) (k := 4) (v := .int .i64 ((vd1 s).1 : Nat)) q (noOct5 kL) HNL.out; replace kR := kR.other (B' := w.heap.size + 1) 4 (.int .i64 ((vd1 s).1 : Nat)) (by omega); replace kL : Blk _ (w.heap.size + 1) 28 (svc ⟨u0, u1, u2, u3, ((vd1 s).1 : Nat)⟩) := kL.set 4 (.int .i64 ((vd1 s).1 : Nat)); replace hG := grown_set (B := w.heap.size + 1) (i := 4) (v := .int .i64 ((vd1 s).1 : Nat)) hG (Nat.le_succ _); clear q g hO1))
  clear H1 HQ0 z4 f
  generalize hY : (World.setCell W1 _ _) = Y at *
  clear hY
  obtain ⟨c0, c1, c2, c3, c4⟩ := kL.c5
  have HC : Hid (∀ W, Calls Try.prog 56 #[svv ⟨u0, u1, u2, u3, ((vd1 s).1 : Nat)⟩] W fun e W' => e = .returned (.int .i64 (errV (rawV s))) ∧ Below W.heap.size W W') := Lib.hid (by rw [HRW.out]; exact sound_any _)
  have hes : ((errS (vd1 s).2 16).2 != 0) = true := by simpa using errS_ne (vd1 s).2
  have hes2 : ((errS (vd1 s).2 16).2 == 0) = false := by simpa using errS_ne (vd1 s).2
  by_cases hm : maybeV (rawV s)
  · have HE := Lib.hid (errV_zero hm)
    by_cases he : (vd1 s).2.2 = 0
    · have hq1 : ((vd1 s).2.2 == 0) = true := by simpa using he
      have hq2 : ((vd1 s).2.2 != 0) = false := by simpa using he
      have HX := Lib.hid (getV_yes he hm)
      clear he hm
      go_wp2_with (first
        | (go_at_call 56; refine (HC.out _).mono ?_; rw [HE.out]; rintro e V0 ⟨rfl, hb⟩; replace kR := kR.below hb kR.lt; replace kL := kL.below hb kL.lt; replace hG := World.grownBy.trans hG (grew hb _); replace hO2 := hO2.below hb; clear c0 c1 c2 c3 c4; obtain ⟨r0, r1, r2, r3, r4⟩ := kR.c5; have fr := kR.frozen; obtain ⟨c0, c1, c2, c3, c4⟩ := kL.c5)
        | (go_at_call 20; refine (inErr_any _ hO2).mono ?_; rintro e V2 ⟨rfl, rfl⟩))
      obtain ⟨kZ, oZ, gZ⟩ := stored5 hO2 hG kR (Nat.le_refl _) HNR.out ⟨u0, u1, u2, u3, ((vd1 s).1 : Nat)⟩
      try dsimp only at kZ oZ gZ
      obtain ⟨q0, q1, q2, q3, q4⟩ := kZ.c5
      exact bodyPost_ret (v := svv ⟨u0, u1, u2, u3, ((vd1 s).1 : Nat)⟩) (by simp [results, Try.results64, go_sem, q0, q1, q2, q3, q4]) rfl ⟨by rw [HX.out, HRW.out], by rw [HX.out]; exact oZ, gZ⟩
    · have hq1 : ((vd1 s).2.2 == 0) = false := by simpa using he
      have hq2 : ((vd1 s).2.2 != 0) = true := by simpa using he
      have HX := Lib.hid (getV_bad he)
      clear he hm
      go_wp2_with (first
        | (go_at_call 56; refine (HC.out _).mono ?_; rw [HE.out]; rintro e V0 ⟨rfl, hb⟩; replace kR := kR.below hb kR.lt; replace kL := kL.below hb kL.lt; replace hG := World.grownBy.trans hG (grew hb _); replace hO2 := hO2.below hb; clear c0 c1 c2 c3 c4; obtain ⟨r0, r1, r2, r3, r4⟩ := kR.c5; have fr := kR.frozen; obtain ⟨c0, c1, c2, c3, c4⟩ := kL.c5)
        | (go_at_call 20; refine (inErr_any _ hO2).mono ?_; rintro e V2 ⟨rfl, rfl⟩))
      obtain ⟨kZ, oZ, gZ⟩ := stored5z hO2 hG kR (Nat.le_refl _) HNR.out
      try dsimp only at kZ oZ gZ
      obtain ⟨q0, q1, q2, q3, q4⟩ := kZ.c5
      exact bodyPost_ret (v := svv ⟨0, 0, 0, 0, 0⟩) (by simp [results, Try.results64, go_sem, q0, q1, q2, q3, q4]) rfl ⟨by rw [HX.out]; rfl, by rw [HX.out]; exact oZ, gZ⟩
  · have HE := Lib.hid (errV_bad hm)
    have HX := Lib.hid (getV_no hm)
    clear hm
    go_wp2_with (first
      | (go_at_call 56; refine (HC.out _).mono ?_; rw [HE.out]; rintro e V0 ⟨rfl, hb⟩; replace kR := kR.below hb kR.lt; replace kL := kL.below hb kL.lt; replace hG := World.grownBy.trans hG (grew hb _); replace hO2 := hO2.below hb; clear c0 c1 c2 c3 c4; obtain ⟨r0, r1, r2, r3, r4⟩ := kR.c5; have fr := kR.frozen; obtain ⟨c0, c1, c2, c3, c4⟩ := kL.c5)
      | (go_at_call 36; refine (inSpoil_any _ hO2).mono ?_; rintro e V1 ⟨rfl, hO9, g⟩; replace kR := kR.kept g HNR.out; replace hG := World.grownBy.trans hG g; clear r0 r1 r2 r3 r4 fr; obtain ⟨r0, r1, r2, r3, r4⟩ := kR.c5; have fr := kR.frozen)
      | (go_at_call 20; refine (inErr_any _ hO9).mono ?_; rintro e V2 ⟨rfl, rfl⟩))
    obtain ⟨kZ, oZ, gZ⟩ := stored5z hO9 hG kR (Nat.le_refl _) HNR.out
    try dsimp only at kZ oZ gZ
    obtain ⟨q0, q1, q2, q3, q4⟩ := kZ.c5
    exact bodyPost_ret (v := svv ⟨0, 0, 0, 0, 0⟩) (by simp [results, Try.results64, go_sem, q0, q1, q2, q3, q4]) rfl ⟨by rw [HX.out]; rfl, by rw [HX.out]; exact oZ, gZ⟩
end Go.Proofs.Ytafcngnophlhgaa
