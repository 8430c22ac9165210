/-
  slices.All over octets: each with its place.
  blob.Unwide: the number of 32 octets.
  field.In: how it reads.
  A transfer and a side's data as plain things; whether they may be; what is put of them, and read, as states of octets.
  blob.Num hands back a row of its own.
-/
import Derived.Maps.Range
import Derived.Outline
import Derived.Test.YtififfadodjmeaaK02
namespace Go.Proofs.Ytififfadodjmeaa
open Go.RowKit Go.Shelf
attribute [local go_sem] Oper.semAt_some

/-- The elements els stand for the octets zs with their places. -/
def Places {α : Type} (encs : α → Array Value) (els : List α) (zs : List UInt8) : Prop := els.length = zs.length ∧ ∀ (k : Nat) (e : α), els[k]? = some e → ∃ x, zs[k]? = some x ∧ encs e = #[.int .i64 (k : Int), bv x]

set_option maxRecDepth 100000 in
set_option maxHeartbeats 4000000 in
theorem all1_in {α : Type} (encs : α → Array Value) (els : List α) (F : Fence) (n : Nat) (h7 : F.fn 98) (hro : F.round = none) (hn : 1 ≤ n) (l Bs n₀ b off cap : Nat) (zs : List UInt8) (hreach : zs.length ≤ 140737488351232) (hb : b < n₀) (hels : Places encs els zs) (J Jx : List α → World → Prop)
    (W : World)
    (hY : ∀ pre x W, J pre W → pre.length < zs.length → YieldAt F (n - 1) Try.prog l (encs x) W fun e W' =>
      (e = .returned (.bool true) ∧ J (pre ++ [x]) W' ∧ Below n₀ W W') ∨ (e = .returned (.bool false) ∧ Jx (pre ++ [x]) W'))
    (hBs : W.cell? ⟨Bs, 0, none⟩ = some (.slice (some ⟨b, off, none⟩) zs.length cap)) (hc : Octs W b off zs) (h0 : J [] W) :
    CallsIn F n Try.prog 98 #[.func (.yield l) #[] #[], .pointer (some ⟨Bs, 0, none⟩)] W fun e W' => (∃ v, e = .returned v) ∧
      ((∃ ys, ys = els ∧ J ys W') ∨ (∃ pre, True ∧ Jx pre W')) := by
  refine callsIn_of_wp Try.func98 rfl h7 ?_ hro
  simp only [Try.ntmps98, List.size_toArray, List.length_cons, List.length_nil, Nat.reduceAdd, Nat.reduceSub, Array.replicate_succ, Array.replicate_zero, List.push_toArray, List.append_toArray, List.nil_append, List.cons_append]
  gi_wp2
  gi_loopw [7] (fun i wr => ∃ k : Nat, k ≤ zs.length ∧ i = .int .i64 k ∧ J (els.take k) wr ∧ Below n₀ W wr) (fun i _ => zs.length - (intOf i).toNat)
  case atStart => exact ⟨0, Nat.zero_le _, rfl, h0, Below.refl _ _⟩
  case round =>
    obtain ⟨k, hk, rfl, hJs, hnx⟩ := hrel
    by_cases hlt : k < zs.length
    · obtain ⟨e, he⟩ : ∃ e, els[k]? = some e := ⟨_, List.getElem?_eq_getElem (by rw [hels.1]; exact hlt)⟩
      obtain ⟨x, hx, hen⟩ := hels.2 k e he
      have c0 := (hc.below hnx hb) k x hx
      have hk0 : (k : Int) < (zs.length : Int) := by omega
      obtain ⟨fn, tmps, assign, body, hy, hR⟩ := hY (els.take k) e wr hJs (by simp; omega)
      have ht : els.take (k + 1) = els.take k ++ [e] := by rw [List.take_add_one, he]; rfl
      rw [← ht] at hR
      rw [hen] at hy
      clear ht he hen
      have HX := Lib.hid hx
      clear hx
      have HE := Lib.hid hels
      clear hels
      generalize hL : zs.length = len at *
      have HL := Lib.hid hL
      clear hL
      gi_wp2
      refine hR.mono ?_
      rintro e W3 (⟨rfl, hJ3, hk3⟩ | ⟨rfl, hJx3⟩)
      · gi_wp2
        go_roundw
        case rel => exact ⟨k + 1, by omega, by simp, hJ3, hnx.trans hk3⟩
        case measure => simp [intOf]; omega
      · gi_wp2
        refine bodyPost_ret (results_none rfl _ _ _) rfl ?_
        exact ⟨⟨_, rfl⟩, .inr ⟨_, trivial, hJx3⟩⟩
    · obtain rfl : k = zs.length := by omega
      gi_wp2
      go_end0
      rw [List.take_of_length_le (by rw [hels.1]; exact Nat.le_refl _)] at hJs
      exact ⟨⟨_, rfl⟩, .inl ⟨_, rfl, hJs⟩⟩

set_option maxRecDepth 100000 in
set_option maxHeartbeats 1000000 in
/-- .. at a slice of none: no round. -/
theorem all1_nil_in {α : Type} (F : Fence) (n : Nat) (h7 : F.fn 98) (hro : F.round = none) (l Bs : Nat) (a : Option Addr) (cap : Nat) (J : List α → World → Prop) (W : World) (hBs : W.cell? ⟨Bs, 0, none⟩ = some (.slice a 0 cap)) (h0 : J [] W) :
    CallsIn F n Try.prog 98 #[.func (.yield l) #[] #[], .pointer (some ⟨Bs, 0, none⟩)] W fun e W' => (∃ v, e = .returned v) ∧ J [] W' := by
  refine callsIn_of_wp Try.func98 rfl h7 ?_ hro
  simp only [Try.ntmps98, List.size_toArray, List.length_cons, List.length_nil, Nat.reduceAdd, Nat.reduceSub, Array.replicate_succ, Array.replicate_zero, List.push_toArray, List.append_toArray, List.nil_append, List.cons_append]
  gi_wp2
  gi_loopw [7] (fun i wr => i = .int .i64 0 ∧ J [] wr) (fun _ _ => 0)
  case atStart => exact ⟨rfl, h0⟩
  case round =>
    obtain ⟨rfl, hJs⟩ := hrel
    gi_wp2
    go_end0
    exact ⟨⟨_, rfl⟩, hJs⟩

set_option maxHeartbeats 1000000 in
theorem all_in (F : Fence) (n : Nat) (h5 : F.fn 87) (hro : F.round = none) (a : Option Addr) (len cap : Nat) (w : World) :
    CallsIn F n Try.prog 87 #[.slice a len cap] w fun e w' => e = .returned (.func (.func 98) #[] #[.pointer (some ⟨w.heap.size, 0, none⟩)]) ∧ w' = w.alloc (.cells #[.slice a len cap] 37) := by
  refine callsIn_of_wp Try.func87 rfl h5 ?_ hro
  simp only [Try.ntmps87, List.size_toArray, List.length_cons, List.length_nil, Nat.reduceAdd, Nat.reduceSub, Array.replicate_succ, Array.replicate_zero, List.push_toArray, List.append_toArray, List.nil_append, List.cons_append]
  gi_wp2
  go_ret
  exact ⟨rfl, rfl⟩

theorem all_stops {α : Type} (encs : α → Array Value) (els : List α) (F : Fence) (n : Nat) (h7 : F.fn 98) (hro : F.round = none) (hn : 1 ≤ n) (Bs n₀ : Nat) (sv : Value) (zs : List UInt8) (hreach : zs.length ≤ 140737488351232) (w : World) (hn₀ : n₀ ≤ w.heap.size)
    (hk : Boxed w Bs 37 sv) (hI : BSl 0 n₀ w sv zs) (hels : Places encs els zs) :
    SeqStopsK F n Try.prog 98 #[.pointer (some ⟨Bs, 0, none⟩)] encs (Below n₀) (fun ys => ys = els) (fun _ => True) zs.length w := fun l J Jx W hW hJ _ hY h0 => by
  have hc' := (hW.cell (p := ⟨Bs, 0, none⟩) hk.lt).trans hk.cell
  obtain ⟨a, cap, rfl, hcap, rfl | ⟨b, off, rfl, _, hb, hcs⟩⟩ := hI.below hW hn₀
  · exact (all1_nil_in F n h7 hro l Bs a cap J W hc' h0).mono fun e W' ⟨he, hj⟩ => ⟨he, .inl ⟨_, (List.eq_nil_of_length_eq_zero hels.1).symm, hj⟩⟩
  · exact all1_in encs els F n h7 hro hn l Bs n₀ b off cap zs hreach hb hels J Jx W hY hc' hcs h0

end Go.Proofs.Ytififfadodjmeaa

namespace Go.Proofs.Ytififfadodjmeaa
open Go.RowKit Go.Shelf
attribute [local go_sem] Oper.semAt_some

/-- The number of 32 octets and true; else zero and false. -/
def UnW (l : List UInt8) (w : World) (e : Ending) (W' : World) : Prop :=
  (l.length = 32 ∧ e = .returned (.tuple #[wv (uwd l 32 0) (uwd l 32 1) (uwd l 32 2) (uwd l 32 3), .bool true]) ∧ Below w.heap.size w W') ∨
  (l.length ≠ 32 ∧ NoW w e W')
/-- Between two rounds. -/
def UnI (N : Nat) (w : World) (pre : List PX) (W : World) : Prop :=
  (Blk W N 26 (ws fun _ => 0) ∧ Blk W (N + 1) 26 (ws (unF pre))) ∧ Below N w W
theorem unI_own {N : Nat} {w : World} {B : Nat} (h : N ≤ w.heap.size) (hB : N ≤ B) : OwnFrom B (UnI N w) :=
  OwnFrom.and (Own.from (fun s X Y row hs hg hr => ⟨blk_own N 26 (fun (_ : Unit) => ws fun _ => 0) () X Y row hs.1 hg hr, blk_own (N + 1) 26 (fun s : List PX => ws (unF s)) s X Y row hs.2 hg hr⟩) _) (ownFrom_below h hB)
theorem pxs_places {l : List UInt8} (h : l.length = 32) : Places pxEnc (pxs l h) l := ⟨by rw [pxs_length, h], fun k e he => by
  obtain ⟨h2, hx⟩ := pxs_at h he
  exact ⟨_, hx, by unfold pxEnc; rw [h2]⟩⟩

set_option maxRecDepth 100000 in
set_option maxHeartbeats 4000000 in
theorem unwide_no (m : Nat) (l : List UInt8) (sv : Value) (w : World) (hl : l.length ≠ 32) (hsv : BSl 0 w.heap.size w sv l) :
    CallsIn Fence.wide m Try.prog 72 #[sv] w (NoW w) := by
  obtain ⟨a, cap, rfl, hcap, hcs⟩ := hsv
  clear hcs
  refine callsIn_of_wp_marks Try.func72 rfl trivial ?_ rfl
  simp only [Try.ntmps72, List.size_toArray, List.length_cons, List.length_nil, Nat.reduceAdd, Nat.reduceSub, Array.replicate_succ, Array.replicate_zero, List.push_toArray, List.append_toArray, List.nil_append, List.cons_append]
  have hb : (((l.length : Nat) : Int) == 32) = false := by simp; omega
  have hne : ((l.length : Nat) : Int) ≠ 32 := by omega
  have hb2 : (((l.length : Nat) : Int) != 32) = true := by simp; omega
  gi_wp2
  refine ⟨.tuple #[wv 0 0 0 0, .bool false], ?_, ?_⟩
  · simp [results, Try.f72, go_sem]
  · exact ⟨rfl, chainA (chain0 _ _) _⟩

set_option maxRecDepth 100000 in
set_option maxHeartbeats 4000000 in
theorem unwide_yes (m : Nat) (hm : 2 ≤ m) (l : List UInt8) (sv : Value) (w : World) (hl : l.length = 32) (hsv : BSl 0 w.heap.size w sv l) :
    CallsIn Fence.wide m Try.prog 72 #[sv] w fun e W' => e = .returned (.tuple #[wv (uwd l 32 0) (uwd l 32 1) (uwd l 32 2) (uwd l 32 3), .bool true]) ∧ Below w.heap.size w W' := by
  have h1 : 1 ≤ m := by omega
  have hsv0 := hsv
  obtain ⟨a, cap, rfl, hcap, hcs⟩ := hsv
  clear hcs
  have HL := Lib.hid hl
  rw [hl] at hsv0 hcap ⊢
  clear hl
  refine callsIn_of_wp_marks Try.func72 rfl trivial ?_ rfl
  simp only [Try.ntmps72, List.size_toArray, List.length_cons, List.length_nil, Nat.reduceAdd, Nat.reduceSub, Array.replicate_succ, Array.replicate_zero, List.push_toArray, List.append_toArray, List.nil_append, List.cons_append]
  gi_wp2_with (refine ⟨trivial, ?_⟩; gi_at_call 87; refine (all_in Fence.wide (m - 1) trivial rfl _ _ _ _).mono ?_; rintro e w' ⟨rfl, rfl⟩)
  generalize hW5 : World.alloc _ _ = W5
  have k0 : Blk W5 w.heap.size 26 (ws fun _ => 0) := by rw [← hW5]; exact ((Blk.new' rfl).alloc _).alloc _
  have k1 : Blk W5 (w.heap.size + 1) 26 (ws (unF [])) := by rw [← hW5]; exact (Blk.new' (by simp)).alloc _
  have k2 : Boxed W5 (w.heap.size + 1 + 1) 37 (.slice a 32 cap) := by rw [← hW5]; exact Blk.new' (vs := [_]) (by simp)
  have hB0 : Below w.heap.size w W5 := by rw [← hW5]; exact chainA (chainA (chain0 _ _) _) _
  have hz : W5.heap.size = w.heap.size + 3 := by rw [← hW5]; simp
  clear hW5
  refine wpIn_rangeFunc_ownF (S := fun ys => ys = pxs l HL.out) rfl h1 (gf := 98) (lb := #[.pointer (some ⟨w.heap.size + 1 + 1, 0, none⟩)]) rfl trivial (enters_of Try.func98 (by kernel_rfl) rfl)
    (all_stops pxEnc (pxs l HL.out) Fence.wide (m - 1) trivial rfl (by omega) (w.heap.size + 1 + 1) w.heap.size (.slice a 32 cap) l (by rw [HL.out]; omega) W5 (by omega) k2 (hsv0.below hB0 (Nat.le_refl _)) (pxs_places HL.out)) belowK_t (belowK_b (by omega)) (Below.refl _ _) (fun _ => rfl)
    (UnI w.heap.size w) (fun _ _ _ => False) (unI_own (Nat.le_refl _) (by omega)) (fun _ _ _ _ _ hs _ _ => hs)
    ⟨⟨k0, k1⟩, hB0⟩ ?_ ?_ ?_ ?_ ?_
  rotate_left
  · intro l x W K hK
    gi_wp2
    exact hK
  · rintro r pre ⟨⟨x, i⟩, hi⟩ W ⟨⟨k0, k1⟩, hB⟩ hlt
    have hi' : (i : Int) ≤ 31 := by omega
    have hq : 3 - i / 8 < 4 := by omega
    have e3 : (3 : Int) - (i : Int) / 8 = ((3 - i / 8 : Nat) : Int) := by omega
    have cs := k1.cell (3 - i / 8)
    rw [ws_at _ hq] at cs
    have cf := k1.frozen (3 - i / 8)
    have hsn := unF_snoc pre ⟨(x, i), hi⟩
    unfold unS at hsn
    have hor := or_wrap (a := unF pre (3 - i / 8)) (x := x.toNat) x.toNat_lt
    have hl1 := unF_lt pre (3 - i / 8)
    dsimp only at hsn
    have HS := Lib.hid hsn
    clear hsn
    have HO := Lib.hid hor
    clear hor
    generalize unF pre (3 - i / 8) = y at *
    generalize 3 - i / 8 = q at *
    have HE := Lib.hid e3
    gi_wp2
    rw [wr_u64 (x.toNat : Int) (by omega) (by have := x.toNat_lt; omega), HO.out]
    have kk := k1.set q (.int .u64 ((y * 256 % M ||| x.toNat : Nat) : Int))
    rw [ws_set _ hq, ← HS.out] at kk
    have hbw := (Below.refl w.heap.size W).setCell (p := ⟨w.heap.size + 1, q, none⟩) (by simp) (.int .u64 ((y * 256 % M ||| x.toNat : Nat) : Int))
    exact ⟨KeepsOthers.setCell _ _ _, hbw, ⟨k0.other q _ (by omega), kk⟩, hB.trans hbw⟩
  · rintro D ys W hD rfl ⟨⟨k0, k1⟩, hB⟩ hK
    rw [unF_all HL.out] at k1
    have c10 : W.cell? ⟨w.heap.size + 1, 0, none⟩ = some (.int .u64 (uwd l 32 0 : Nat)) := k1.cell 0
    have c11 : W.cell? ⟨w.heap.size + 1, 1, none⟩ = some (.int .u64 (uwd l 32 1 : Nat)) := k1.cell 1
    have c12 : W.cell? ⟨w.heap.size + 1, 2, none⟩ = some (.int .u64 (uwd l 32 2 : Nat)) := k1.cell 2
    have c13 : W.cell? ⟨w.heap.size + 1, 3, none⟩ = some (.int .u64 (uwd l 32 3 : Nat)) := k1.cell 3
    have c00 : W.cell? ⟨w.heap.size, 0, none⟩ = some (.int .u64 ((0 : Nat) : Int)) := k0.cell 0
    have c01 : W.cell? ⟨w.heap.size, 1, none⟩ = some (.int .u64 ((0 : Nat) : Int)) := k0.cell 1
    have c02 : W.cell? ⟨w.heap.size, 2, none⟩ = some (.int .u64 ((0 : Nat) : Int)) := k0.cell 2
    have c03 : W.cell? ⟨w.heap.size, 3, none⟩ = some (.int .u64 ((0 : Nat) : Int)) := k0.cell 3
    have f0 := k0.frozen 0
    have f1 := k0.frozen 1
    have f2 := k0.frozen 2
    have f3 := k0.frozen 3
    have HZ := Lib.hid hz
    clear hz
    generalize hs0 : uwd l 32 0 = s0 at *
    have H0 := Lib.hid hs0
    clear hs0
    generalize hs1 : uwd l 32 1 = s1 at *
    have H1 := Lib.hid hs1
    clear hs1
    generalize hs2 : uwd l 32 2 = s2 at *
    have H2 := Lib.hid hs2
    clear hs2
    generalize hs3 : uwd l 32 3 = s3 at *
    have H3 := Lib.hid hs3
    clear hs3
    gi_wp2
    have hD' : w.heap.size < D := by have := HZ.out; omega
    have KO : KeepsOthers W ((((W.setCell ⟨w.heap.size, 0, none⟩ (.int .u64 (s0 : Nat))).setCell ⟨w.heap.size, 1, none⟩ (.int .u64 (s1 : Nat))).setCell ⟨w.heap.size, 2, none⟩ (.int .u64 (s2 : Nat))).setCell ⟨w.heap.size, 3, none⟩ (.int .u64 (s3 : Nat))) :=
      (((KeepsOthers.setCell _ _ _).trans (KeepsOthers.setCell _ _ _)).trans (KeepsOthers.setCell _ _ _)).trans (KeepsOthers.setCell _ _ _)
    have hK' := KO.same D _ hK rfl
    have k2' := ((((k0.set 0 (.int .u64 (s0 : Nat))).set 1 (.int .u64 (s1 : Nat))).set 2 (.int .u64 (s2 : Nat))).set 3 (.int .u64 (s3 : Nat))).kept (grownBy_putObj' _ D (.deferred none)) (by intro e; cases e; omega)
    have r0 := k2'.cell 0
    have r1 := k2'.cell 1
    have r2 := k2'.cell 2
    have r3 := k2'.cell 3
    simp only [ws, List.set_cons_zero, List.set_cons_succ, List.getElem?_cons_zero, List.getElem?_cons_succ] at r0 r1 r2 r3
    have hB' := ((((hB.setCell (p := ⟨w.heap.size, 0, none⟩) (Nat.le_refl _) (.int .u64 (s0 : Nat))).setCell (p := ⟨w.heap.size, 1, none⟩) (Nat.le_refl _) (.int .u64 (s1 : Nat))).setCell (p := ⟨w.heap.size, 2, none⟩) (Nat.le_refl _) (.int .u64 (s2 : Nat))).setCell (p := ⟨w.heap.size, 3, none⟩) (Nat.le_refl _) (.int .u64 (s3 : Nat))).trans (belowK_b (w := w) (Nat.le_refl _) _ D _ (.deferred none) (by omega) hK' rfl rfl)
    refine ⟨by simp, .inl ⟨_, _, rfl, run_takeDeferred hK', ?_⟩⟩
    refine ⟨.tuple #[wv s0 s1 s2 s3, .bool true], ?_, ?_⟩
    · simp [results, Try.f72, go_sem, r0, r1, r2, r3]
    · exact ⟨by rw [H0.out, H1.out, H2.out, H3.out], hB'⟩
  · rintro D c pre W _ _ h _
    exact h.elim

theorem unwide_any (l : List UInt8) (sv : Value) (w : World) (hsv : BSl 0 w.heap.size w sv l) : Calls Try.prog 72 #[sv] w (UnW l w) := by
  by_cases hl : l.length = 32
  · exact (callsIn_wide.1 (unwide_yes 2 (by omega) l sv w hl hsv)).mono fun e W' h => .inl ⟨hl, h.1, h.2⟩
  · exact (callsIn_wide.1 (unwide_no 2 l sv w hl hsv)).mono fun e W' h => .inr ⟨hl, h⟩

end Go.Proofs.Ytififfadodjmeaa

namespace Go.Proofs.Ytififfadodjmeaa
open Go.RowKit Go.Shelf

theorem err_nil (w : World) :
    Calls Try.prog 23 #[.pointer none] w fun e W' => e = .returned (.int .i64 9) ∧ w = W' := by
  go_enter Try.func23, Try.ntmps23
  go_wp2
  go_ret
  exact ⟨rfl, rfl⟩
theorem err_at {B : Nat} {m : Bool} {sv : Value} {x : Int} (w : World) (h : Blk w B 80 [.bool m, sv, .int .i64 x]) :
    Calls Try.prog 23 #[.pointer (some ⟨B, 0, none⟩)] w fun e W' => e = .returned (.int .i64 (if m then x else 9)) ∧ w = W' := by
  obtain ⟨c0, -, c2⟩ := h.c3
  cases m
  all_goals
    go_enter Try.func23, Try.ntmps23
    go_wp2
    go_ret
    exact ⟨rfl, rfl⟩
theorem inErr_any {p : Option Addr} {s : St} (w : World) (h : ObjP 80 w p s) :
    Calls Try.prog 23 #[.pointer p] w fun e W' => e = .returned (.int .i64 s.2) ∧ w = W' := by
  rcases h with ⟨rfl, rfl⟩ | ⟨B, m, a, n, c, x, rfl, hb, ⟨rfl, rfl⟩ | ⟨rfl, rfl, _, _⟩⟩
  · exact err_nil w
  · exact err_at w hb
  · exact err_at w hb

theorem inFail_any {p : Option Addr} {s : St} (x : Int) (w : World) (h : ObjP 80 w p s) :
    Calls Try.prog 70 #[.pointer p, .int .i64 x] w (DidS 80 p (errS s x) w) := by
  by_cases hf : s.2 = 0
  · have h' := h
    rcases h with ⟨rfl, rfl⟩ | ⟨B, m, a, n, c, x0, rfl, hb, ⟨rfl, rfl⟩ | ⟨rfl, hx, hok, hsl⟩⟩
    · simp at hf
    · simp at hf
    have e1 : errS s x = ([], x) := if_pos hf
    rw [e1]
    clear e1
    have HF := Lib.hid hf
    have HX := Lib.hid hx
    clear hf hx
    obtain ⟨-, c1, c2⟩ := hb.c3
    have f1 := hb.frozen 1
    have f2 := hb.frozen 2
    go_enter Try.func70, Try.ntmps70
    go_wp2_with (go_at_call 23; refine (inErr_any _ h').mono ?_; rw [HF.out]; rintro e w' ⟨rfl, rfl⟩)
    go_end0
    refine ⟨rfl, .inr ⟨B, true, none, 0, 0, x, rfl, ?_, .inr ⟨rfl, rfl, ⟨fun _ => rfl, by simp⟩, BSl.nil _ _ _⟩⟩, ?_⟩
    · exact (hb.set 1 (.slice none 0 0)).set 2 (.int .i64 x)
    · exact (grownBy_setCell4 w B 1 _).trans (grownBy_setCell4 _ B 2 _)
  · rw [errS_bad hf]
    have hf1 : (s.2 == 0) = false := by simpa using hf
    go_enter Try.func70, Try.ntmps70
    go_wp2_with (go_at_call 23; refine (inErr_any _ h).mono ?_; rintro e w' ⟨rfl, rfl⟩)
    go_end0
    exact ⟨rfl, h, World.grownBy.refl _ _⟩
theorem inSpoil_any {p : Option Addr} {s : St} (w : World) (h : ObjP 80 w p s) :
    Calls Try.prog 50 #[.pointer p] w (DidS 80 p (errS s 16) w) := by
  go_enter Try.func50, Try.ntmps50
  go_wp2_with (go_at_call 70; refine (inFail_any _ _ h).mono ?_; rintro e w' ⟨rfl, hO, hG⟩)
  go_end0
  exact ⟨rfl, hO, hG⟩

theorem inLeft_any {p : Option Addr} {s : St} (w : World) (h : ObjP 80 w p s) :
    Calls Try.prog 24 #[.pointer p] w fun e W' => e = .returned (.int .i64 (s.1.length : Nat)) ∧ w = W' := by
  by_cases hf : s.2 = 0
  · have h' := h
    rcases h with ⟨rfl, rfl⟩ | ⟨B, m, a, n, c, x0, rfl, hb, ⟨rfl, rfl⟩ | ⟨rfl, hx, hok, hsl⟩⟩
    · simp at hf
    · simp at hf
    have hsl0 := hsl
    obtain ⟨a', c', e', _, _⟩ := hsl0
    cases e'
    have HF := Lib.hid hf
    have HX := Lib.hid hx
    clear hf hx
    obtain ⟨-, c1, c2⟩ := hb.c3
    generalize s.1.length = n at *
    go_enter Try.func24, Try.ntmps24
    go_wp2_with (go_at_call 23; refine (inErr_any _ h').mono ?_; rw [HF.out]; rintro e w' ⟨rfl, rfl⟩)
    go_ret
    exact ⟨rfl, rfl⟩
  · have hs1 := h.ok.1 hf
    have hf1 : (s.2 == 0) = false := by simpa using hf
    have hf2 : (s.2 != 0) = true := by simpa using hf
    have HS := Lib.hid hs1
    clear hs1
    go_enter Try.func24, Try.ntmps24
    go_wp2_with (go_at_call 23; refine (inErr_any _ h).mono ?_; rintro e w' ⟨rfl, rfl⟩)
    go_ret
    exact ⟨by rw [HS.out]; rfl, rfl⟩

theorem bsl_take {lo hi : Nat} {W : World} {a : Option Addr} {n c : Nat} {l : List UInt8} (h : BSl lo hi W (.slice a n c) l) {k : Nat} (hk : k ≤ l.length) : BSl lo hi W (.slice a k k) (l.take k) := by
  obtain ⟨a', c', e, hc, h0⟩ := h
  cases e
  refine ⟨a, k, by rw [List.length_take, Nat.min_eq_left hk], by rw [List.length_take]; omega, ?_⟩
  rcases h0 with rfl | ⟨b, off, ha, hl, hh, ho⟩
  · exact .inl (by simp)
  · refine .inr ⟨b, off, ha, hl, hh, fun i x hx => ho i x ?_⟩
    have hi : i < k := by have := (List.getElem?_eq_some_iff.1 hx).1; rw [List.length_take] at this; omega
    rwa [List.getElem?_take_of_lt hi] at hx
theorem bsl_drop {lo hi : Nat} {W : World} {a : Option Addr} {n c : Nat} {l : List UInt8} (h : BSl lo hi W (.slice a n c) l) {k : Nat} (hk : k ≤ l.length) : BSl lo hi W (.slice (a.map fun x => x.add k) (n - k) (c - k)) (l.drop k) := by
  obtain ⟨a', c', e, hc, h0⟩ := h
  cases e
  refine ⟨_, _, by rw [List.length_drop], by rw [List.length_drop]; omega, ?_⟩
  rcases h0 with rfl | ⟨b, off, rfl, hl, hh, ho⟩
  · exact .inl (by simp)
  · have hp : (⟨b, off, none⟩ : Addr).add k = ⟨b, off + k, none⟩ := by cases k <;> simp [Addr.add]
    refine .inr ⟨b, off + k, by simp [hp], hl, hh, fun i x hx => ?_⟩
    rw [List.getElem?_drop] at hx
    have := ho _ x hx
    rwa [← Nat.add_assoc] at this
theorem bsl_none {lo hi : Nat} {W : World} {a : Option Addr} {n c : Nat} {l : List UInt8} (h : BSl lo hi W (.slice a n c) l) {k : Nat} (hk : k ≤ l.length) (hck : c = k) : BSl lo hi W (.slice a (n - k) (c - k)) (l.drop k) := by
  obtain ⟨a', c', e, hc, h0⟩ := h
  cases e
  have e : l.drop k = [] := List.drop_of_length_le (by omega)
  rw [e]
  exact ⟨_, _, by rw [show l.length - k = 0 by omega]; rfl, by simp, .inl rfl⟩
/-- What is lent, and the state behind it. -/
def LentS (T : TypeId) (p : Option Addr) (r : List UInt8 × St) (w : World) (e : Ending) (W' : World) : Prop :=
  ∃ sv, e = .returned sv ∧ BSl 0 W'.heap.size W' sv r.1 ∧ ObjP T W' p r.2 ∧ w.grownBy W' (p.map (·.block))

set_option maxRecDepth 100000 in
set_option maxHeartbeats 1000000 in
theorem inLend_any {p : Option Addr} {s : St} (k : Nat) (hk : k ≤ 100000) (w : World) (h : ObjP 80 w p s) :
    Calls Try.prog 68 #[.pointer p, .int .i64 (k : Nat)] w (LentS 80 p (takeS s k) w) := by
  by_cases hf : s.2 = 0
  · by_cases hfit : k ≤ s.1.length
    · rw [takeS_ok hf hfit]
      have h' := h
      rcases h with ⟨rfl, rfl⟩ | ⟨B, m, a, n, c, x0, rfl, hb, ⟨rfl, rfl⟩ | ⟨rfl, hx, hok, hsl⟩⟩
      · simp at hf
      · simp at hf
      have hsl0 := hsl
      obtain ⟨a', c', e', hcap, h0⟩ := hsl0
      cases e'
      have HF := Lib.hid hf
      have HX := Lib.hid hx
      clear hf hx
      obtain ⟨-, c1, c2⟩ := hb.c3
      have f1 := hb.frozen 1
      generalize hn : s.1.length = n at *
      have HN := Lib.hid hn
      clear hn
      have hgt : ¬ ((n : Int) < (k : Int)) := by omega
      have hle : (k : Int) ≤ (n : Int) := by omega
      have hle2 : (k : Int) ≤ (c : Int) := by omega
      have hfin : ∀ V, (∃ a' n' c', V = Value.slice a' n' c') → BSl 0 w.heap.size w V (s.1.drop k) → LentS 80 (some ⟨B, 0, none⟩) (s.1.take k, s.1.drop k, 0) w (.returned (.slice a k k)) (w.setCell ⟨B, 1, none⟩ V) := by
        rintro V ⟨a', n', c', rfl⟩ hV
        have G1 := grownBy_setCell4 w B 1 (.slice a' n' c')
        have hno : ∀ r, some B = some r → NoOct w r := fun r e => by cases e; exact noOct3 hb
        refine ⟨_, rfl, ((bsl_take hsl (by rw [HN.out]; exact hfit)).to (Nat.le_refl _) G1 hno).mono (Nat.le_refl _) G1.size, .inr ⟨B, true, a', n', c', x0, rfl, hb.set 1 _, .inr ⟨rfl, HF.out.symm.trans HX.out, ⟨fun k => absurd rfl k, ?_⟩, ((hV.to (Nat.le_refl _) G1 hno).mono (Nat.le_refl _) G1.size)⟩⟩, G1⟩
        have := hok.2
        simp only [List.length_drop]; omega
      have HFIN := Lib.hid hfin
      have HDR := Lib.hid (bsl_drop hsl (k := k) (by rw [HN.out]; exact hfit))
      have HDN := Lib.hid (fun e => bsl_none hsl (k := k) (by rw [HN.out]; exact hfit) e)
      clear hfin
      by_cases hck : c = k
      · subst hck
        go_enter Try.func68, Try.ntmps68
        go_wp2_with (first
          | (go_at_call 24; refine (inLeft_any _ h').mono ?_; rw [HN.out]; rintro e w' ⟨rfl, rfl⟩)
          | (go_at_call 23; refine (inErr_any _ h').mono ?_; rw [HF.out]; rintro e w' ⟨rfl, rfl⟩))
        go_ret
        have := HFIN.out _ ⟨_, _, _, rfl⟩ (HDN.out (by trivial))
        rw [show n - c = 0 by omega, Nat.sub_self] at this
        exact this
      · go_enter Try.func68, Try.ntmps68
        go_wp2_with (first
          | (go_at_call 24; refine (inLeft_any _ h').mono ?_; rw [HN.out]; rintro e w' ⟨rfl, rfl⟩)
          | (go_at_call 23; refine (inErr_any _ h').mono ?_; rw [HF.out]; rintro e w' ⟨rfl, rfl⟩))
        go_ret
        exact HFIN.out _ ⟨_, _, _, rfl⟩ HDR.out
    · rw [takeS_short hf (by omega)]
      have hgt : (s.1.length : Int) < (k : Int) := by omega
      have e5 := Lib.hid (show errS s 16 = ([], 16) from if_pos hf)
      clear hf
      go_enter Try.func68, Try.ntmps68
      go_wp2_with (first
        | (go_at_call 24; refine (inLeft_any _ h).mono ?_; rintro e w' ⟨rfl, rfl⟩)
        | (go_at_call 70; refine (inFail_any _ _ h).mono ?_; rw [e5.out]; rintro e w1 ⟨rfl, hO, hG⟩)
        | (go_at_call 23; refine (inErr_any _ hO).mono ?_; rintro e w' ⟨rfl, rfl⟩))
      go_ret
      exact ⟨_, rfl, BSl.nil _ _ _, hO, hG⟩
  · rw [takeS_bad hf]
    have hs1 := h.ok.1 hf
    have hf1 : (s.2 == 0) = false := by simpa using hf
    have hf2 : (s.2 != 0) = true := by simpa using hf
    have HE := Lib.hid (errS_bad hf 16)
    have HL : Hid ((s.1.length : Nat) = 0) := by rw [hs1]; exact Lib.hid rfl
    clear hs1 hf
    by_cases h0 : k = 0
    · subst h0
      go_enter Try.func68, Try.ntmps68
      go_wp2_with (first
        | (go_at_call 24; refine (inLeft_any _ h).mono ?_; rw [HL.out]; rintro e w' ⟨rfl, rfl⟩)
        | (go_at_call 23; refine (inErr_any _ h).mono ?_; rintro e w' ⟨rfl, rfl⟩))
      go_ret
      exact ⟨_, rfl, BSl.nil _ _ _, h, World.grownBy.refl _ _⟩
    · have hgt : (0 : Int) < (k : Int) := by omega
      go_enter Try.func68, Try.ntmps68
      go_wp2_with (first
        | (go_at_call 24; refine (inLeft_any _ h).mono ?_; rw [HL.out]; rintro e w' ⟨rfl, rfl⟩)
        | (go_at_call 70; refine (inFail_any _ _ h).mono ?_; rw [HE.out]; rintro e w1 ⟨rfl, hO, hG⟩)
        | (go_at_call 23; refine (inErr_any _ hO).mono ?_; rintro e w' ⟨rfl, rfl⟩))
      go_ret
      exact ⟨_, rfl, BSl.nil _ _ _, hO, hG⟩

/-- A number is read, or none; the state behind it. -/
def NumS (T : TypeId) (p : Option Addr) (r : Nat × St) (w : World) (e : Ending) (W' : World) : Prop :=
  e = .returned (.int .i64 (r.1 : Nat)) ∧ ObjP T W' p r.2 ∧ w.grownBy W' (p.map (·.block))
theorem be7_le (l : List UInt8) : be (l.take 7) ≤ 72057594037927935 := by
  have := be_lt' (l := l.take 7) (k := 7) (by rw [List.length_take]; omega)
  omega

set_option maxRecDepth 100000 in
theorem inMost_any {p : Option Addr} {s : St} (size : Nat) (most : Int) (hk : size ≤ 100000) (w : World) (h : ObjP 80 w p s) :
    Calls Try.prog 69 #[.pointer p, .int .i64 (size : Nat), .int .i64 most] w (NumS 80 p (mostS s size most) w) := by
  have hl := takeS_len s size
  have hb7 := be7_le (takeS s size).1
  have he : (takeS s size).2.2 ≠ 0 → be ((takeS s size).1.take 7) = 0 := fun e => by rw [takeS_err e]; rfl
  have H := inLend_any (p := p) size hk w h
  unfold mostS
  generalize takeS s size = r at *
  have HB := Lib.hid (fun sv w1 hs => blobInt_any r.1 sv w1 (by omega) hs)
  generalize be (r.1.take 7) = b at *
  by_cases hlt : most < (b : Int)
  · by_cases hf : r.2.2 = 0
    · rw [if_pos ⟨hf, hlt⟩]
      have e5 := Lib.hid (show errS r.2 4 = ([], 4) from if_pos hf)
      clear hf he
      go_enter Try.func69, Try.ntmps69
      go_wp2_with (first
        | (go_at_call 68; refine H.mono ?_; rintro e w1 ⟨v, rfl, hv, hO1, hG1⟩)
        | (go_at_call 85; refine (HB.out _ _ hv).mono ?_; rintro e w2 ⟨rfl, hb2⟩)
        | (go_at_call 70; refine (inFail_any _ _ (hO1.below hb2)).mono ?_; rw [e5.out]; rintro e w3 ⟨rfl, hO3, hG3⟩))
      go_ret
      exact ⟨rfl, hO3, (hG1.trans (grew hb2 _)).trans hG3⟩
    · rw [if_neg (fun e => hf e.1)]
      obtain rfl := he hf
      have e5 := Lib.hid (errS_bad hf 4)
      clear hf he
      go_enter Try.func69, Try.ntmps69
      go_wp2_with (first
        | (go_at_call 68; refine H.mono ?_; rintro e w1 ⟨v, rfl, hv, hO1, hG1⟩)
        | (go_at_call 85; refine (HB.out _ _ hv).mono ?_; rintro e w2 ⟨rfl, hb2⟩)
        | (go_at_call 70; refine (inFail_any _ _ (hO1.below hb2)).mono ?_; rw [e5.out]; rintro e w3 ⟨rfl, hO3, hG3⟩))
      go_ret
      exact ⟨rfl, hO3, (hG1.trans (grew hb2 _)).trans hG3⟩
  · rw [if_neg (fun e => hlt e.2)]
    clear he
    go_enter Try.func69, Try.ntmps69
    go_wp2_with (first
      | (go_at_call 68; refine H.mono ?_; rintro e w1 ⟨v, rfl, hv, hO1, hG1⟩)
      | (go_at_call 85; refine (HB.out _ _ hv).mono ?_; rintro e w2 ⟨rfl, hb2⟩))
    go_ret
    exact ⟨rfl, hO1.below hb2, hG1.trans (grew hb2 _)⟩

theorem inNumP_any {p : Option Addr} {s : St} (most m : Int) (hm : (1099511627776 < most ∧ m = 1099511627776) ∨ (¬ 1099511627776 < most ∧ m = most)) (w : World) (h : ObjP 80 w p s) :
    Calls Try.prog 49 #[.pointer p, .int .i64 most] w (NumS 80 p (mostS s 6 m) w) := by
  have H : Calls Try.prog 69 #[.pointer p, .int .i64 6, .int .i64 m] w (NumS 80 p (mostS s 6 m) w) := inMost_any (p := p) 6 m (by omega) w h
  rcases hm with ⟨hc, rfl⟩ | ⟨hc, rfl⟩
  all_goals
    go_enter Try.func49, Try.ntmps49
    go_wp2_with (go_at_call 69; refine H.mono ?_; rintro e w1 ⟨rfl, hO1, hG1⟩)
    go_ret
    exact ⟨rfl, hO1, hG1⟩
theorem inNum_any {p : Option Addr} {s : St} (most : Int) (w : World) (h : ObjP 80 w p s) :
    Calls Try.prog 49 #[.pointer p, .int .i64 most] w (NumS 80 p (mostS s 6 (min most 1099511627776)) w) := inNumP_any most _ (by omega) w h

/-- A text is read, or none; the state behind it. -/
def TxtS (T : TypeId) (p : Option Addr) (r : List UInt8 × St) (w : World) (e : Ending) (W' : World) : Prop :=
  e = .returned (.string ⟨r.1.toArray⟩) ∧ ObjP T W' p r.2 ∧ w.grownBy W' (p.map (·.block))
theorem be2_le (l : List UInt8) (h : l.length ≤ 2) : be (l.take 7) ≤ 65535 := by
  have := be_lt' (l := l.take 7) (k := 2) (by rw [List.length_take]; omega)
  omega
theorem most2_le (s : St) (m : Int) : (mostS s 2 m).1 ≤ 65535 := by
  unfold mostS; split
  · simp
  · exact be2_le _ (takeS_len _ _)
theorem inTextP_any {p : Option Addr} {s : St} (most m : Int) (hm : (1024 < most ∧ m = 1024) ∨ (¬ 1024 < most ∧ m = most)) (w : World) (h : ObjP 80 w p s) :
    Calls Try.prog 48 #[.pointer p, .int .i64 most] w (TxtS 80 p (gtxtS s m) w) := by
  have H : Calls Try.prog 69 #[.pointer p, .int .i64 2, .int .i64 m] w (NumS 80 p (mostS s 2 m) w) := inMost_any (p := p) 2 m (by omega) w h
  have h6 := most2_le s m
  unfold gtxtS
  generalize mostS s 2 m = r at *
  rcases hm with ⟨hc, rfl⟩ | ⟨hc, rfl⟩
  all_goals
    go_enter Try.func48, Try.ntmps48
    go_wp2_with (first
      | (go_at_call 69; refine H.mono ?_; rintro e w1 ⟨rfl, hO1, hG1⟩)
      | (go_at_call 68; refine (inLend_any r.1 (by omega) w1 hO1).mono ?_; rintro e w2 ⟨v, rfl, hv, hO2, hG2⟩; have hst := run_string (P := Try.prog) 37 5 9 Try.underlying37 Try.underlying5 Try.underlying9 w2 hv))
    go_ret
    exact ⟨rfl, hO2, hG1.trans hG2⟩
theorem inText_any {p : Option Addr} {s : St} (most : Int) (w : World) (h : ObjP 80 w p s) :
    Calls Try.prog 48 #[.pointer p, .int .i64 most] w (TxtS 80 p (gtxtS s (min most 1024)) w) := inTextP_any most _ (by omega) w h

/-- Word i of 32 octets; 0, if there are not so many. -/
def wdS (l : List UInt8) (i : Nat) : Nat := if l.length = 32 then uwd l 32 i else 0
/-- A wide number is read, or none. -/
def WidS (T : TypeId) (p : Option Addr) (r : List UInt8 × St) (w : World) (e : Ending) (W' : World) : Prop :=
  e = .returned (wv (wdS r.1 0) (wdS r.1 1) (wdS r.1 2) (wdS r.1 3)) ∧ ObjP T W' p r.2 ∧ w.grownBy W' (p.map (·.block))
theorem unwideS_any (l : List UInt8) (sv : Value) (w : World) (hsv : BSl 0 w.heap.size w sv l) :
    Calls Try.prog 72 #[sv] w fun e W' => e = .returned (.tuple #[wv (wdS l 0) (wdS l 1) (wdS l 2) (wdS l 3), .bool (decide (l.length = 32))]) ∧ Below w.heap.size w W' := by
  refine (unwide_any l sv w hsv).mono ?_
  rintro e W' (⟨h, he, hb⟩ | ⟨h, he, hb⟩)
  · exact ⟨by rw [he]; unfold wdS; simp only [h, if_true, decide_true], hb⟩
  · exact ⟨by rw [he]; unfold wdS; simp only [h, if_false, decide_false], hb⟩
theorem ptr_lt {T : TypeId} {W : World} {p : Option Addr} {s : St} (h : ObjP T W p s) {n : Nat} (hn : W.heap.size ≤ n) : some n ≠ p.map (·.block) := by
  rcases h with ⟨rfl, _⟩ | ⟨B, m, a, n', c, x, rfl, hb, _⟩
  · simp
  · intro e
    have := hb.lt
    have : n = B := by simpa using e
    omega
theorem noOct4 {W : World} {B : Nat} {T : TypeId} {b0 b1 b2 b3 : Int} (h : Blk W B T [.int .u64 b0, .int .u64 b1, .int .u64 b2, .int .u64 b3]) : NoOct W B := noOct_blk h (by
  intro v hv y
  simp only [List.mem_cons, List.not_mem_nil, or_false] at hv
  rcases hv with rfl | rfl | rfl | rfl <;> simp [bv])
/-- Words are stored into a block of the call's own. -/
theorem wide_stored {T Tw : TypeId} {p : Option Addr} {s : St} {w w0 w1 w2 : World} {a0 a1 a2 a3 : Int} {b0 b1 b2 b3 : Int} (hO : ObjP T w1 p s) (hG0 : w.grownBy w0 (p.map (·.block))) (hG1 : w0.grownBy w1 (p.map (·.block))) (hb2 : Below w1.heap.size w1 w2) (o : Obj)
    (kR : Blk w2 w.heap.size Tw [.int .u64 b0, .int .u64 b1, .int .u64 b2, .int .u64 b3]) (hne : some w.heap.size ≠ p.map (·.block)) :
    Blk (((((w2.alloc o).setCell ⟨w.heap.size, 0, none⟩ (.int .u64 a0)).setCell ⟨w.heap.size, 1, none⟩ (.int .u64 a1)).setCell ⟨w.heap.size, 2, none⟩ (.int .u64 a2)).setCell ⟨w.heap.size, 3, none⟩ (.int .u64 a3)) w.heap.size Tw [.int .u64 a0, .int .u64 a1, .int .u64 a2, .int .u64 a3] ∧
    ObjP T (((((w2.alloc o).setCell ⟨w.heap.size, 0, none⟩ (.int .u64 a0)).setCell ⟨w.heap.size, 1, none⟩ (.int .u64 a1)).setCell ⟨w.heap.size, 2, none⟩ (.int .u64 a2)).setCell ⟨w.heap.size, 3, none⟩ (.int .u64 a3)) p s ∧
    w.grownBy (((((w2.alloc o).setCell ⟨w.heap.size, 0, none⟩ (.int .u64 a0)).setCell ⟨w.heap.size, 1, none⟩ (.int .u64 a1)).setCell ⟨w.heap.size, 2, none⟩ (.int .u64 a2)).setCell ⟨w.heap.size, 3, none⟩ (.int .u64 a3)) (p.map (·.block)) := by
  have k0 := kR.alloc o
  have k1 := k0.set 0 (.int .u64 a0)
  have k2 := k1.set 1 (.int .u64 a1)
  have k3 := k2.set 2 (.int .u64 a2)
  have k4 := k3.set 3 (.int .u64 a3)
  have O0 : ObjP T (w2.alloc o) p s := (hO.below hb2).below (chain0 _ _)
  have st : ∀ (W : World) (i : Nat) (v : Value), NoOct W w.heap.size → ObjP T W p s → ObjP T (W.setCell ⟨w.heap.size, i, none⟩ v) p s := fun W i v hno h => h.to (grownBy_setCell4 W w.heap.size i v) (fun r e => by cases e; exact ⟨hno, fun e => hne e.symm⟩)
  have O1 := st _ 0 (.int .u64 a0) (noOct4 k0) O0
  have O2 := st _ 1 (.int .u64 a1) (noOct4 k1) O1
  have O3 := st _ 2 (.int .u64 a2) (noOct4 k2) O2
  have O4 := st _ 3 (.int .u64 a3) (noOct4 k3) O3
  have G0 : w.grownBy (w2.alloc o) (p.map (·.block)) := ((hG0.trans hG1).trans (grew hb2 _)).trans (World.grownBy_alloc _ _ _)
  have sg : ∀ (W : World) (i : Nat) (v : Value), w.grownBy W (p.map (·.block)) → w.grownBy (W.setCell ⟨w.heap.size, i, none⟩ v) (p.map (·.block)) := fun W i v h => h.andThen (grownBy_setCell4 W w.heap.size i v) (fun j e => by cases e; exact .inl (Nat.le_refl _))
  exact ⟨k4, O4, sg _ _ _ (sg _ _ _ (sg _ _ _ (sg _ _ _ G0)))⟩
set_option maxRecDepth 100000 in
set_option maxHeartbeats 1000000 in
theorem inWide_any {p : Option Addr} {s : St} (w : World) (h : ObjP 80 w p s) :
    Calls Try.prog 52 #[.pointer p] w (WidS 80 p (takeS s 32) w) := by
  have hne := ptr_lt h (Nat.le_refl _)
  have hO0 := h.below (chain0 w (.cells #[.int .u64 0, .int .u64 0, .int .u64 0, .int .u64 0] 26))
  have kR0 : Blk (w.alloc (.cells #[.int .u64 0, .int .u64 0, .int .u64 0, .int .u64 0] 26)) w.heap.size 26 [.int .u64 0, .int .u64 0, .int .u64 0, .int .u64 0] := Blk.new w _ [_, _, _, _]
  have hG0 : w.grownBy (w.alloc (.cells #[.int .u64 0, .int .u64 0, .int .u64 0, .int .u64 0] 26)) (p.map (·.block)) := World.grownBy_alloc _ _ _
  have H := inLend_any (p := p) 32 (by omega) _ hO0
  generalize takeS s 32 = r at *
  have HU := Lib.hid (fun sv w1 hs => unwideS_any r.1 sv w1 hs)
  have HN := Lib.hid hne
  clear h hO0 hne
  generalize hq0 : wdS r.1 0 = a0 at *
  have HQ0 := Lib.hid hq0
  clear hq0
  generalize hq1 : wdS r.1 1 = a1 at *
  have HQ1 := Lib.hid hq1
  clear hq1
  generalize hq2 : wdS r.1 2 = a2 at *
  have HQ2 := Lib.hid hq2
  clear hq2
  generalize hq3 : wdS r.1 3 = a3 at *
  have HQ3 := Lib.hid hq3
  clear hq3
  generalize (decide (r.1.length = 32)) = bb at *
  go_enter Try.func52, Try.ntmps52
  go_wp2_with (first
    | (go_at_call 68; refine H.mono ?_; rintro e w1 ⟨v, rfl, hv, hO1, hG1⟩)
    | (go_at_call 72; refine (HU.out _ _ hv).mono ?_; rintro e w2 ⟨rfl, hb2⟩; have kR2 := (kR0.kept hG1 HN.out).below hb2 (kR0.kept hG1 HN.out).lt; have r0 := fun o => (Blk.c4 (kR2.alloc o)).1; have r1 := fun o => (Blk.c4 (kR2.alloc o)).2.1; have r2 := fun o => (Blk.c4 (kR2.alloc o)).2.2.1; have r3 := fun o => (Blk.c4 (kR2.alloc o)).2.2.2; have g0 := fun o => (kR2.alloc o).frozen 0; have g1 := fun o => (kR2.alloc o).frozen 1; have g2 := fun o => (kR2.alloc o).frozen 2; have g3 := fun o => (kR2.alloc o).frozen 3))
  obtain ⟨kR3, hO3, hG3⟩ := wide_stored (p := p) hO1 hG0 hG1 hb2 (.cells #[.int .u64 a0, .int .u64 a1, .int .u64 a2, .int .u64 a3] 26) kR2 HN.out (a0 := a0) (a1 := a1) (a2 := a2) (a3 := a3)
  obtain ⟨q0, q1, q2, q3⟩ := Blk.c4 kR3
  exact bodyPost_ret (v := wv a0 a1 a2 a3) (by simp [results, Try.results52, go_sem, q0, q1, q2, q3]) rfl ⟨by rw [HQ0.out, HQ1.out, HQ2.out, HQ3.out], hO3, hG3⟩

/-- An In of octets. -/
def openS (l : List UInt8) : St := if l.length ≤ 8192 then (l, 0) else ([], 5)
theorem openS_ok (l : List UInt8) : OkS (openS l) := by
  unfold openS; split
  · exact ⟨fun k => absurd rfl k, by simpa using ‹_›⟩
  · exact ⟨fun _ => rfl, by simp⟩
theorem inOpen_any (l : List UInt8) (sv : Value) (w : World) (hl : l.length ≤ 140737488351232) (hsv : BSl 0 w.heap.size w sv l) :
    Calls Try.prog 19 #[sv] w fun e W' => ∃ NB, e = .returned (.pointer (some ⟨NB, 0, none⟩)) ∧ w.heap.size ≤ NB ∧ ObjP 80 W' (some ⟨NB, 0, none⟩) (openS l) ∧ Below w.heap.size w W' := by
  obtain ⟨a, c, rfl, -⟩ := hsv.shape
  have HOK := openS_ok l
  unfold openS at *
  generalize hn : l.length = n at *
  have HN := Lib.hid hn
  clear hn
  by_cases hfit : n ≤ 8192
  · rw [if_pos hfit] at *
    have hgt : ¬ (8192 : Int) < (n : Int) := by omega
    go_enter Try.func19, Try.ntmps19
    go_wp2_with (go_at_call 44; refine (clone_any l _ w (by rw [HN.out]; omega) hsv (Nat.le_refl _)).mono ?_; rintro e w1 ⟨v, rfl, hv, hb1⟩; obtain ⟨va, vm, vc, rfl⟩ := (BSl.of_own hv).shape3)
    go_ret
    have hB := chainA hb1 (.cells #[.bool true, .slice va vm vc, .int .i64 0] 80)
    have hB1 := chain0 w1 (.cells #[.bool true, .slice va vm vc, .int .i64 0] 80)
    exact ⟨w1.heap.size, rfl, hb1.size, .inr ⟨_, true, va, vm, vc, 0, rfl, Blk.new w1 _ [_, _, _], .inr ⟨rfl, rfl, HOK, (((BSl.of_own hv).below hB1 (Nat.le_refl _)).mono (Nat.zero_le _) hB1.size)⟩⟩, hB⟩
  · rw [if_neg hfit] at *
    have hgt : (8192 : Int) < (n : Int) := by omega
    go_enter Try.func19, Try.ntmps19
    go_wp2
    go_ret
    exact ⟨w.heap.size, rfl, Nat.le_refl _, .inr ⟨_, true, none, 0, 0, 5, rfl, Blk.new w _ [_, _, _], .inr ⟨rfl, rfl, HOK, BSl.nil _ _ _⟩⟩, chain0 _ _⟩
end Go.Proofs.Ytififfadodjmeaa

namespace Go.Proofs.Ytififfadodjmeaa
open Go.RowKit Go.Shelf

structure Trf where
  us : Int
  rt : ByteArray
  ro : Int
  se : Int
  re : Int
  to : Int
  id : ByteArray
/-- A transfer as a value. -/
abbrev ivv (i : Trf) : Value := .agg #[.int .i64 i.us, .string i.rt, .int .i64 i.ro, .int .i64 i.se, .int .i64 i.re, .int .i64 i.to, .string i.id]
/-- Its cells. -/
abbrev ivc (i : Trf) : List Value := [.int .i64 i.us, .string i.rt, .int .i64 i.ro, .int .i64 i.se, .int .i64 i.re, .int .i64 i.to, .string i.id]
structure OkI (i : Trf) : Prop where
  rs : i.rt.size ≤ 140737488351232
  is : i.id.size ≤ 140737488351232
def emptyB : ByteArray := ⟨#[]⟩
def noI : Trf := ⟨0, ⟨#[]⟩, 0, 0, 0, 0, ⟨#[]⟩⟩
def maybeI (i : Trf) : Prop := (0 ≤ i.us ∧ i.us ≤ 1) ∧ i.rt.size = 8 ∧ (2 ≤ i.ro ∧ i.ro ≤ 3) ∧ (0 ≤ i.se ∧ i.se ≤ 1) ∧ (0 ≤ i.re ∧ i.re ≤ 1) ∧ (0 ≤ i.to ∧ i.to ≤ 7) ∧ 1 ≤ i.id.size ∧ i.id.size ≤ 16
instance (i : Trf) : Decidable (maybeI i) := by unfold maybeI; infer_instance
def errI (i : Trf) : Int := if maybeI i then 0 else 39

structure Sid where
  a0 : Nat
  a1 : Nat
  a2 : Nat
  a3 : Nat
  x : Int
abbrev svv (v : Sid) : Value := .agg #[.int .u64 (v.a0 : Nat), .int .u64 (v.a1 : Nat), .int .u64 (v.a2 : Nat), .int .u64 (v.a3 : Nat), .int .i64 v.x]
abbrev svc (v : Sid) : List Value := [.int .u64 (v.a0 : Nat), .int .u64 (v.a1 : Nat), .int .u64 (v.a2 : Nat), .int .u64 (v.a3 : Nat), .int .i64 v.x]
def noV : Sid := ⟨0, 0, 0, 0, 0⟩
def maybeV (v : Sid) : Prop := ¬ (v.a0 = 0 ∧ v.a1 = 0 ∧ v.a2 = 0 ∧ v.a3 = 0) ∧ 0 ≤ v.x ∧ v.x ≤ 1099511627776
instance (v : Sid) : Decidable (maybeV v) := by unfold maybeV; infer_instance
def errV (v : Sid) : Int := if maybeV v then 0 else 36

/-- The texts "inv", "act". -/
def invB : ByteArray := ⟨#[105, 110, 118]⟩
def actB : ByteArray := ⟨#[97, 99, 116]⟩
def putI1 (s : St) (i : Trf) : St := txtS (numS (txtS s invB) i.us) i.rt
def putI2 (s : St) (i : Trf) : St := numS (numS (numS (numS s i.ro) i.se) i.re) i.to
def putI (s : St) (i : Trf) : St := txtS (putI2 (putI1 s i) i) i.id
def putV (s : St) (v : Sid) : St := numS (wideS s v.a0 v.a1 v.a2 v.a3) v.x
def paySt (act : Int) (key : ByteArray) (a0 a1 a2 a3 : Nat) : St := wideS (txtS (numS (txtS ([], 0) actB) act) key) a0 a1 a2 a3
theorem okS_new : OkS ([], 0) := ⟨fun _ => rfl, by simp⟩
theorem okS_putI1 {s : St} (h : OkS s) (i : Trf) : OkS (putI1 s i) := okS_txt (okS_num (okS_txt h _) _) _
theorem okS_putI2 {s : St} (h : OkS s) (i : Trf) : OkS (putI2 s i) := okS_num (okS_num (okS_num (okS_num h _) _) _) _
theorem okS_putI {s : St} (h : OkS s) (i : Trf) : OkS (putI s i) := okS_txt (okS_putI2 (okS_putI1 h i) i) _
theorem okS_putV {s : St} (h : OkS s) (v : Sid) : OkS (putV s v) := okS_num (okS_wide h _ _ _ _) _

/-- The number 'most' of a field of a transfer. -/
abbrev big : Int := 1099511627776
def str (l : List UInt8) : ByteArray := ⟨l.toArray⟩
/-- What is read of octets: the first text, the transfer's things, and the state behind. -/
def rd0 (s : St) : List UInt8 × St := gtxtS s 16
def rd1 (s : St) : Nat × St := mostS (rd0 s).2 6 big
def rd2 (s : St) : List UInt8 × St := gtxtS (rd1 s).2 8
def rd3 (s : St) : Nat × St := mostS (rd2 s).2 6 big
def rd4 (s : St) : Nat × St := mostS (rd3 s).2 6 big
def rd5 (s : St) : Nat × St := mostS (rd4 s).2 6 big
def rd6 (s : St) : Nat × St := mostS (rd5 s).2 6 big
def rd7 (s : St) : List UInt8 × St := gtxtS (rd6 s).2 16
def rawI (s : St) : Trf := ⟨(rd1 s).1, str (rd2 s).1, (rd3 s).1, (rd4 s).1, (rd5 s).1, (rd6 s).1, str (rd7 s).1⟩
def goodI (s : St) : Prop := str (rd0 s).1 = invB ∧ maybeI (rawI s)
instance (s : St) : Decidable (goodI s) := by unfold goodI; infer_instance
/-- The transfer that is read, and the state behind it. -/
def getI (s : St) : Trf × St := if (rd7 s).2.2 = 0 ∧ goodI s then (rawI s, (rd7 s).2) else (noI, errS (rd7 s).2 16)
def vd0 (s : St) : List UInt8 × St := takeS s 32
def vd1 (s : St) : Nat × St := mostS (vd0 s).2 6 big
def rawV (s : St) : Sid := ⟨wdS (vd0 s).1 0, wdS (vd0 s).1 1, wdS (vd0 s).1 2, wdS (vd0 s).1 3, (vd1 s).1⟩
def getV (s : St) : Sid × St := if (vd1 s).2.2 = 0 ∧ maybeV (rawV s) then (rawV s, (vd1 s).2) else (noV, errS (vd1 s).2 16)
theorem okS_rd7 {s : St} (h : OkS s) : OkS (rd7 s).2 := okS_gtxt (okS_most (okS_most (okS_most (okS_most (okS_gtxt (okS_most (okS_gtxt h _) _ _) _) _ _) _ _) _ _) _ _) _
theorem okS_vd1 {s : St} (h : OkS s) : OkS (vd1 s).2 := okS_most (okS_take h _) _ _
theorem okS_getI {s : St} (h : OkS s) : OkS (getI s).2 := by
  unfold getI; split
  · exact okS_rd7 h
  · exact okS_err (okS_rd7 h) _
theorem okS_getV {s : St} (h : OkS s) : OkS (getV s).2 := by
  unfold getV; split
  · exact okS_vd1 h
  · exact okS_err (okS_vd1 h) _
end Go.Proofs.Ytififfadodjmeaa

namespace Go.Proofs.Ytififfadodjmeaa
open Go.RowKit Go.Shelf
attribute [local go_sem] Oper.semAt_some

set_option maxRecDepth 100000 in
set_option maxHeartbeats 4000000 in
theorem numO_in (m : Nat) (hm : 3 ≤ m) (n size : Int) (hs : -9223372036854775808 ≤ size) (hs' : size ≤ 9223372036854775807) (w : World) :
    CallsIn Fence.wide m Try.prog 60 #[.int .i64 n, .int .i64 size] w (ByO (octs (two n) (clamp size)) w) := by
  have h1 : 1 ≤ m := by omega
  refine callsIn_of_wp_marks Try.func60 rfl trivial ?_ rfl
  simp only [Try.ntmps60, List.size_toArray, List.length_cons, List.length_nil, Nat.reduceAdd, Nat.reduceSub, Array.replicate_succ, Array.replicate_zero, List.push_toArray, List.append_toArray, List.nil_append, List.cons_append]
  obtain ⟨i0, hi, hz0, hz1, hz2⟩ := info_parts Try.infoByte
  have hU : IntKind.u64.wrap n = (two n : Nat) := wrap_two n
  have hx : two n < M := by unfold two M; omega
  generalize two n = x at *
  have H8 := clamp_le size
  have hCC := clamp_cases size
  generalize clamp size = s at *
  rcases hCC with ⟨hc0, hC⟩ | ⟨hc0, hc8, hC⟩ | ⟨hc8, hC⟩
  all_goals
    have HC := Lib.hid hC
    clear hC
    gi_wp2_with (refine ⟨trivial, ?_⟩; gi_at_call 81; refine (octets_in Fence.wide (m - 1) trivial rfl _ _ _).mono ?_; rintro e w' ⟨rfl, rfl⟩)
    generalize hW5 : World.alloc _ _ = W5
    have k0 : Boxed W5 w.heap.size 37 (.slice none 0 0) := by rw [← hW5]; exact ((Boxed.new _ _ _).alloc _).alloc _
    have k1 : Boxed W5 (w.heap.size + 1) 24 (.int .u64 (x : Nat)) := by rw [← hW5]; exact (Blk.new' (vs := [.int .u64 (x : Nat)]) (by simp)).alloc _
    have k2 : Boxed W5 (w.heap.size + 1 + 1) 3 (.int .i64 (s : Nat)) := by rw [HC.out, ← hW5]; exact Blk.new' (vs := [.int .i64 _]) (by simp)
    have hB0 : Below w.heap.size w W5 := by rw [← hW5]; exact chainA (chainA (chain0 _ _) _) _
    have hz : W5.heap.size = w.heap.size + 3 := by rw [← hW5]; simp
    clear hW5
    refine wpIn_rangeFunc_ownF (S := fun ys => ys = octs x s) rfl h1 (gf := 95) (lb := #[.pointer (some ⟨w.heap.size + 1 + 1, 0, none⟩), .pointer (some ⟨w.heap.size + 1, 0, none⟩)]) rfl trivial (enters_of Try.func95 (by kernel_rfl) rfl)
      (octets1_stops Fence.wide (m - 1) trivial rfl (by omega) x s H8 (w.heap.size + 1) (w.heap.size + 1 + 1) W5 k1.lt k2.lt (k1.cell) k2.cell (KeepB (w.heap.size + 1)) (fun A B h => World.cell?_of_block h)) KeepB.t (KeepB.b k1.lt) (Below.refl _ _) (fun _ => rfl)
      (NumI w.heap.size (w.heap.size + 1) x w) (fun _ _ _ => False) (numI_own (Nat.le_refl _) (by omega)) (fun _ _ _ _ _ hs _ _ => hs)
      ⟨⟨⟨_, k0, World.ownsRow_nil _ _ _ _, trivial⟩, k1⟩, hB0⟩ ?_ ?_ ?_ ?_ ?_
    rotate_left
    · intro l x W K hK
      gi_wp2
      exact hK
    · rintro l pre o W ⟨⟨⟨v, kv, hown, _⟩, kn⟩, hB⟩ hlt
      have ko := kv.cell
      have kf := kv.frozen
      have hNW : w.heap.size ≤ W.heap.size := hB.size
      gi_wp2_with (gi_at_builtin; refine wpListIn_append_own _ rfl _ _ 37 rfl w.heap.size 5 i0 (.int .u8 0) 1 1 Try.underlying37 hi hz0 hz1 hz2 rfl (by decide) v pre.length (pre.map bv) rfl (hown.alloc _) ⟨W.heap.size, 0, none⟩ 1 1 [bv o] rfl rfl (cell_one_new _ _ _) (by simp [Value.oneCell']) (by unfold maxLen; omega) (by omega) (by simp; omega) ?_; intro v' w1 hown' hgrow _; obtain ⟨g, cap, rfl⟩ := ownsRow_succ hown'; obtain ⟨hv1, kv', hrow', hk3, hbw⟩ := kv.appended (by decide) hown hNW (Nat.le_refl _) hown' hgrow; have ko1 := hv1.cell; have kf1 := hv1.frozen)
      have hn1 : W.heap.size ≤ w1.heap.size := Nat.le_trans (by simp) hgrow.size
      have kn1 : Boxed w1 (w.heap.size + 1) 24 (.int .u64 (x : Nat)) := (kn.alloc _).kept hgrow (Boxed.not_row kn (by decide) hown)
      have kn3 := kn1.kept (grownBy_setCell' w1 w.heap.size (.slice (some ⟨g, 0, none⟩) (pre.length + 1) cap)) (by simp)
      exact ⟨hk3, kn3.trans kn.symm, ⟨⟨_, kv', by simpa using hrow', trivial⟩, kn3⟩, hB.trans hbw⟩
    · rintro D ys W hD rfl ⟨⟨⟨v, kv, hown, _⟩, kn⟩, hB⟩ hK
      have ko := kv.cell
      have HZ := Lib.hid hz
      clear hz
      gi_wp2
      have hB' := hB.trans (belowK_b (w := w) (Nat.le_refl _) _ D _ (.deferred none) (by have := HZ.out; omega) hK rfl rfl)
      have hown3 := ownsRow_putObj hown (.deferred none) hK rfl
      refine ⟨by simp, .inl ⟨_, _, rfl, run_takeDeferred hK, ?_⟩⟩
      refine ⟨v, ?_, ?_⟩
      · simp [results, Try.f60, go_sem]
      · exact ⟨v, rfl, hown3, hB'⟩
    · rintro D c pre W _ _ h _
      exact h.elim

theorem numO_any (n size : Int) (hs : -9223372036854775808 ≤ size) (hs' : size ≤ 9223372036854775807) (w : World) :
    Calls Try.prog 60 #[.int .i64 n, .int .i64 size] w (ByO (octs (two n) (clamp size)) w) := callsIn_wide.1 (numO_in 3 (by omega) n size hs hs' w)
end Go.Proofs.Ytififfadodjmeaa
