/-
  The walk of FieldNobody: of what nobody made nothing is told.
-/
import Derived.Test.YtjhfchjffiliaaaFieldIn
import Derived.Test.YtjhfchjffiliaaaFieldAlive
import Derived.Test.YtjhfchjffiliaaaFieldRefW
import Derived.Test.YtjhfchjffiliaaaWideEq
import Derived.StillTailTactics
namespace Go.Proofs.Ytjhfchjffiliaaa
open Go.RowKit Go.Shelf

/-- The state of what nobody made. -/
def noS : St := ([], 9)
theorem no_num (n : Int) : numS noS n = noS := by unfold numS; split <;> rfl
theorem no_txt (t : ByteArray) : txtS noS t = noS := by unfold txtS; split <;> rfl
theorem no_wide (a0 a1 a2 a3 : Nat) : wideS noS a0 a1 a2 a3 = noS := rfl
theorem no_err (x : Int) : errS noS x = noS := rfl
theorem no_take (n : Nat) : takeS noS n = ([], noS) := rfl
theorem no_most (k : Nat) (m : Int) : mostS noS k m = (0, noS) := by
  unfold mostS
  rw [no_take, if_neg (fun e => absurd e.1 (by decide))]
  rfl
theorem no_gtxt (m : Int) : gtxtS noS m = ([], noS) := by unfold gtxtS; rw [no_most]; rfl
theorem no_wd (i : Nat) : wdS [] i = 0 := rfl

/-- All that lies there. -/
structure Nob (w W : World) (S1 S2 A B1 B3 : Nat) (a0 a1 a2 a3 : Nat) : Prop where
  l : Blk W S1 56 [.pointer none, .pointer (some ⟨B1, 0, none⟩)]
  m : Blk W S2 33 [.pointer none, .pointer (some ⟨B3, 0, none⟩)]
  a : BlkW W A a0 a1 a2 a3
  o : ObjP 58 W (some ⟨B1, 0, none⟩) noS
  i : ObjP 61 W (some ⟨B3, 0, none⟩) noS
  b : Below w.heap.size w W
  n1 : S1 ≠ B1 ∧ S2 ≠ B1 ∧ A ≠ B1 ∧ B3 ≠ B1 ∧ w.heap.size ≤ B1
  n3 : S1 ≠ B3 ∧ S2 ≠ B3 ∧ A ≠ B3 ∧ B1 ≠ B3 ∧ w.heap.size ≤ B3
theorem objP_noOct {T : TypeId} {W : World} {B : Nat} {s : St} (h : ObjP T W (some ⟨B, 0, none⟩) s) : NoOct W B := by
  rcases h with ⟨h, _⟩ | ⟨B', m, a, n, c, x, e, hb, _⟩
  · cases h
  · cases e; exact noOct3 hb
theorem Nob.below {w W W' : World} {S1 S2 A B1 B3 a0 a1 a2 a3 : Nat} (h : Nob w W S1 S2 A B1 B3 a0 a1 a2 a3) (hb : Below W.heap.size W W') : Nob w W' S1 S2 A B1 B3 a0 a1 a2 a3 :=
  ⟨h.l.below hb h.l.lt, h.m.below hb h.m.lt, h.a.below hb h.a.lt, h.o.below hb, h.i.below hb, chain h.b hb, h.n1, h.n3⟩
theorem Nob.out {w W W' : World} {S1 S2 A B1 B3 a0 a1 a2 a3 : Nat} (h : Nob w W S1 S2 A B1 B3 a0 a1 a2 a3) (ho : ObjP 58 W' (some ⟨B1, 0, none⟩) noS) (hg : W.grownBy W' (some B1)) : Nob w W' S1 S2 A B1 B3 a0 a1 a2 a3 := by
  obtain ⟨n1, n2, n3, n4, n5⟩ := h.n1
  have ne : ∀ x : Nat, x ≠ B1 → some x ≠ some B1 := fun x hx e => hx (Option.some.inj e)
  exact ⟨h.l.kept hg (ne _ n1), h.m.kept hg (ne _ n2), h.a.kept hg (ne _ n3), ho, h.i.to hg (fun r e => by cases e; exact ⟨objP_noOct h.o, fun e => n4 (by simpa using e)⟩), h.b.grown hg h.b.size (fun j e => by cases e; exact n5), h.n1, h.n3⟩
theorem Nob.inn {w W W' : World} {S1 S2 A B1 B3 a0 a1 a2 a3 : Nat} (h : Nob w W S1 S2 A B1 B3 a0 a1 a2 a3) (ho : ObjP 61 W' (some ⟨B3, 0, none⟩) noS) (hg : W.grownBy W' (some B3)) : Nob w W' S1 S2 A B1 B3 a0 a1 a2 a3 := by
  obtain ⟨n1, n2, n3, n4, n5⟩ := h.n3
  have ne : ∀ x : Nat, x ≠ B3 → some x ≠ some B3 := fun x hx e => hx (Option.some.inj e)
  exact ⟨h.l.kept hg (ne _ n1), h.m.kept hg (ne _ n2), h.a.kept hg (ne _ n3), h.o.to hg (fun r e => by cases e; exact ⟨objP_noOct h.i, fun e => n4 (by simpa using e)⟩), ho, h.b.grown hg h.b.size (fun j e => by cases e; exact n5), h.n1, h.n3⟩
theorem none_P (T : TypeId) (W : World) : ObjP T W none noS := .inl ⟨rfl, rfl⟩
theorem below_of_grew {W W' : World} (h : W.grownBy W' none) : Below W.heap.size W W' := ⟨h.os, h.tape, h.output, h.size, fun k hk => h.block k hk (by simp)⟩

theorem noIn_num {p : Option Addr} (n : Int) (w : World) (h : ObjP 61 w p noS) : Calls Try.prog 16 #[.pointer p, .int .i64 n] w fun e W' => e = .returned (.int .i64 0) ∧ ObjP 61 W' p noS ∧ w.grownBy W' (p.map (·.block)) := by
  have := inNum_any n w h
  rw [no_most] at this
  exact this
theorem noIn_txt {p : Option Addr} (n : Int) (w : World) (h : ObjP 61 w p noS) : Calls Try.prog 18 #[.pointer p, .int .i64 n] w fun e W' => e = .returned (.string ⟨#[]⟩) ∧ ObjP 61 W' p noS ∧ w.grownBy W' (p.map (·.block)) := by
  have := inText_any n w h
  rw [no_gtxt] at this
  exact this
theorem noIn_wide {p : Option Addr} (w : World) (h : ObjP 61 w p noS) : Calls Try.prog 20 #[.pointer p] w fun e W' => e = .returned (.agg #[.int .u64 0, .int .u64 0, .int .u64 0, .int .u64 0]) ∧ ObjP 61 W' p noS ∧ w.grownBy W' (p.map (·.block)) := by
  have := inWide_any w h
  rw [no_take] at this
  exact this
theorem noIn_spoil {p : Option Addr} (w : World) (h : ObjP 61 w p noS) : Calls Try.prog 23 #[.pointer p] w fun e W' => e = .returned (.tuple #[]) ∧ ObjP 61 W' p noS ∧ w.grownBy W' (p.map (·.block)) := inSpoil_any w h
theorem noIn_left {p : Option Addr} (w : World) (h : ObjP 61 w p noS) : Calls Try.prog 22 #[.pointer p] w fun e W' => e = .returned (.int .i64 0) ∧ w = W' := inLeft_any w h
theorem noIn_err {p : Option Addr} (w : World) (h : ObjP 61 w p noS) : Calls Try.prog 21 #[.pointer p] w fun e W' => e = .returned (.int .i64 9) ∧ w = W' := inErr_any w h
theorem noOut_done {p : Option Addr} (w : World) (h : ObjP 58 w p noS) : Calls Try.prog 28 #[.pointer p] w fun e W' => ∃ a c, e = .returned (.tuple #[.slice a 0 c, .int .i64 9]) ∧ Below w.heap.size w W' := by
  refine (outDone_any w h).mono ?_
  rintro e W' ⟨sv, rfl, hv, hb⟩
  obtain ⟨a, c, rfl, -⟩ := hv.shape
  exact ⟨a, c, rfl, hb⟩
theorem noOut_num {p : Option Addr} (n : Int) (w : World) (h : ObjP 58 w p noS) : Calls Try.prog 25 #[.pointer p, .int .i64 n] w (DidS 58 p noS w) := by
  have := outNum_any n w h
  rwa [no_num] at this
theorem noOut_txt {p : Option Addr} (t : ByteArray) (w : World) (h : ObjP 58 w p noS) : Calls Try.prog 26 #[.pointer p, .string t] w (DidS 58 p noS w) := by
  have := outText_any t w h
  rwa [no_txt] at this
theorem noOut_wide {p : Option Addr} {a0 a1 a2 a3 : Nat} (ha : Ok4 a0 a1 a2 a3) (w : World) (h : ObjP 58 w p noS) : Calls Try.prog 27 #[.pointer p, wv a0 a1 a2 a3] w (DidS 58 p noS w) := outWide_any ha w h

set_option maxRecDepth 100000 in
set_option maxHeartbeats 8000000 in
theorem fieldNobody_any (n : Int) (t : ByteArray) {a0 a1 a2 a3 : Nat} (ha : Ok4 a0 a1 a2 a3) (w : World) :
    Calls Try.prog 6 #[.int .i64 n, .string t, wv a0 a1 a2 a3] w fun e W' => e = .returned (.bool true) ∧ Below w.heap.size w W' := by
  have hmx : Try.prog.follows .mixedOrders = true := by kernel_rfl
  have HA := Lib.hid ha
  clear ha
  have hweq := @run_equalIn_wide
  have hwr := wEq_refl
  go_enter Try.func6, Try.ntmps6
  go_wp2_with fail
  generalize hW0 : World.alloc _ _ = W0
  have hN0 : Nob w W0 (w.heap.size + 1 + 1) (w.heap.size + 1 + 1 + 1 + 1) w.heap.size (w.heap.size + 1) (w.heap.size + 1 + 1 + 1) a0 a1 a2 a3 := by
    rw [← hW0]
    refine ⟨?_, ?_, ?_, .inr ⟨_, false, none, 0, 0, 0, rfl, ?_, .inl ⟨rfl, rfl⟩⟩, .inr ⟨_, false, none, 0, 0, 0, rfl, ?_, .inl ⟨rfl, rfl⟩⟩, ?_, by omega, by omega⟩
    · exact ((Blk.new' (vs := [_, _]) (by simp)).alloc _).alloc _
    · exact Blk.new' (vs := [_, _]) (by simp)
    · exact ((((Blk.new' (vs := [_, _, _, _]) (by simp)).alloc _).alloc _).alloc _).alloc _
    · exact (((Blk.new' (vs := [_, _, _]) (by simp)).alloc _).alloc _).alloc _
    · exact (Blk.new' (vs := [_, _, _]) (by simp)).alloc _
    · exact chainA (chainA (chainA (chainA (chain0 _ _) _) _) _) _
  clear hW0
  generalize w.heap.size + 1 + 1 + 1 + 1 = S2 at *
  generalize w.heap.size + 1 + 1 + 1 = B3 at *
  generalize w.heap.size + 1 + 1 = S1 at *
  generalize w.heap.size + 1 = B1 at *
  go_loopw [11] (fun i wr => ∃ k : Nat, k ≤ 2 ∧ i = .int .i64 k ∧ Nob w wr S1 S2 w.heap.size B1 B3 a0 a1 a2 a3) (fun i _ => 2 - (intOf i).toNat)
  case atStart => exact ⟨0, by omega, rfl, hN0⟩
  case round =>
    clear hN0
    obtain ⟨k, hk, rfl, hN1⟩ := hrel
    have hk3 : k = 0 ∨ k = 1 ∨ k = 2 := by omega
    rcases hk3 with rfl | rfl | rfl
    · clear hk
      obtain ⟨l0, l1⟩ := Blk.c2 hN1.l
      obtain ⟨m0, m1⟩ := Blk.c2 hN1.m
      go_wp2_with (first
        | (go_at_call 25; refine (noOut_num (p := none) n _ (none_P 58 _)).mono ?_; rintro e w2 ⟨rfl, hO, hG⟩; have hN2 := hN1.below (below_of_grew hG); clear hO hG l0 l1 m0 m1; obtain ⟨l0, l1⟩ := Blk.c2 hN2.l; obtain ⟨m0, m1⟩ := Blk.c2 hN2.m)
        | (go_at_call 26; refine (noOut_txt (p := none) t _ (none_P 58 _)).mono ?_; rintro e w3 ⟨rfl, hO, hG⟩; have hN3 := hN2.below (below_of_grew hG); clear hO hG l0 l1 m0 m1; obtain ⟨l0, l1⟩ := Blk.c2 hN3.l; obtain ⟨m0, m1⟩ := Blk.c2 hN3.m))
      obtain ⟨c0, c1, c2, c3⟩ := Blk.c4 hN3.a
      go_still_tail 5, (by kernel_rfl)
      change wpList _ _ _ _ _ (World.drew _)
      have hN4 : Nob w w3.drew S1 S2 w.heap.size B1 B3 a0 a1 a2 a3 := ⟨hN3.l, hN3.m, hN3.a, hN3.o, hN3.i, hN3.b.drew, hN3.n1, hN3.n3⟩
      clear c0 c1 c2 c3 l0 l1 m0 m1 hN1 hN2 hN3
      generalize w3.drew = w4 at *
      obtain ⟨l0, l1⟩ := Blk.c2 hN4.l; obtain ⟨m0, m1⟩ := Blk.c2 hN4.m
      go_wp2_with (first
        | (go_at_call 27; refine (noOut_wide (p := none) HA.out _ (none_P 58 _)).mono ?_; rintro e w5 ⟨rfl, hO, hG⟩; have hN5 := hN4.below (below_of_grew hG); clear hO hG l0 l1 m0 m1; obtain ⟨l0, l1⟩ := Blk.c2 hN5.l; obtain ⟨m0, m1⟩ := Blk.c2 hN5.m)
        | (go_at_call 28; refine (noOut_done (p := none) _ (none_P 58 _)).mono ?_; rintro e w6 ⟨da, dc, rfl, hbD⟩; have hN6 := hN5.below hbD; clear hbD l0 l1 m0 m1; obtain ⟨l0, l1⟩ := Blk.c2 hN6.l; obtain ⟨m0, m1⟩ := Blk.c2 hN6.m)
        | (go_at_call 23; refine (noIn_spoil (p := none) _ (none_P 61 _)).mono ?_; rintro e w7 ⟨rfl, hO, hG⟩; have hN7 := hN6.below (below_of_grew hG); clear hO hG l0 l1 m0 m1; obtain ⟨l0, l1⟩ := Blk.c2 hN7.l; obtain ⟨m0, m1⟩ := Blk.c2 hN7.m)
        | (go_at_call 16; refine (noIn_num (p := none) n _ (none_P 61 _)).mono ?_; rintro e w8 ⟨rfl, hO, hG⟩; have hN8 := hN7.below (below_of_grew hG); clear hO hG l0 l1 m0 m1; obtain ⟨l0, l1⟩ := Blk.c2 hN8.l; obtain ⟨m0, m1⟩ := Blk.c2 hN8.m)
        | (go_at_call 18; refine (noIn_txt (p := none) n _ (none_P 61 _)).mono ?_; rintro e w9 ⟨rfl, hO, hG⟩; have hN9 := hN8.below (below_of_grew hG); clear hO hG l0 l1 m0 m1; obtain ⟨l0, l1⟩ := Blk.c2 hN9.l; obtain ⟨m0, m1⟩ := Blk.c2 hN9.m)
        | (go_at_call 20; refine (noIn_wide (p := none) _ (none_P 61 _)).mono ?_; rintro e w10 ⟨rfl, hO, hG⟩; have hN10 := hN9.below (below_of_grew hG); clear hO hG l0 l1 m0 m1; obtain ⟨l0, l1⟩ := Blk.c2 hN10.l; obtain ⟨m0, m1⟩ := Blk.c2 hN10.m)
        | (go_at_call 22; refine (noIn_left (p := none) _ (none_P 61 _)).mono ?_; rintro e w' ⟨rfl, rfl⟩)
        | (go_at_call 21; refine (noIn_err (p := none) _ (none_P 61 _)).mono ?_; rintro e w' ⟨rfl, rfl⟩))
      go_roundw
      case rel => exact ⟨1, by omega, rfl, hN10⟩
      case measure => simp [intOf]
    · clear hk
      obtain ⟨l0, l1⟩ := Blk.c2 hN1.l
      obtain ⟨m0, m1⟩ := Blk.c2 hN1.m
      go_wp2_with (first
        | (go_at_call 25; refine (noOut_num (p := (some ⟨B1, 0, none⟩)) n _ hN1.o).mono ?_; rintro e w2 ⟨rfl, hO, hG⟩; have hN2 := hN1.out hO hG; clear hO hG l0 l1 m0 m1; obtain ⟨l0, l1⟩ := Blk.c2 hN2.l; obtain ⟨m0, m1⟩ := Blk.c2 hN2.m)
        | (go_at_call 26; refine (noOut_txt (p := (some ⟨B1, 0, none⟩)) t _ hN2.o).mono ?_; rintro e w3 ⟨rfl, hO, hG⟩; have hN3 := hN2.out hO hG; clear hO hG l0 l1 m0 m1; obtain ⟨l0, l1⟩ := Blk.c2 hN3.l; obtain ⟨m0, m1⟩ := Blk.c2 hN3.m))
      obtain ⟨c0, c1, c2, c3⟩ := Blk.c4 hN3.a
      go_still_tail 5, (by kernel_rfl)
      change wpList _ _ _ _ _ (World.drew _)
      have hN4 : Nob w w3.drew S1 S2 w.heap.size B1 B3 a0 a1 a2 a3 := ⟨hN3.l, hN3.m, hN3.a, hN3.o, hN3.i, hN3.b.drew, hN3.n1, hN3.n3⟩
      clear c0 c1 c2 c3 l0 l1 m0 m1 hN1 hN2 hN3
      generalize w3.drew = w4 at *
      obtain ⟨l0, l1⟩ := Blk.c2 hN4.l; obtain ⟨m0, m1⟩ := Blk.c2 hN4.m
      go_wp2_with (first
        | (go_at_call 27; refine (noOut_wide (p := (some ⟨B1, 0, none⟩)) HA.out _ hN4.o).mono ?_; rintro e w5 ⟨rfl, hO, hG⟩; have hN5 := hN4.out hO hG; clear hO hG l0 l1 m0 m1; obtain ⟨l0, l1⟩ := Blk.c2 hN5.l; obtain ⟨m0, m1⟩ := Blk.c2 hN5.m)
        | (go_at_call 28; refine (noOut_done (p := (some ⟨B1, 0, none⟩)) _ hN5.o).mono ?_; rintro e w6 ⟨da, dc, rfl, hbD⟩; have hN6 := hN5.below hbD; clear hbD l0 l1 m0 m1; obtain ⟨l0, l1⟩ := Blk.c2 hN6.l; obtain ⟨m0, m1⟩ := Blk.c2 hN6.m)
        | (go_at_call 23; refine (noIn_spoil (p := (some ⟨B3, 0, none⟩)) _ hN6.i).mono ?_; rintro e w7 ⟨rfl, hO, hG⟩; have hN7 := hN6.inn hO hG; clear hO hG l0 l1 m0 m1; obtain ⟨l0, l1⟩ := Blk.c2 hN7.l; obtain ⟨m0, m1⟩ := Blk.c2 hN7.m)
        | (go_at_call 16; refine (noIn_num (p := (some ⟨B3, 0, none⟩)) n _ hN7.i).mono ?_; rintro e w8 ⟨rfl, hO, hG⟩; have hN8 := hN7.inn hO hG; clear hO hG l0 l1 m0 m1; obtain ⟨l0, l1⟩ := Blk.c2 hN8.l; obtain ⟨m0, m1⟩ := Blk.c2 hN8.m)
        | (go_at_call 18; refine (noIn_txt (p := (some ⟨B3, 0, none⟩)) n _ hN8.i).mono ?_; rintro e w9 ⟨rfl, hO, hG⟩; have hN9 := hN8.inn hO hG; clear hO hG l0 l1 m0 m1; obtain ⟨l0, l1⟩ := Blk.c2 hN9.l; obtain ⟨m0, m1⟩ := Blk.c2 hN9.m)
        | (go_at_call 20; refine (noIn_wide (p := (some ⟨B3, 0, none⟩)) _ hN9.i).mono ?_; rintro e w10 ⟨rfl, hO, hG⟩; have hN10 := hN9.inn hO hG; clear hO hG l0 l1 m0 m1; obtain ⟨l0, l1⟩ := Blk.c2 hN10.l; obtain ⟨m0, m1⟩ := Blk.c2 hN10.m)
        | (go_at_call 22; refine (noIn_left (p := (some ⟨B3, 0, none⟩)) _ hN10.i).mono ?_; rintro e w' ⟨rfl, rfl⟩)
        | (go_at_call 21; refine (noIn_err (p := (some ⟨B3, 0, none⟩)) _ hN10.i).mono ?_; rintro e w' ⟨rfl, rfl⟩))
      go_roundw
      case rel => exact ⟨2, by omega, rfl, hN10⟩
      case measure => simp [intOf]
    · clear hk hweq hwr
      go_wp2_with (go_at_call 11; refine (alive_any _).mono ?_; rintro e w2 ⟨rfl, hb2⟩)
      go_ret
      exact ⟨rfl, chain hN1.b hb2⟩
end Go.Proofs.Ytjhfchjffiliaaa
