/-
  Without an Id there is no key.
  A wide number among the arguments is four words.
  Sizes within an argument.
  A transfer, and a side's data, among the arguments.
  A transfer, and a side's data, read of an In.
-/
import Derived.ProofKit
import Derived.OpenShut
import Derived.Laws.IdiomArrays
import Derived.Lib.SmallJoins
import Derived.Below
import Derived.ChangeMaps5
import Derived.JoinedCond
import Derived.Deep.Slices
import Derived.Deep.Fields
import Derived.Deep.Cut
import Derived.Test.YtififfadodjmeaaK10
namespace Go.Proofs.Ytififfadodjmeaa
open Go.RowKit Go.Shelf

theorem num_law (x : Int) (w : World) : Calls Try.prog 7 #[.int .i64 x] w fun e W' => e = .returned (.int .i64 x) ∧ w = W' := by
  go_enter Try.func7, Try.ntmps7
  go_wp2
  go_ret
  exact ⟨rfl, rfl⟩
def aliveI : Trf := ⟨0, ⟨#[49, 50, 51, 52, 53, 54, 55, 56]⟩, 2, 0, 0, 0, ⟨#[120]⟩⟩
theorem alive_may : maybeI aliveI := ⟨⟨by decide, by decide⟩, rfl, ⟨by decide, by decide⟩, ⟨by decide, by decide⟩, ⟨by decide, by decide⟩, ⟨by decide, by decide⟩, by decide, by decide⟩
theorem noI_not : ¬ maybeI noI := fun h => absurd h.2.1 (by decide)
theorem keyB_yes {i : Trf} (h : maybeI i) : keyB i = sumS (putI ([], 0) i).1 := if_pos h
theorem keyB_size {i : Trf} (h : maybeI i) : (keyB i).size = 32 := (congrArg ByteArray.size (keyB_yes h)).trans (sumS_size _)

set_option maxRecDepth 100000 in
set_option maxHeartbeats 1000000 in
theorem alive_any (w : World) : Calls Try.prog 18 #[] w fun e W' => e = .returned (.bool true) ∧ Below w.heap.size w W' := by
  have H0 : Hid (∀ W, Calls Try.prog 12 #[ivv noI] W fun e W' => e = .returned (.string ⟨#[]⟩) ∧ Below W.heap.size W W') := Lib.hid fun W => by
    have := key_any noI W
    rw [show keyB noI = ⟨#[]⟩ from if_neg noI_not] at this
    exact this
  have H1 : Hid (∀ W, Calls Try.prog 8 #[ivv aliveI] W fun e W' => e = .returned (.int .i64 0) ∧ Below W.heap.size W W') := Lib.hid fun W => by
    have := check_any aliveI W
    rw [errI_zero alive_may] at this
    exact this
  have H2 := Lib.hid (key_any aliveI)
  have hs := keyB_size alive_may
  generalize keyB aliveI = kk at *
  have hs2 : (kk.size : Int) = 32 := by rw [hs]; rfl
  clear hs
  have kB := Blk.new w 23 (ivc aliveI)
  have hB := chain0 w (.cells (ivc aliveI).toArray 23)
  go_enter Try.func18, Try.ntmps18
  go_wp2_with (first
    | (go_at_call 12; refine (H0.out _).mono ?_; rintro e W1 ⟨rfl, hb⟩; clear H0; replace kB := kB.below hb kB.lt; replace hB := chain hB hb; obtain ⟨c0, c1, c2, c3, c4, c5, c6⟩ := kB.c7; clear hb)
    | (go_at_call 8; refine (H1.out _).mono ?_; rintro e W2 ⟨rfl, hb⟩; replace kB := kB.below hb kB.lt; replace hB := chain hB hb; clear c0 c1 c2 c3 c4 c5 c6; obtain ⟨c0, c1, c2, c3, c4, c5, c6⟩ := kB.c7; clear hb)
    | (go_at_call 12; refine (H2.out _).mono ?_; rintro e W3 ⟨rfl, hb⟩; replace hB := chain hB hb))
  go_ret
  exact ⟨rfl, hB⟩
end Go.Proofs.Ytififfadodjmeaa

namespace Go.Proofs.Ytififfadodjmeaa
open Go.ChangeShapes Go.WideShapes Go.ChangeAt Go.RowKit

theorem Try.cells24 : Try.prog.cellsOf 26 = 4 := by kernel_rfl
theorem Try.cells22 : Try.prog.cellsOf 24 = 1 := by kernel_rfl

theorem wf_u64 {x : Int} (h : (Lit.int .u64 x).wf = true) : ∃ n : Nat, x = (n : Int) ∧ n < M := by
  have h' : 0 ≤ x ∧ x < 18446744073709551616 := by
    simp [Lit.wf, IntKind.min, IntKind.max, IntKind.bits, IntKind.signed] at h
    omega
  obtain ⟨n, rfl⟩ := Int.eq_ofNat_of_zero_le h'.1
  exact ⟨n, rfl, by unfold M; omega⟩

set_option maxRecDepth 100000 in
theorem open_wide {H : Type} {enc : TypeId × Value → H} {r : Reach} {w : World} {b0 base : Nat} {spare : Nat → Bool} {held : Bool} {v : Value} {d : DataW H} {p : List MemPlace}
    (hv : Value.okWide Try.prog w r b0 26 v) (h : DataW.Trod enc Try.prog w base spare held 26 v d p) : ∃ a0 a1 a2 a3 : Nat, Ok4 a0 a1 a2 a3 ∧ v = wv a0 a1 a2 a3 := by
  obtain ⟨cs, rfl, hsz, _⟩ : ∃ cs, v = .agg cs ∧ cs.size = Try.prog.cellsOf 26 ∧ Row.okWide Try.prog w r b0 26 cs := by
    simpa [Value.okWide, Try.underlying26] using hv
  rw [Try.cells24] at hsz
  obtain ⟨c0, c1, c2, c3, rfl⟩ := Joins.array4 hsz
  obtain ⟨fuel, hf⟩ := h
  obtain ⟨y0, y1, y2, y3, m, hx, hy0, hy1, hy2, hy3⟩ := trod_array4 Try.underlying26 Try.cells22 hf
  obtain ⟨x0, e0, rfl, w0⟩ := DataW.trod_int Try.underlying24 hy0
  obtain ⟨x1, e1, rfl, w1⟩ := DataW.trod_int Try.underlying24 hy1
  obtain ⟨x2, e2, rfl, w2⟩ := DataW.trod_int Try.underlying24 hy2
  obtain ⟨x3, e3, rfl, w3⟩ := DataW.trod_int Try.underlying24 hy3
  simp at e0 e1 e2 e3
  subst e0 e1 e2 e3
  obtain ⟨a0, rfl, l0⟩ := wf_u64 w0
  obtain ⟨a1, rfl, l1⟩ := wf_u64 w1
  obtain ⟨a2, rfl, l2⟩ := wf_u64 w2
  obtain ⟨a3, rfl, l3⟩ := wf_u64 w3
  exact ⟨a0, a1, a2, a3, ⟨l0, l1, l2, l3⟩, rfl⟩

end Go.Proofs.Ytififfadodjmeaa

namespace Go.Proofs.Ytififfadodjmeaa
open Go.ChangeShapes Go.WideShapes Go.ChangeAt Go.RowKit Go.Deep

theorem sized_in {H : Type} {P : Program} {ts : List TypeId} {ds : List (DataW H)} (h : (DataW.weightsEach P ts ds).all (· ≤ reachBytes) = true) {j : Nat} {t : TypeId} {d : DataW H} (ht : ts[j]? = some t) (hd : ds[j]? = some d) (n : Nat) (hn : n ∈ d.weights P t) : n ≤ 140737488351232 := by
  have := List.all_eq_true.1 h _ (DataW.weights_mem_each ht hd n hn)
  have h2 := of_decide_eq_true this
  simp only [reachBytes] at h2
  exact h2
theorem weightsAll_mem {H : Type} {P : Program} {e : TypeId} : ∀ {l : List (DataW H)} {d : DataW H}, d ∈ l → ∀ n ∈ d.weights P e, n ∈ DataW.weightsAll P e l
  | [], _, h, _, _ => by cases h
  | x :: l, d, h, n, hn => by
    simp only [DataW.weightsAll, List.mem_append]
    rcases List.mem_cons.1 h with rfl | h
    · exact .inl hn
    · exact .inr (weightsAll_mem h n hn)
end Go.Proofs.Ytififfadodjmeaa

namespace Go.Proofs.Ytififfadodjmeaa
open Go.ChangeShapes Go.WideShapes Go.ChangeAt Go.RowKit Go.Deep

theorem Try.cellsInv : Try.prog.cellsOf 23 = 7 := by kernel_rfl
theorem Try.cellsVar : Try.prog.cellsOf 28 = 5 := by kernel_rfl
theorem Try.cellsInt : Try.prog.cellsOf 3 = 1 := by kernel_rfl
theorem Try.cellsStr : Try.prog.cellsOf 9 = 1 := by kernel_rfl
set_option maxRecDepth 100000 in
theorem trod_inv {H : Type} {enc : TypeId × Value → H} {w : World} {base : Nat} {spare : Nat → Bool} {held : Bool} {fuel : Nat} {cs : List Value} {x : DataW H × List MemPlace}
    (h : DataW.trod enc Try.prog w base spare held fuel 23 cs = some x) :
    ∃ i : Trf, cs = ivc i ∧ i.rt.data.toList.length ∈ x.1.weights Try.prog 23 ∧ i.id.data.toList.length ∈ x.1.weights Try.prog 23 := by
  obtain ⟨xs, n, _, hx, hcl, hlen, hg⟩ := DataW.trod_struct Try.underlying23 h
  rw [Try.cellsInv] at hcl
  match cs, hcl with
  | [c0, c1, c2, c3, c4, c5, c6], _ =>
  match xs, hlen with
  | [y0, y1, y2, y3, y4, y5, y6], _ =>
  have h0 := hg 0 ⟨ "User", 3, 0, false, "", "", 0⟩ rfl
  have h1 := hg 1 ⟨ "Root", 9, 1, false, "", "", 8⟩ rfl
  have h2 := hg 2 ⟨ "Router", 3, 2, false, "", "", 24⟩ rfl
  have h3 := hg 3 ⟨ "Send", 3, 3, false, "", "", 32⟩ rfl
  have h4 := hg 4 ⟨ "Recv", 3, 4, false, "", "", 40⟩ rfl
  have h5 := hg 5 ⟨ "To", 3, 5, false, "", "", 48⟩ rfl
  have h6 := hg 6 ⟨ "Id", 9, 6, false, "", "", 56⟩ rfl
  dsimp only at h0 h1 h2 h3 h4 h5 h6
  rw [Try.cellsInt] at h0 h2 h3 h4 h5
  rw [Try.cellsStr] at h1 h6
  simp only [List.drop_succ_cons, List.drop_zero, List.take_succ_cons, List.take_zero, List.getElem?_cons_zero, List.getElem?_cons_succ] at h0 h1 h2 h3 h4 h5 h6
  obtain ⟨z0, e0, hx0, wf0⟩ := DataW.trod_int Try.underlying3 h0
  obtain ⟨s1, e1, hx1, _⟩ := DataW.trod_string Try.underlying9 h1
  obtain ⟨z2, e2, hx2, wf2⟩ := DataW.trod_int Try.underlying3 h2
  obtain ⟨z3, e3, hx3, wf3⟩ := DataW.trod_int Try.underlying3 h3
  obtain ⟨z4, e4, hx4, wf4⟩ := DataW.trod_int Try.underlying3 h4
  obtain ⟨z5, e5, hx5, wf5⟩ := DataW.trod_int Try.underlying3 h5
  obtain ⟨s6, e6, hx6, _⟩ := DataW.trod_string Try.underlying9 h6
  simp at e0 e1 e2 e3 e4 e5 e6
  subst e0 e1 e2 e3 e4 e5 e6
  refine ⟨⟨z0, s1, z2, z3, z4, z5, s6⟩, rfl, ?_, ?_⟩
  · rw [hx]
    have : y1.1 = .lit (.string s1.data.toList) := by rw [hx1]
    simp [DataW.weights, DataW.weightsEach, Try.underlying23, this]
  · rw [hx]
    have : y6.1 = .lit (.string s6.data.toList) := by rw [hx6]
    simp [DataW.weights, DataW.weightsEach, Try.underlying23, this]
set_option maxRecDepth 100000 in
theorem trod_var {H : Type} {enc : TypeId × Value → H} {w : World} {base : Nat} {spare : Nat → Bool} {held : Bool} {fuel : Nat} {cs : List Value} {x : DataW H × List MemPlace}
    (h : DataW.trod enc Try.prog w base spare held fuel 28 cs = some x) :
    ∃ v : Sid, cs = svc v ∧ Ok4 v.a0 v.a1 v.a2 v.a3 := by
  obtain ⟨xs, n, _, hx, hcl, hlen, hg⟩ := DataW.trod_struct Try.underlying28 h
  rw [Try.cellsVar] at hcl
  match cs, hcl with
  | [c0, c1, c2, c3, c4], _ =>
  match xs, hlen with
  | [y0, y1], _ =>
  have h0 := hg 0 ⟨ "Amount", 26, 0, false, "", "", 0⟩ rfl
  have h1 := hg 1 ⟨ "Expiry", 3, 4, false, "", "", 32⟩ rfl
  dsimp only at h0 h1
  rw [Try.cells24] at h0
  rw [Try.cellsInt] at h1
  simp only [List.drop_succ_cons, List.drop_zero, List.take_succ_cons, List.take_zero, List.getElem?_cons_zero, List.getElem?_cons_succ] at h0 h1
  obtain ⟨u0, u1, u2, u3, m, hx3, g0, g1, g2, g3⟩ := trod_array4 Try.underlying26 Try.cells22 h0
  obtain ⟨v0, k0, _, wg0⟩ := DataW.trod_int Try.underlying24 g0
  obtain ⟨v1, k1, _, wg1⟩ := DataW.trod_int Try.underlying24 g1
  obtain ⟨v2, k2, _, wg2⟩ := DataW.trod_int Try.underlying24 g2
  obtain ⟨v3, k3, _, wg3⟩ := DataW.trod_int Try.underlying24 g3
  obtain ⟨z1, e1, hx1, wf1⟩ := DataW.trod_int Try.underlying3 h1
  obtain ⟨a0, rfl, q0⟩ := wf_u64 wg0
  obtain ⟨a1, rfl, q1⟩ := wf_u64 wg1
  obtain ⟨a2, rfl, q2⟩ := wf_u64 wg2
  obtain ⟨a3, rfl, q3⟩ := wf_u64 wg3
  simp at e1 k0 k1 k2 k3
  subst e1 k0 k1 k2 k3
  exact ⟨⟨a0, a1, a2, a3, z1⟩, rfl, ⟨q0, q1, q2, q3⟩⟩

set_option maxRecDepth 100000 in
theorem agg_of {v : Value} {w : World} {r : Reach} {b0 t : Nat} {fs : Array Field} (hu : Try.prog.underlying t = some (.struct fs)) (hv : Value.okWide Try.prog w r b0 t v) : ∃ cs, v = .agg cs := by
  obtain ⟨cs, rfl, _⟩ : ∃ cs, v = .agg cs ∧ cs.size = Try.prog.cellsOf t ∧ Row.okWide Try.prog w r b0 t cs := by
    simpa [Value.okWide, hu] using hv
  exact ⟨cs, rfl⟩
set_option maxRecDepth 100000 in
theorem open_inv {H : Type} {enc : TypeId × Value → H} {r : Reach} {w : World} {b0 base : Nat} {spare : Nat → Bool} {held : Bool} {v : Value} {d : DataW H} {p : List MemPlace}
    (hv : Value.okWide Try.prog w r b0 23 v) (h : DataW.Trod enc Try.prog w base spare held 23 v d p) :
    ∃ i : Trf, v = ivv i ∧ i.rt.data.toList.length ∈ d.weights Try.prog 23 ∧ i.id.data.toList.length ∈ d.weights Try.prog 23 := by
  obtain ⟨cs, rfl⟩ := agg_of Try.underlying23 hv
  obtain ⟨fuel, hf⟩ := h
  obtain ⟨i, hc, h1, h2⟩ := trod_inv hf
  refine ⟨i, ?_, h1, h2⟩
  have : cs.toList = ivc i := hc
  rw [show cs = (ivc i).toArray from by rw [← this]]
set_option maxRecDepth 100000 in
theorem open_var {H : Type} {enc : TypeId × Value → H} {r : Reach} {w : World} {b0 base : Nat} {spare : Nat → Bool} {held : Bool} {v : Value} {d : DataW H} {p : List MemPlace}
    (hv : Value.okWide Try.prog w r b0 28 v) (h : DataW.Trod enc Try.prog w base spare held 28 v d p) :
    ∃ x : Sid, v = svv x ∧ Ok4 x.a0 x.a1 x.a2 x.a3 := by
  obtain ⟨cs, rfl⟩ := agg_of Try.underlying28 hv
  obtain ⟨fuel, hf⟩ := h
  obtain ⟨x, hc, h1⟩ := trod_var hf
  refine ⟨x, ?_, h1⟩
  have : cs.toList = svc x := hc
  rw [show cs = (svc x).toArray from by rw [← this]]
end Go.Proofs.Ytififfadodjmeaa

namespace Go.Proofs.Ytififfadodjmeaa
open Go.RowKit Go.Shelf

theorem grown_set {w W : World} {row : Option Nat} {B i : Nat} {v : Value} (h : w.grownBy W row) (hB : w.heap.size ≤ B) : w.grownBy (W.setCell ⟨B, i, none⟩ v) row := by
  have g := grownBy_setCell4 W B i v
  exact ⟨g.os.trans h.os, g.tape.trans h.tape, g.output.trans h.output, Nat.le_trans h.size g.size, fun k hk hr => (g.block k (Nat.lt_of_lt_of_le hk h.size) (by intro e; cases e; omega)).trans (h.block k hk hr)⟩
theorem noBv_i (x : Int) (y : UInt8) : (.int .i64 x : Value) ≠ bv y := by simp [bv]
theorem noBv_s (x : ByteArray) (y : UInt8) : (.string x : Value) ≠ bv y := by simp [bv]
theorem noBv_u (x : Int) (y : UInt8) : (.int .u64 x : Value) ≠ bv y := by simp [bv]
theorem noOct7 {W : World} {B : Nat} {T : TypeId} {i : Trf} (h : Blk W B T (ivc i)) : NoOct W B := noOct_blk h (by
  intro v hv y
  simp only [ivc, List.mem_cons, List.not_mem_nil, or_false] at hv
  rcases hv with rfl | rfl | rfl | rfl | rfl | rfl | rfl <;> simp [bv])
theorem noOct5 {W : World} {B : Nat} {T : TypeId} {i : Sid} (h : Blk W B T (svc i)) : NoOct W B := noOct_blk h (by
  intro v hv y
  simp only [svc, List.mem_cons, List.not_mem_nil, or_false] at hv
  rcases hv with rfl | rfl | rfl | rfl | rfl <;> simp [bv])
/-- One thing is stored beside an object. -/
theorem objP_one {T : TypeId} {W : World} {p : Option Addr} {s : St} {B k : Nat} {v : Value} (h : ObjP T W p s) (hno : NoOct W B) (hne : some B ≠ p.map (·.block)) : ObjP T (W.setCell ⟨B, k, none⟩ v) p s :=
  h.to (grownBy_setCell4 W B k v) (fun r e => by cases e; exact ⟨hno, fun e => hne e.symm⟩)
theorem stored7 {T : TypeId} {p : Option Addr} {s : St} {w Y : World} {R : Nat} {i : Trf} (hO : ObjP T Y p s) (hG : w.grownBy Y (p.map (·.block))) (kR : Blk Y R 23 (ivc i)) (hR : w.heap.size ≤ R) (hne : some R ≠ p.map (·.block)) (x : Trf) :
    Blk (((((((Y.setCell ⟨R, 0, none⟩ (.int .i64 x.us)).setCell ⟨R, 1, none⟩ (.string x.rt)).setCell ⟨R, 2, none⟩ (.int .i64 x.ro)).setCell ⟨R, 3, none⟩ (.int .i64 x.se)).setCell ⟨R, 4, none⟩ (.int .i64 x.re)).setCell ⟨R, 5, none⟩ (.int .i64 x.to)).setCell ⟨R, 6, none⟩ (.string x.id)) R 23 (ivc x) ∧ ObjP T (((((((Y.setCell ⟨R, 0, none⟩ (.int .i64 x.us)).setCell ⟨R, 1, none⟩ (.string x.rt)).setCell ⟨R, 2, none⟩ (.int .i64 x.ro)).setCell ⟨R, 3, none⟩ (.int .i64 x.se)).setCell ⟨R, 4, none⟩ (.int .i64 x.re)).setCell ⟨R, 5, none⟩ (.int .i64 x.to)).setCell ⟨R, 6, none⟩ (.string x.id)) p s ∧ w.grownBy (((((((Y.setCell ⟨R, 0, none⟩ (.int .i64 x.us)).setCell ⟨R, 1, none⟩ (.string x.rt)).setCell ⟨R, 2, none⟩ (.int .i64 x.ro)).setCell ⟨R, 3, none⟩ (.int .i64 x.se)).setCell ⟨R, 4, none⟩ (.int .i64 x.re)).setCell ⟨R, 5, none⟩ (.int .i64 x.to)).setCell ⟨R, 6, none⟩ (.string x.id)) (p.map (·.block)) := by
  have st : ∀ (vs : List Value) (W : World) (k : Nat) (v : Value), Blk W R 23 vs → (∀ u ∈ vs, ∀ y, u ≠ bv y) → (∀ y, v ≠ bv y) → ObjP T W p s → w.grownBy W (p.map (·.block)) →
      Blk (W.setCell ⟨R, k, none⟩ v) R 23 (vs.set k v) ∧ (∀ u ∈ vs.set k v, ∀ y, u ≠ bv y) ∧ ObjP T (W.setCell ⟨R, k, none⟩ v) p s ∧ w.grownBy (W.setCell ⟨R, k, none⟩ v) (p.map (·.block)) := by
    intro vs W k v kW hno hv h g
    refine ⟨kW.set k v, fun u hu => ?_, h.to (grownBy_setCell4 W R k v) (fun r e => by cases e; exact ⟨noOct_blk kW hno, fun e => hne e.symm⟩), grown_set g hR⟩
    rcases List.mem_or_eq_of_mem_set hu with h1 | rfl
    · exact hno u h1
    · exact hv
  have h0 : ∀ u ∈ ivc i, ∀ y, u ≠ bv y := by
    intro u hu y
    simp only [ivc, List.mem_cons, List.not_mem_nil, or_false] at hu
    rcases hu with rfl | rfl | rfl | rfl | rfl | rfl | rfl <;> simp [bv]
  obtain ⟨k0, n0, o0, g0⟩ := st _ _ 0 (.int .i64 x.us) kR h0 (by intro y; simp [bv]) hO hG
  obtain ⟨k1, n1, o1, g1⟩ := st _ _ 1 (.string x.rt) k0 n0 (by intro y; simp [bv]) o0 g0
  obtain ⟨k2, n2, o2, g2⟩ := st _ _ 2 (.int .i64 x.ro) k1 n1 (by intro y; simp [bv]) o1 g1
  obtain ⟨k3, n3, o3, g3⟩ := st _ _ 3 (.int .i64 x.se) k2 n2 (by intro y; simp [bv]) o2 g2
  obtain ⟨k4, n4, o4, g4⟩ := st _ _ 4 (.int .i64 x.re) k3 n3 (by intro y; simp [bv]) o3 g3
  obtain ⟨k5, n5, o5, g5⟩ := st _ _ 5 (.int .i64 x.to) k4 n4 (by intro y; simp [bv]) o4 g4
  obtain ⟨k6, n6, o6, g6⟩ := st _ _ 6 (.string x.id) k5 n5 (by intro y; simp [bv]) o5 g5
  exact ⟨k6, o6, g6⟩
theorem stored5 {T : TypeId} {p : Option Addr} {s : St} {w Y : World} {R : Nat} {i : Sid} (hO : ObjP T Y p s) (hG : w.grownBy Y (p.map (·.block))) (kR : Blk Y R 28 (svc i)) (hR : w.heap.size ≤ R) (hne : some R ≠ p.map (·.block)) (x : Sid) :
    Blk (((((Y.setCell ⟨R, 0, none⟩ (.int .u64 (x.a0 : Nat))).setCell ⟨R, 1, none⟩ (.int .u64 (x.a1 : Nat))).setCell ⟨R, 2, none⟩ (.int .u64 (x.a2 : Nat))).setCell ⟨R, 3, none⟩ (.int .u64 (x.a3 : Nat))).setCell ⟨R, 4, none⟩ (.int .i64 x.x)) R 28 (svc x) ∧ ObjP T (((((Y.setCell ⟨R, 0, none⟩ (.int .u64 (x.a0 : Nat))).setCell ⟨R, 1, none⟩ (.int .u64 (x.a1 : Nat))).setCell ⟨R, 2, none⟩ (.int .u64 (x.a2 : Nat))).setCell ⟨R, 3, none⟩ (.int .u64 (x.a3 : Nat))).setCell ⟨R, 4, none⟩ (.int .i64 x.x)) p s ∧ w.grownBy (((((Y.setCell ⟨R, 0, none⟩ (.int .u64 (x.a0 : Nat))).setCell ⟨R, 1, none⟩ (.int .u64 (x.a1 : Nat))).setCell ⟨R, 2, none⟩ (.int .u64 (x.a2 : Nat))).setCell ⟨R, 3, none⟩ (.int .u64 (x.a3 : Nat))).setCell ⟨R, 4, none⟩ (.int .i64 x.x)) (p.map (·.block)) := by
  have st : ∀ (vs : List Value) (W : World) (k : Nat) (v : Value), Blk W R 28 vs → (∀ u ∈ vs, ∀ y, u ≠ bv y) → (∀ y, v ≠ bv y) → ObjP T W p s → w.grownBy W (p.map (·.block)) →
      Blk (W.setCell ⟨R, k, none⟩ v) R 28 (vs.set k v) ∧ (∀ u ∈ vs.set k v, ∀ y, u ≠ bv y) ∧ ObjP T (W.setCell ⟨R, k, none⟩ v) p s ∧ w.grownBy (W.setCell ⟨R, k, none⟩ v) (p.map (·.block)) := by
    intro vs W k v kW hno hv h g
    refine ⟨kW.set k v, fun u hu => ?_, h.to (grownBy_setCell4 W R k v) (fun r e => by cases e; exact ⟨noOct_blk kW hno, fun e => hne e.symm⟩), grown_set g hR⟩
    rcases List.mem_or_eq_of_mem_set hu with h1 | rfl
    · exact hno u h1
    · exact hv
  have h0 : ∀ u ∈ svc i, ∀ y, u ≠ bv y := by
    intro u hu y
    simp only [svc, List.mem_cons, List.not_mem_nil, or_false] at hu
    rcases hu with rfl | rfl | rfl | rfl | rfl <;> simp [bv]
  obtain ⟨k0, n0, o0, g0⟩ := st _ _ 0 (.int .u64 (x.a0 : Nat)) kR h0 (by intro y; simp [bv]) hO hG
  obtain ⟨k1, n1, o1, g1⟩ := st _ _ 1 (.int .u64 (x.a1 : Nat)) k0 n0 (by intro y; simp [bv]) o0 g0
  obtain ⟨k2, n2, o2, g2⟩ := st _ _ 2 (.int .u64 (x.a2 : Nat)) k1 n1 (by intro y; simp [bv]) o1 g1
  obtain ⟨k3, n3, o3, g3⟩ := st _ _ 3 (.int .u64 (x.a3 : Nat)) k2 n2 (by intro y; simp [bv]) o2 g2
  obtain ⟨k4, n4, o4, g4⟩ := st _ _ 4 (.int .i64 x.x) k3 n3 (by intro y; simp [bv]) o3 g3
  exact ⟨k4, o4, g4⟩
theorem stored5z {T : TypeId} {p : Option Addr} {s : St} {w Y : World} {R : Nat} {i : Sid} (hO : ObjP T Y p s) (hG : w.grownBy Y (p.map (·.block))) (kR : Blk Y R 28 (svc i)) (hR : w.heap.size ≤ R) (hne : some R ≠ p.map (·.block)) :
    Blk (((((Y.setCell ⟨R, 0, none⟩ (.int .u64 0)).setCell ⟨R, 1, none⟩ (.int .u64 0)).setCell ⟨R, 2, none⟩ (.int .u64 0)).setCell ⟨R, 3, none⟩ (.int .u64 0)).setCell ⟨R, 4, none⟩ (.int .i64 0)) R 28 [.int .u64 0, .int .u64 0, .int .u64 0, .int .u64 0, .int .i64 0] ∧ ObjP T (((((Y.setCell ⟨R, 0, none⟩ (.int .u64 0)).setCell ⟨R, 1, none⟩ (.int .u64 0)).setCell ⟨R, 2, none⟩ (.int .u64 0)).setCell ⟨R, 3, none⟩ (.int .u64 0)).setCell ⟨R, 4, none⟩ (.int .i64 0)) p s ∧ w.grownBy (((((Y.setCell ⟨R, 0, none⟩ (.int .u64 0)).setCell ⟨R, 1, none⟩ (.int .u64 0)).setCell ⟨R, 2, none⟩ (.int .u64 0)).setCell ⟨R, 3, none⟩ (.int .u64 0)).setCell ⟨R, 4, none⟩ (.int .i64 0)) (p.map (·.block)) := stored5 hO hG kR hR hne ⟨0, 0, 0, 0, 0⟩

theorem errS_ne (s : St) : (errS s 16).2 ≠ 0 := by
  unfold errS; split
  · simp
  · assumption
/-- A transfer is read, or none; the state behind it. -/
def GotI (T : TypeId) (p : Option Addr) (r : Trf × St) (w : World) (e : Ending) (W' : World) : Prop :=
  e = .returned (ivv r.1) ∧ ObjP T W' p r.2 ∧ w.grownBy W' (p.map (·.block))
def GotV (T : TypeId) (p : Option Addr) (r : Sid × St) (w : World) (e : Ending) (W' : World) : Prop :=
  e = .returned (svv r.1) ∧ ObjP T W' p r.2 ∧ w.grownBy W' (p.map (·.block))
theorem getI_yes {s : St} (h : (rd7 s).2.2 = 0) (g : goodI s) : getI s = (rawI s, (rd7 s).2) := if_pos ⟨h, g⟩
theorem getI_bad {s : St} (h : (rd7 s).2.2 ≠ 0) : getI s = (noI, (rd7 s).2) := by unfold getI; rw [if_neg (fun e => h e.1), errS_bad h]
theorem getI_no {s : St} (h : ¬ goodI s) : getI s = (noI, errS (rd7 s).2 16) := if_neg fun e => h e.2
theorem getV_yes {s : St} (h : (vd1 s).2.2 = 0) (g : maybeV (rawV s)) : getV s = (rawV s, (vd1 s).2) := if_pos ⟨h, g⟩
theorem getV_bad {s : St} (h : (vd1 s).2.2 ≠ 0) : getV s = (noV, (vd1 s).2) := by unfold getV; rw [if_neg (fun e => h e.1), errS_bad h]
theorem getV_no {s : St} (h : ¬ maybeV (rawV s)) : getV s = (noV, errS (vd1 s).2 16) := if_neg fun e => h e.2

set_option maxRecDepth 100000 in
set_option maxHeartbeats 4000000 in
theorem dealGet_any {p : Option Addr} {s : St} (w : World) (h : ObjP 80 w p s) :
    Calls Try.prog 22 #[.pointer p] w (GotI 80 p (getI s) w) := by
  have HT := fun (st : St) (W : World) (n : Int) (hn : n ≤ 1024) (hO : ObjP 80 W p st) => inTextP_any (p := p) n n (Or.inr ⟨by omega, rfl⟩) W hO
  have HN := fun (st : St) (W : World) (hO : ObjP 80 W p st) => inNumP_any (p := p) 1099511627776 1099511627776 (Or.inr ⟨by omega, rfl⟩) W hO
  have H0 : Hid (∀ W, ObjP 80 W p s → Calls Try.prog 48 #[.pointer p, .int .i64 16] W (TxtS 80 p (rd0 s) W)) := Lib.hid fun W hO => HT _ W 16 (by omega) hO
  have H1 : Hid (∀ W, ObjP 80 W p (rd0 s).2 → Calls Try.prog 49 #[.pointer p, .int .i64 1099511627776] W (NumS 80 p (rd1 s) W)) := Lib.hid fun W hO => HN _ W hO
  have H2 : Hid (∀ W, ObjP 80 W p (rd1 s).2 → Calls Try.prog 48 #[.pointer p, .int .i64 8] W (TxtS 80 p (rd2 s) W)) := Lib.hid fun W hO => HT _ W 8 (by omega) hO
  have H3 : Hid (∀ W, ObjP 80 W p (rd2 s).2 → Calls Try.prog 49 #[.pointer p, .int .i64 1099511627776] W (NumS 80 p (rd3 s) W)) := Lib.hid fun W hO => HN _ W hO
  have H4 : Hid (∀ W, ObjP 80 W p (rd3 s).2 → Calls Try.prog 49 #[.pointer p, .int .i64 1099511627776] W (NumS 80 p (rd4 s) W)) := Lib.hid fun W hO => HN _ W hO
  have H5 : Hid (∀ W, ObjP 80 W p (rd4 s).2 → Calls Try.prog 49 #[.pointer p, .int .i64 1099511627776] W (NumS 80 p (rd5 s) W)) := Lib.hid fun W hO => HN _ W hO
  have H6 : Hid (∀ W, ObjP 80 W p (rd5 s).2 → Calls Try.prog 49 #[.pointer p, .int .i64 1099511627776] W (NumS 80 p (rd6 s) W)) := Lib.hid fun W hO => HN _ W hO
  have H7 : Hid (∀ W, ObjP 80 W p (rd6 s).2 → Calls Try.prog 48 #[.pointer p, .int .i64 16] W (TxtS 80 p (rd7 s) W)) := Lib.hid fun W hO => HT _ W 16 (by omega) hO
  clear HT HN
  have HW1 : Hid ((str (rd0 s).1 = invB ∧ maybeI (rawI s)) ↔ goodI s) := Lib.hid Iff.rfl
  have HR : Hid (rawI s = ⟨(rd1 s).1, str (rd2 s).1, (rd3 s).1, (rd4 s).1, (rd5 s).1, (rd6 s).1, str (rd7 s).1⟩) := Lib.hid rfl
  have HNR := Lib.hid (ptr_lt h (Nat.le_refl w.heap.size))
  have HNL := Lib.hid (ptr_lt h (Nat.le_succ w.heap.size))
  have hz0 : (w.alloc (.cells (ivc noI).toArray 23)).heap.size = w.heap.size + 1 := by simp
  have kR := (Blk.new w 23 (ivc noI)).alloc (.cells (ivc noI).toArray 23)
  have kL : Blk ((w.alloc (.cells (ivc noI).toArray 23)).alloc (.cells (ivc noI).toArray 23)) (w.heap.size + 1) 23 (ivc noI) := Blk.new' hz0
  have hG := (World.grownBy_alloc w (.cells (ivc noI).toArray 23) (p.map (·.block))).trans (World.grownBy_alloc _ (.cells (ivc noI).toArray 23) (p.map (·.block)))
  have hO0 := (h.below (chain0 w (.cells (ivc noI).toArray 23))).below (chain0 _ (.cells (ivc noI).toArray 23))
  clear h hz0
  go_enter Try.func22, Try.ntmps22
  go_upto_region 10 with (first
    | (go_at_call 48; refine (H0.out _ hO0).mono ?_; rintro e W0 ⟨rfl, q, g⟩; replace hG := World.grownBy.trans hG g; replace kR := kR.kept g HNR.out; replace kL := kL.kept g HNL.out; (try clear z f); have hO1 := q; clear q g hO0)
    | (go_at_call 49; refine (H1.out _ hO1).mono ?_; rintro e W1 ⟨rfl, q, g⟩; replace hG := World.grownBy.trans hG g; replace kR := kR.kept g HNR.out; replace kL := kL.kept g HNL.out; (try clear z f); have z := (kL.cell 0).trans rfl; have f := kL.frozen 0; have hO2 := objP_one (B := w.heap.size + 1) (k := 0) (v := (.int .i64 ((rd1 s).1 : Nat))) q (noOct7 kL) HNL.out; replace kR := kR.other (B' := w.heap.size + 1) 0 (.int .i64 ((rd1 s).1 : Nat)) (by omega); replace kL : Blk _ (w.heap.size + 1) 23 (ivc ⟨(((rd1 s).1 : Nat) : Int), ⟨#[]⟩, (0 : Int), (0 : Int), (0 : Int), (0 : Int), ⟨#[]⟩⟩) := kL.set 0 (.int .i64 ((rd1 s).1 : Nat)); replace hG := grown_set (B := w.heap.size + 1) (i := 0) (v := (.int .i64 ((rd1 s).1 : Nat))) hG (Nat.le_succ _); clear q g hO1)
    | (go_at_call 48; refine (H2.out _ hO2).mono ?_; rintro e W2 ⟨rfl, q, g⟩; replace hG := World.grownBy.trans hG g; replace kR := kR.kept g HNR.out; replace kL := kL.kept g HNL.out; (try clear z f); have z := (kL.cell 1).trans rfl; have f := kL.frozen 1; have hO3 := objP_one (B := w.heap.size + 1) (k := 1) (v := (.string ⟨(rd2 s).1.toArray⟩)) q (noOct7 kL) HNL.out; replace kR := kR.other (B' := w.heap.size + 1) 1 (.string ⟨(rd2 s).1.toArray⟩) (by omega); replace kL : Blk _ (w.heap.size + 1) 23 (ivc ⟨(((rd1 s).1 : Nat) : Int), (str (rd2 s).1), (0 : Int), (0 : Int), (0 : Int), (0 : Int), ⟨#[]⟩⟩) := kL.set 1 (.string ⟨(rd2 s).1.toArray⟩); replace hG := grown_set (B := w.heap.size + 1) (i := 1) (v := (.string ⟨(rd2 s).1.toArray⟩)) hG (Nat.le_succ _); clear q g hO2)
    | (go_at_call 49; refine (H3.out _ hO3).mono ?_; rintro e W3 ⟨rfl, q, g⟩; replace hG := World.grownBy.trans hG g; replace kR := kR.kept g HNR.out; replace kL := kL.kept g HNL.out; (try clear z f); have z := (kL.cell 2).trans rfl; have f := kL.frozen 2; have hO4 := objP_one (B := w.heap.size + 1) (k := 2) (v := (.int .i64 ((rd3 s).1 : Nat))) q (noOct7 kL) HNL.out; replace kR := kR.other (B' := w.heap.size + 1) 2 (.int .i64 ((rd3 s).1 : Nat)) (by omega); replace kL : Blk _ (w.heap.size + 1) 23 (ivc ⟨(((rd1 s).1 : Nat) : Int), (str (rd2 s).1), (((rd3 s).1 : Nat) : Int), (0 : Int), (0 : Int), (0 : Int), ⟨#[]⟩⟩) := kL.set 2 (.int .i64 ((rd3 s).1 : Nat)); replace hG := grown_set (B := w.heap.size + 1) (i := 2) (v := (.int .i64 ((rd3 s).1 : Nat))) hG (Nat.le_succ _); clear q g hO3)
    | (go_at_call 49; refine (H4.out _ hO4).mono ?_; rintro e W4 ⟨rfl, q, g⟩; replace hG := World.grownBy.trans hG g; replace kR := kR.kept g HNR.out; replace kL := kL.kept g HNL.out; (try clear z f); have z := (kL.cell 3).trans rfl; have f := kL.frozen 3; have hO5 := objP_one (B := w.heap.size + 1) (k := 3) (v := (.int .i64 ((rd4 s).1 : Nat))) q (noOct7 kL) HNL.out; replace kR := kR.other (B' := w.heap.size + 1) 3 (.int .i64 ((rd4 s).1 : Nat)) (by omega); replace kL : Blk _ (w.heap.size + 1) 23 (ivc ⟨(((rd1 s).1 : Nat) : Int), (str (rd2 s).1), (((rd3 s).1 : Nat) : Int), (((rd4 s).1 : Nat) : Int), (0 : Int), (0 : Int), ⟨#[]⟩⟩) := kL.set 3 (.int .i64 ((rd4 s).1 : Nat)); replace hG := grown_set (B := w.heap.size + 1) (i := 3) (v := (.int .i64 ((rd4 s).1 : Nat))) hG (Nat.le_succ _); clear q g hO4)
    | (go_at_call 49; refine (H5.out _ hO5).mono ?_; rintro e W5 ⟨rfl, q, g⟩; replace hG := World.grownBy.trans hG g; replace kR := kR.kept g HNR.out; replace kL := kL.kept g HNL.out; (try clear z f); have z := (kL.cell 4).trans rfl; have f := kL.frozen 4; have hO6 := objP_one (B := w.heap.size + 1) (k := 4) (v := (.int .i64 ((rd5 s).1 : Nat))) q (noOct7 kL) HNL.out; replace kR := kR.other (B' := w.heap.size + 1) 4 (.int .i64 ((rd5 s).1 : Nat)) (by omega); replace kL : Blk _ (w.heap.size + 1) 23 (ivc ⟨(((rd1 s).1 : Nat) : Int), (str (rd2 s).1), (((rd3 s).1 : Nat) : Int), (((rd4 s).1 : Nat) : Int), (((rd5 s).1 : Nat) : Int), (0 : Int), ⟨#[]⟩⟩) := kL.set 4 (.int .i64 ((rd5 s).1 : Nat)); replace hG := grown_set (B := w.heap.size + 1) (i := 4) (v := (.int .i64 ((rd5 s).1 : Nat))) hG (Nat.le_succ _); clear q g hO5)
    | (go_at_call 49; refine (H6.out _ hO6).mono ?_; rintro e W6 ⟨rfl, q, g⟩; replace hG := World.grownBy.trans hG g; replace kR := kR.kept g HNR.out; replace kL := kL.kept g HNL.out; (try clear z f); have z := (kL.cell 5).trans rfl; have f := kL.frozen 5; have hO7 := objP_one (B := w.heap.size + 1) (k := 5) (v := (.int .i64 ((rd6 s).1 : Nat))) q (noOct7 kL) HNL.out; replace kR := kR.other (B' := w.heap.size + 1) 5 (.int .i64 ((rd6 s).1 : Nat)) (by omega); replace kL : Blk _ (w.heap.size + 1) 23 (ivc ⟨(((rd1 s).1 : Nat) : Int), (str (rd2 s).1), (((rd3 s).1 : Nat) : Int), (((rd4 s).1 : Nat) : Int), (((rd5 s).1 : Nat) : Int), (((rd6 s).1 : Nat) : Int), ⟨#[]⟩⟩) := kL.set 5 (.int .i64 ((rd6 s).1 : Nat)); replace hG := grown_set (B := w.heap.size + 1) (i := 5) (v := (.int .i64 ((rd6 s).1 : Nat))) hG (Nat.le_succ _); clear q g hO6)
    | (go_at_call 48; refine (H7.out _ hO7).mono ?_; rintro e W7 ⟨rfl, q, g⟩; replace hG := World.grownBy.trans hG g; replace kR := kR.kept g HNR.out; replace kL := kL.kept g HNL.out; (try clear z f); have z := (kL.cell 6).trans rfl; have f := kL.frozen 6; have hO8 := objP_one (B := w.heap.size + 1) (k := 6) (v := (.string ⟨(rd7 s).1.toArray⟩)) q (noOct7 kL) HNL.out; replace kR := kR.other (B' := w.heap.size + 1) 6 (.string ⟨(rd7 s).1.toArray⟩) (by omega); replace kL : Blk _ (w.heap.size + 1) 23 (ivc ⟨(((rd1 s).1 : Nat) : Int), (str (rd2 s).1), (((rd3 s).1 : Nat) : Int), (((rd4 s).1 : Nat) : Int), (((rd5 s).1 : Nat) : Int), (((rd6 s).1 : Nat) : Int), (str (rd7 s).1)⟩) := kL.set 6 (.string ⟨(rd7 s).1.toArray⟩); replace hG := grown_set (B := w.heap.size + 1) (i := 6) (v := (.string ⟨(rd7 s).1.toArray⟩)) hG (Nat.le_succ _); clear q g hO7))
  clear H0 H1 H2 H3 H4 H5 H6 H7 z f
  have hz : (w.heap.size + 1 = w.heap.size.succ) := rfl
  clear hz
  generalize hY : (World.setCell W7 _ _) = Y at *
  clear hY
  obtain ⟨c0, c1, c2, c3, c4, c5, c6⟩ := kL.c7
  have HC : Hid (∀ W, Calls Try.prog 8 #[ivv ⟨(rd1 s).1, str (rd2 s).1, (rd3 s).1, (rd4 s).1, (rd5 s).1, (rd6 s).1, str (rd7 s).1⟩] W fun e W' => e = .returned (.int .i64 (errI (rawI s))) ∧ Below W.heap.size W W') := Lib.hid (check_any (rawI s))
  have HGD : Hid (goodI s ↔ (rd0 s).1 = [105, 110, 118] ∧ maybeI (rawI s)) := Lib.hid (by
    have e : str (rd0 s).1 = invB ↔ (rd0 s).1 = [105, 110, 118] := ⟨fun e => by have := congrArg (fun b : ByteArray => b.data.toList) e; simpa [str, invB] using this, fun e => by rw [e]; rfl⟩
    rw [goodI, e])
  clear HR HW1
  have hes : ((errS (rd7 s).2 16).2 != 0) = true := by simpa using errS_ne (rd7 s).2
  have hes2 : ((errS (rd7 s).2 16).2 == 0) = false := by simpa using errS_ne (rd7 s).2
  by_cases hw : (rd0 s).1 = [105, 110, 118]
  · have hw2 : ((rd0 s).1 == [105, 110, 118]) = true := by simpa using hw
    by_cases hm : maybeI (rawI s)
    · have HE := Lib.hid (errI_zero hm)
      have HGG := Lib.hid (HGD.out.2 ⟨hw, hm⟩)
      clear hm hw HGD
      by_cases he : (rd7 s).2.2 = 0
      · have hq1 : ((rd7 s).2.2 == 0) = true := by simpa using he
        have hq2 : ((rd7 s).2.2 != 0) = false := by simpa using he
        have HX := Lib.hid (getI_yes he HGG.out)
        clear he HGG
        have HRW : Hid (rawI s = ⟨(rd1 s).1, str (rd2 s).1, (rd3 s).1, (rd4 s).1, (rd5 s).1, (rd6 s).1, str (rd7 s).1⟩) := Lib.hid rfl
        go_wp2_with (first
          | (go_at_call 8; refine (HC.out _).mono ?_; rw [HE.out]; rintro e V0 ⟨rfl, hb⟩; replace kR := kR.below hb kR.lt; replace kL := kL.below hb kL.lt; replace hG := World.grownBy.trans hG (grew hb _); replace hO8 := hO8.below hb; obtain ⟨r0, r1, r2, r3, r4, r5, r6⟩ := kR.c7; have fr := kR.frozen; obtain ⟨c0, c1, c2, c3, c4, c5, c6⟩ := kL.c7)
          | (go_at_call 23; refine (inErr_any _ hO8).mono ?_; rintro e V2 ⟨rfl, rfl⟩))
        obtain ⟨kZ, oZ, gZ⟩ := stored7 hO8 hG kR (Nat.le_refl _) HNR.out ⟨(rd1 s).1, str (rd2 s).1, (rd3 s).1, (rd4 s).1, (rd5 s).1, (rd6 s).1, str (rd7 s).1⟩
        dsimp only at kZ oZ gZ
        obtain ⟨q0, q1, q2, q3, q4, q5, q6⟩ := kZ.c7
        exact bodyPost_ret (v := ivv ⟨(rd1 s).1, str (rd2 s).1, (rd3 s).1, (rd4 s).1, (rd5 s).1, (rd6 s).1, str (rd7 s).1⟩) (by simp [results, Try.results22, go_sem, q0, q1, q2, q3, q4, q5, q6]) rfl ⟨by rw [HX.out]; rfl, by rw [HX.out]; exact oZ, gZ⟩
      · have hq1 : ((rd7 s).2.2 == 0) = false := by simpa using he
        have hq2 : ((rd7 s).2.2 != 0) = true := by simpa using he
        have HX := Lib.hid (getI_bad he)
        clear he HGG
        go_wp2_with (first
          | (go_at_call 8; refine (HC.out _).mono ?_; rw [HE.out]; rintro e V0 ⟨rfl, hb⟩; replace kR := kR.below hb kR.lt; replace kL := kL.below hb kL.lt; replace hG := World.grownBy.trans hG (grew hb _); replace hO8 := hO8.below hb; obtain ⟨r0, r1, r2, r3, r4, r5, r6⟩ := kR.c7; have fr := kR.frozen; obtain ⟨c0, c1, c2, c3, c4, c5, c6⟩ := kL.c7)
          | (go_at_call 23; refine (inErr_any _ hO8).mono ?_; rintro e V2 ⟨rfl, rfl⟩))
        obtain ⟨kZ, oZ, gZ⟩ := stored7 hO8 hG kR (Nat.le_refl _) HNR.out ⟨0, ⟨#[]⟩, 0, 0, 0, 0, ⟨#[]⟩⟩
        dsimp only at kZ oZ gZ
        obtain ⟨q0, q1, q2, q3, q4, q5, q6⟩ := kZ.c7
        exact bodyPost_ret (v := ivv ⟨0, ⟨#[]⟩, 0, 0, 0, 0, ⟨#[]⟩⟩) (by simp [results, Try.results22, go_sem, q0, q1, q2, q3, q4, q5, q6]) rfl ⟨by rw [HX.out]; rfl, by rw [HX.out]; exact oZ, gZ⟩
    · have HE := Lib.hid (errI_bad hm)
      have HX := Lib.hid (getI_no (s := s) (fun e => hm (HGD.out.1 e).2))
      clear hm hw HGD
      go_wp2_with (first
        | (go_at_call 8; refine (HC.out _).mono ?_; rw [HE.out]; rintro e V0 ⟨rfl, hb⟩; replace kR := kR.below hb kR.lt; replace kL := kL.below hb kL.lt; replace hG := World.grownBy.trans hG (grew hb _); replace hO8 := hO8.below hb; obtain ⟨r0, r1, r2, r3, r4, r5, r6⟩ := kR.c7; have fr := kR.frozen; obtain ⟨c0, c1, c2, c3, c4, c5, c6⟩ := kL.c7)
        | (go_at_call 50; refine (inSpoil_any _ hO8).mono ?_; rintro e V1 ⟨rfl, hO9, g⟩; replace kR := kR.kept g HNR.out; replace hG := World.grownBy.trans hG g; obtain ⟨r0, r1, r2, r3, r4, r5, r6⟩ := kR.c7; have fr := kR.frozen)
        | (go_at_call 23; refine (inErr_any _ hO9).mono ?_; rintro e V2 ⟨rfl, rfl⟩))
      obtain ⟨kZ, oZ, gZ⟩ := stored7 hO9 hG kR (Nat.le_refl _) HNR.out ⟨0, ⟨#[]⟩, 0, 0, 0, 0, ⟨#[]⟩⟩
      dsimp only at kZ oZ gZ
      obtain ⟨q0, q1, q2, q3, q4, q5, q6⟩ := kZ.c7
      exact bodyPost_ret (v := ivv ⟨0, ⟨#[]⟩, 0, 0, 0, 0, ⟨#[]⟩⟩) (by simp [results, Try.results22, go_sem, q0, q1, q2, q3, q4, q5, q6]) rfl ⟨by rw [HX.out]; rfl, by rw [HX.out]; exact oZ, gZ⟩
  · have hw2 : ((rd0 s).1 == [105, 110, 118]) = false := by simpa using hw
    have HX := Lib.hid (getI_no (s := s) (fun e => hw (HGD.out.1 e).1))
    clear hw HGD
    go_wp2_with (first
      | (go_at_call 50; refine (inSpoil_any _ hO8).mono ?_; rintro e V1 ⟨rfl, hO9, g⟩; replace kR := kR.kept g HNR.out; replace hG := World.grownBy.trans hG g; obtain ⟨r0, r1, r2, r3, r4, r5, r6⟩ := kR.c7; have fr := kR.frozen)
      | (go_at_call 23; refine (inErr_any _ hO9).mono ?_; rintro e V2 ⟨rfl, rfl⟩))
    obtain ⟨kZ, oZ, gZ⟩ := stored7 hO9 hG kR (Nat.le_refl _) HNR.out ⟨0, ⟨#[]⟩, 0, 0, 0, 0, ⟨#[]⟩⟩
    dsimp only at kZ oZ gZ
    obtain ⟨q0, q1, q2, q3, q4, q5, q6⟩ := kZ.c7
    exact bodyPost_ret (v := ivv ⟨0, ⟨#[]⟩, 0, 0, 0, 0, ⟨#[]⟩⟩) (by simp [results, Try.results22, go_sem, q0, q1, q2, q3, q4, q5, q6]) rfl ⟨by rw [HX.out]; rfl, by rw [HX.out]; exact oZ, gZ⟩

set_option maxRecDepth 100000 in
set_option maxHeartbeats 4000000 in
theorem dealGetVar_any {p : Option Addr} {s : St} (w : World) (h : ObjP 80 w p s) :
    Calls Try.prog 26 #[.pointer p] w (GotV 80 p (getV s) w) := by
  have H0 : Hid (∀ W, ObjP 80 W p s → Calls Try.prog 52 #[.pointer p] W (WidS 80 p (vd0 s) W)) := Lib.hid fun W hO => inWide_any W hO
  have H1 : Hid (∀ W, ObjP 80 W p (vd0 s).2 → Calls Try.prog 49 #[.pointer p, .int .i64 1099511627776] W (NumS 80 p (vd1 s) W)) := Lib.hid fun W hO => inNumP_any (p := p) 1099511627776 1099511627776 (Or.inr ⟨by omega, rfl⟩) W hO
  have HNR := Lib.hid (ptr_lt h (Nat.le_refl w.heap.size))
  have HNL := Lib.hid (ptr_lt h (Nat.le_succ w.heap.size))
  have hz0 : (w.alloc (.cells (svc noV).toArray 28)).heap.size = w.heap.size + 1 := by simp
  have kR := (Blk.new w 28 (svc noV)).alloc (.cells (svc noV).toArray 28)
  have kL : Blk ((w.alloc (.cells (svc noV).toArray 28)).alloc (.cells (svc noV).toArray 28)) (w.heap.size + 1) 28 (svc noV) := Blk.new' hz0
  have hG := (World.grownBy_alloc w (.cells (svc noV).toArray 28) (p.map (·.block))).trans (World.grownBy_alloc _ (.cells (svc noV).toArray 28) (p.map (·.block)))
  have hO0 := (h.below (chain0 w (.cells (svc noV).toArray 28))).below (chain0 _ (.cells (svc noV).toArray 28))
  clear h hz0
  generalize hu0 : wdS (vd0 s).1 0 = u0 at *
  generalize hu1 : wdS (vd0 s).1 1 = u1 at *
  generalize hu2 : wdS (vd0 s).1 2 = u2 at *
  generalize hu3 : wdS (vd0 s).1 3 = u3 at *
  have HU : Hid (wdS (vd0 s).1 0 = u0 ∧ wdS (vd0 s).1 1 = u1 ∧ wdS (vd0 s).1 2 = u2 ∧ wdS (vd0 s).1 3 = u3) := Lib.hid ⟨hu0, hu1, hu2, hu3⟩
  have HRW : Hid (rawV s = ⟨u0, u1, u2, u3, ((vd1 s).1 : Nat)⟩) := Lib.hid (by rw [rawV, hu0, hu1, hu2, hu3])
  have HQ0 : Hid (∀ W, ObjP 80 W p s → Calls Try.prog 52 #[.pointer p] W (fun e W' => e = .returned (wv u0 u1 u2 u3) ∧ ObjP 80 W' p (vd0 s).2 ∧ W.grownBy W' (p.map (·.block)))) := Lib.hid fun W hO => (H0.out W hO).mono (by rintro e W' ⟨rfl, a, b⟩; exact ⟨by rw [hu0, hu1, hu2, hu3], a, b⟩)
  clear hu0 hu1 hu2 hu3 H0
  go_enter Try.func26, Try.ntmps26
  go_upto_region 4 with (first
    | (go_at_call 52; refine (HQ0.out _ hO0).mono ?_; rintro e W0 ⟨rfl, q, g⟩; replace hG := World.grownBy.trans hG g; replace kR := kR.kept g HNR.out; replace kL := kL.kept g HNL.out; obtain ⟨z0, z1, z2, z3, z4⟩ := kL.c5; have f := kL.frozen; replace q := objP_one (B := w.heap.size + 1) (k := 0) (v := .int .u64 (u0 : Nat)) q (noOct5 kL) HNL.out; replace kR := kR.other (B' := w.heap.size + 1) 0 (.int .u64 (u0 : Nat)) (by omega); replace kL : Blk _ (w.heap.size + 1) 28 (svc ⟨u0, 0, 0, 0, 0⟩) := kL.set 0 (.int .u64 (u0 : Nat)); replace hG := grown_set (B := w.heap.size + 1) (i := 0) (v := .int .u64 (u0 : Nat)) hG (Nat.le_succ _); replace q := objP_one (B := w.heap.size + 1) (k := 1) (v := .int .u64 (u1 : Nat)) q (noOct5 kL) HNL.out; replace kR := kR.other (B' := w.heap.size + 1) 1 (.int .u64 (u1 : Nat)) (by omega); replace kL : Blk _ (w.heap.size + 1) 28 (svc ⟨u0, u1, 0, 0, 0⟩) := kL.set 1 (.int .u64 (u1 : Nat)); replace hG := grown_set (B := w.heap.size + 1) (i := 1) (v := .int .u64 (u1 : Nat)) hG (Nat.le_succ _); replace q := objP_one (B := w.heap.size + 1) (k := 2) (v := .int .u64 (u2 : Nat)) q (noOct5 kL) HNL.out; replace kR := kR.other (B' := w.heap.size + 1) 2 (.int .u64 (u2 : Nat)) (by omega); replace kL : Blk _ (w.heap.size + 1) 28 (svc ⟨u0, u1, u2, 0, 0⟩) := kL.set 2 (.int .u64 (u2 : Nat)); replace hG := grown_set (B := w.heap.size + 1) (i := 2) (v := .int .u64 (u2 : Nat)) hG (Nat.le_succ _); replace q := objP_one (B := w.heap.size + 1) (k := 3) (v := .int .u64 (u3 : Nat)) q (noOct5 kL) HNL.out; replace kR := kR.other (B' := w.heap.size + 1) 3 (.int .u64 (u3 : Nat)) (by omega); replace kL : Blk _ (w.heap.size + 1) 28 (svc ⟨u0, u1, u2, u3, 0⟩) := kL.set 3 (.int .u64 (u3 : Nat)); replace hG := grown_set (B := w.heap.size + 1) (i := 3) (v := .int .u64 (u3 : Nat)) hG (Nat.le_succ _); have hO1 := q; clear q g hO0)
    | (go_at_call 49; refine (H1.out _ hO1).mono ?_; rintro e W1 ⟨rfl, q, g⟩; replace hG := World.grownBy.trans hG g; replace kR := kR.kept g HNR.out; replace kL := kL.kept g HNL.out; clear z0 z1 z2 z3 z4 f; have z4 := (kL.cell 4).trans rfl; have f := kL.frozen 4; have hO2 := objP_one (B := w.heap.size + 1) (k := 4) (v := .int .i64 ((vd1 s).1 : Nat)) q (noOct5 kL) HNL.out; replace kR := kR.other (B' := w.heap.size + 1) 4 (.int .i64 ((vd1 s).1 : Nat)) (by omega); replace kL : Blk _ (w.heap.size + 1) 28 (svc ⟨u0, u1, u2, u3, ((vd1 s).1 : Nat)⟩) := kL.set 4 (.int .i64 ((vd1 s).1 : Nat)); replace hG := grown_set (B := w.heap.size + 1) (i := 4) (v := .int .i64 ((vd1 s).1 : Nat)) hG (Nat.le_succ _); clear q g hO1))
  clear H1 HQ0 z4 f
  generalize hY : (World.setCell W1 _ _) = Y at *
  clear hY
  obtain ⟨c0, c1, c2, c3, c4⟩ := kL.c5
  have HC : Hid (∀ W, Calls Try.prog 10 #[svv ⟨u0, u1, u2, u3, ((vd1 s).1 : Nat)⟩] W fun e W' => e = .returned (.int .i64 (errV (rawV s))) ∧ Below W.heap.size W W') := Lib.hid (by rw [HRW.out]; exact sound_any _)
  have hes : ((errS (vd1 s).2 16).2 != 0) = true := by simpa using errS_ne (vd1 s).2
  have hes2 : ((errS (vd1 s).2 16).2 == 0) = false := by simpa using errS_ne (vd1 s).2
  by_cases hm : maybeV (rawV s)
  · have HE := Lib.hid (errV_zero hm)
    by_cases he : (vd1 s).2.2 = 0
    · have hq1 : ((vd1 s).2.2 == 0) = true := by simpa using he
      have hq2 : ((vd1 s).2.2 != 0) = false := by simpa using he
      have HX := Lib.hid (getV_yes he hm)
      clear he hm
      go_wp2_with (first
        | (go_at_call 10; refine (HC.out _).mono ?_; rw [HE.out]; rintro e V0 ⟨rfl, hb⟩; replace kR := kR.below hb kR.lt; replace kL := kL.below hb kL.lt; replace hG := World.grownBy.trans hG (grew hb _); replace hO2 := hO2.below hb; clear c0 c1 c2 c3 c4; obtain ⟨r0, r1, r2, r3, r4⟩ := kR.c5; have fr := kR.frozen; obtain ⟨c0, c1, c2, c3, c4⟩ := kL.c5)
        | (go_at_call 23; refine (inErr_any _ hO2).mono ?_; rintro e V2 ⟨rfl, rfl⟩))
      obtain ⟨kZ, oZ, gZ⟩ := stored5 hO2 hG kR (Nat.le_refl _) HNR.out ⟨u0, u1, u2, u3, ((vd1 s).1 : Nat)⟩
      try dsimp only at kZ oZ gZ
      obtain ⟨q0, q1, q2, q3, q4⟩ := kZ.c5
      exact bodyPost_ret (v := svv ⟨u0, u1, u2, u3, ((vd1 s).1 : Nat)⟩) (by simp [results, Try.results26, go_sem, q0, q1, q2, q3, q4]) rfl ⟨by rw [HX.out, HRW.out], by rw [HX.out]; exact oZ, gZ⟩
    · have hq1 : ((vd1 s).2.2 == 0) = false := by simpa using he
      have hq2 : ((vd1 s).2.2 != 0) = true := by simpa using he
      have HX := Lib.hid (getV_bad he)
      clear he hm
      go_wp2_with (first
        | (go_at_call 10; refine (HC.out _).mono ?_; rw [HE.out]; rintro e V0 ⟨rfl, hb⟩; replace kR := kR.below hb kR.lt; replace kL := kL.below hb kL.lt; replace hG := World.grownBy.trans hG (grew hb _); replace hO2 := hO2.below hb; clear c0 c1 c2 c3 c4; obtain ⟨r0, r1, r2, r3, r4⟩ := kR.c5; have fr := kR.frozen; obtain ⟨c0, c1, c2, c3, c4⟩ := kL.c5)
        | (go_at_call 23; refine (inErr_any _ hO2).mono ?_; rintro e V2 ⟨rfl, rfl⟩))
      obtain ⟨kZ, oZ, gZ⟩ := stored5z hO2 hG kR (Nat.le_refl _) HNR.out
      try dsimp only at kZ oZ gZ
      obtain ⟨q0, q1, q2, q3, q4⟩ := kZ.c5
      exact bodyPost_ret (v := svv ⟨0, 0, 0, 0, 0⟩) (by simp [results, Try.results26, go_sem, q0, q1, q2, q3, q4]) rfl ⟨by rw [HX.out]; rfl, by rw [HX.out]; exact oZ, gZ⟩
  · have HE := Lib.hid (errV_bad hm)
    have HX := Lib.hid (getV_no hm)
    clear hm
    go_wp2_with (first
      | (go_at_call 10; refine (HC.out _).mono ?_; rw [HE.out]; rintro e V0 ⟨rfl, hb⟩; replace kR := kR.below hb kR.lt; replace kL := kL.below hb kL.lt; replace hG := World.grownBy.trans hG (grew hb _); replace hO2 := hO2.below hb; clear c0 c1 c2 c3 c4; obtain ⟨r0, r1, r2, r3, r4⟩ := kR.c5; have fr := kR.frozen; obtain ⟨c0, c1, c2, c3, c4⟩ := kL.c5)
      | (go_at_call 50; refine (inSpoil_any _ hO2).mono ?_; rintro e V1 ⟨rfl, hO9, g⟩; replace kR := kR.kept g HNR.out; replace hG := World.grownBy.trans hG g; clear r0 r1 r2 r3 r4 fr; obtain ⟨r0, r1, r2, r3, r4⟩ := kR.c5; have fr := kR.frozen)
      | (go_at_call 23; refine (inErr_any _ hO9).mono ?_; rintro e V2 ⟨rfl, rfl⟩))
    obtain ⟨kZ, oZ, gZ⟩ := stored5z hO9 hG kR (Nat.le_refl _) HNR.out
    try dsimp only at kZ oZ gZ
    obtain ⟨q0, q1, q2, q3, q4⟩ := kZ.c5
    exact bodyPost_ret (v := svv ⟨0, 0, 0, 0, 0⟩) (by simp [results, Try.results26, go_sem, q0, q1, q2, q3, q4]) rfl ⟨by rw [HX.out]; rfl, by rw [HX.out]; exact oZ, gZ⟩
end Go.Proofs.Ytififfadodjmeaa
