/-
  What all readings of arguments share; A wide number among the arguments is four words; A number and a text have one cell each; Sizes within an argument; A transfer, and a side's data, among the arguments; A transaction among the arguments; A slice of structs among the arguments; A row of events among the arguments, and how many there may be
-/
import Derived.Test.YthbpidekfocioaaRows
import Derived.ProofKit
import Derived.OpenShut
import Derived.Laws.IdiomArrays
import Derived.Lib.SmallJoins
import Derived.Below
import Derived.Deep.Slices
import Derived.SizedLaws
import Derived.Carry
import Derived.ChangeMaps5
import Derived.JoinedCond
import Derived.Deep.Fields
import Derived.Test.YthbpidekfocioaaK07
namespace Go.Proofs.Ythbpidekfocioaa
open Go.ChangeShapes Go.WideShapes Go.ChangeAt Go.RowKit
theorem Try.own : ownKnob Try.prog.godebug = none := by kernel_rfl
theorem Try.laidOut : laidOutB Try.prog = true := by kernel_rfl
theorem wf_i64 {x : Int} (h : (Lit.int .i64 x).wf = true) : -9223372036854775808 ≤ x ∧ x ≤ 9223372036854775807 := by
  simp [Lit.wf, IntKind.min, IntKind.max, IntKind.bits, IntKind.signed] at h
  omega
theorem list_of {α : Type} {Q : Nat → α → Prop} : ∀ {n : Nat}, (∀ i, i < n → ∃ x, Q i x) → ∃ l : List α, l.length = n ∧ ∀ k x, l[k]? = some x → Q k x
  | 0, _ => ⟨[], rfl, fun k x h => by simp at h⟩
  | n + 1, h => by
    obtain ⟨l, hl, hq⟩ := list_of (n := n) (fun i hi => h i (by omega))
    obtain ⟨y, hy⟩ := h n (by omega)
    refine ⟨l ++ [y], by simp [hl], fun k x hx => ?_⟩
    by_cases hk : k < n
    · rw [List.getElem?_append_left (by omega)] at hx
      exact hq k x hx
    · rw [List.getElem?_append_right (by omega)] at hx
      have : k = n := by
        have := (List.getElem?_eq_some_iff.1 hx).1
        simp at this
        omega
      subst this
      simp [hl] at hx
      rw [← hx]; exact hy
theorem add_plain (b off q : Nat) : (⟨b, off, none⟩ : Addr).add q = ⟨b, off + q, none⟩ := by cases q <;> simp [Addr.add]
end Go.Proofs.Ythbpidekfocioaa
namespace Go.Proofs.Ythbpidekfocioaa
open Go.ChangeShapes Go.WideShapes Go.ChangeAt Go.RowKit
theorem Try.cells24 : Try.prog.cellsOf 27 = 4 := by kernel_rfl
theorem Try.cells22 : Try.prog.cellsOf 25 = 1 := by kernel_rfl
theorem wf_u64 {x : Int} (h : (Lit.int .u64 x).wf = true) : ∃ n : Nat, x = (n : Int) ∧ n < M := by
  have h' : 0 ≤ x ∧ x < 18446744073709551616 := by
    simp [Lit.wf, IntKind.min, IntKind.max, IntKind.bits, IntKind.signed] at h
    omega
  obtain ⟨n, rfl⟩ := Int.eq_ofNat_of_zero_le h'.1
  exact ⟨n, rfl, by unfold M; omega⟩
end Go.Proofs.Ythbpidekfocioaa
namespace Go.Proofs.Ythbpidekfocioaa
theorem Try.cellsInt : Try.prog.cellsOf 3 = 1 := by kernel_rfl
theorem Try.cellsStr : Try.prog.cellsOf 9 = 1 := by kernel_rfl
end Go.Proofs.Ythbpidekfocioaa
namespace Go.Proofs.Ythbpidekfocioaa
open Go.ChangeShapes Go.WideShapes Go.ChangeAt Go.RowKit Go.Deep
theorem sized_in {H : Type} {P : Program} {ts : List TypeId} {ds : List (DataW H)} (h : (DataW.weightsEach P ts ds).all (· ≤ reachBytes) = true) {j : Nat} {t : TypeId} {d : DataW H} (ht : ts[j]? = some t) (hd : ds[j]? = some d) (n : Nat) (hn : n ∈ d.weights P t) : n ≤ 140737488351232 := by
  have := List.all_eq_true.1 h _ (DataW.weights_mem_each ht hd n hn)
  have h2 := of_decide_eq_true this
  simp only [reachBytes] at h2
  exact h2
theorem weightsAll_mem {H : Type} {P : Program} {e : TypeId} : ∀ {l : List (DataW H)} {d : DataW H}, d ∈ l → ∀ n ∈ d.weights P e, n ∈ DataW.weightsAll P e l
  | [], _, h, _, _ => by cases h
  | x :: l, d, h, n, hn => by
    simp only [DataW.weightsAll, List.mem_append]
    rcases List.mem_cons.1 h with rfl | h
    · exact .inl hn
    · exact .inr (weightsAll_mem h n hn)
end Go.Proofs.Ythbpidekfocioaa
namespace Go.Proofs.Ythbpidekfocioaa
open Go.ChangeShapes Go.WideShapes Go.ChangeAt Go.RowKit Go.Deep
theorem Try.cellsInv : Try.prog.cellsOf 29 = 7 := by kernel_rfl
theorem Try.cellsVar : Try.prog.cellsOf 31 = 5 := by kernel_rfl
set_option maxRecDepth 100000 in
theorem trod_inv {H : Type} {enc : TypeId × Value → H} {w : World} {base : Nat} {spare : Nat → Bool} {held : Bool} {fuel : Nat} {cs : List Value} {x : DataW H × List MemPlace}
    (h : DataW.trod enc Try.prog w base spare held fuel 29 cs = some x) :
    ∃ i : Trf, cs = ivc i ∧ i.rt.data.toList.length ∈ x.1.weights Try.prog 29 ∧ i.id.data.toList.length ∈ x.1.weights Try.prog 29 := by
  obtain ⟨xs, n, _, hx, hcl, hlen, hg⟩ := DataW.trod_struct Try.underlying29 h
  rw [Try.cellsInv] at hcl
  match cs, hcl with
  | [c0, c1, c2, c3, c4, c5, c6], _ =>
  match xs, hlen with
  | [y0, y1, y2, y3, y4, y5, y6], _ =>
  have h0 := hg 0 ⟨ "User", 3, 0, false, "", "", 0⟩ rfl
  have h1 := hg 1 ⟨ "Root", 9, 1, false, "", "", 8⟩ rfl
  have h2 := hg 2 ⟨ "Router", 3, 2, false, "", "", 24⟩ rfl
  have h3 := hg 3 ⟨ "Send", 3, 3, false, "", "", 32⟩ rfl
  have h4 := hg 4 ⟨ "Recv", 3, 4, false, "", "", 40⟩ rfl
  have h5 := hg 5 ⟨ "To", 3, 5, false, "", "", 48⟩ rfl
  have h6 := hg 6 ⟨ "Id", 9, 6, false, "", "", 56⟩ rfl
  dsimp only at h0 h1 h2 h3 h4 h5 h6
  rw [Try.cellsInt] at h0 h2 h3 h4 h5
  rw [Try.cellsStr] at h1 h6
  simp only [List.drop_succ_cons, List.drop_zero, List.take_succ_cons, List.take_zero, List.getElem?_cons_zero, List.getElem?_cons_succ] at h0 h1 h2 h3 h4 h5 h6
  obtain ⟨z0, e0, hx0, wf0⟩ := DataW.trod_int Try.underlying3 h0
  obtain ⟨s1, e1, hx1, _⟩ := DataW.trod_string Try.underlying9 h1
  obtain ⟨z2, e2, hx2, wf2⟩ := DataW.trod_int Try.underlying3 h2
  obtain ⟨z3, e3, hx3, wf3⟩ := DataW.trod_int Try.underlying3 h3
  obtain ⟨z4, e4, hx4, wf4⟩ := DataW.trod_int Try.underlying3 h4
  obtain ⟨z5, e5, hx5, wf5⟩ := DataW.trod_int Try.underlying3 h5
  obtain ⟨s6, e6, hx6, _⟩ := DataW.trod_string Try.underlying9 h6
  simp at e0 e1 e2 e3 e4 e5 e6
  subst e0 e1 e2 e3 e4 e5 e6
  refine ⟨⟨z0, s1, z2, z3, z4, z5, s6⟩, rfl, ?_, ?_⟩
  · rw [hx]
    have : y1.1 = .lit (.string s1.data.toList) := by rw [hx1]
    simp [DataW.weights, DataW.weightsEach, Try.underlying29, this]
  · rw [hx]
    have : y6.1 = .lit (.string s6.data.toList) := by rw [hx6]
    simp [DataW.weights, DataW.weightsEach, Try.underlying29, this]
set_option maxRecDepth 100000 in
theorem trod_var {H : Type} {enc : TypeId × Value → H} {w : World} {base : Nat} {spare : Nat → Bool} {held : Bool} {fuel : Nat} {cs : List Value} {x : DataW H × List MemPlace}
    (h : DataW.trod enc Try.prog w base spare held fuel 31 cs = some x) :
    ∃ v : Sid, cs = svc v ∧ Ok4 v.a0 v.a1 v.a2 v.a3 := by
  obtain ⟨xs, n, _, hx, hcl, hlen, hg⟩ := DataW.trod_struct Try.underlying31 h
  rw [Try.cellsVar] at hcl
  match cs, hcl with
  | [c0, c1, c2, c3, c4], _ =>
  match xs, hlen with
  | [y0, y1], _ =>
  have h0 := hg 0 ⟨ "Amount", 27, 0, false, "", "", 0⟩ rfl
  have h1 := hg 1 ⟨ "Expiry", 3, 4, false, "", "", 32⟩ rfl
  dsimp only at h0 h1
  rw [Try.cells24] at h0
  rw [Try.cellsInt] at h1
  simp only [List.drop_succ_cons, List.drop_zero, List.take_succ_cons, List.take_zero, List.getElem?_cons_zero, List.getElem?_cons_succ] at h0 h1
  obtain ⟨u0, u1, u2, u3, m, hx3, g0, g1, g2, g3⟩ := trod_array4 Try.underlying27 Try.cells22 h0
  obtain ⟨v0, k0, _, wg0⟩ := DataW.trod_int Try.underlying25 g0
  obtain ⟨v1, k1, _, wg1⟩ := DataW.trod_int Try.underlying25 g1
  obtain ⟨v2, k2, _, wg2⟩ := DataW.trod_int Try.underlying25 g2
  obtain ⟨v3, k3, _, wg3⟩ := DataW.trod_int Try.underlying25 g3
  obtain ⟨z1, e1, hx1, wf1⟩ := DataW.trod_int Try.underlying3 h1
  obtain ⟨a0, rfl, q0⟩ := wf_u64 wg0
  obtain ⟨a1, rfl, q1⟩ := wf_u64 wg1
  obtain ⟨a2, rfl, q2⟩ := wf_u64 wg2
  obtain ⟨a3, rfl, q3⟩ := wf_u64 wg3
  simp at e1 k0 k1 k2 k3
  subst e1 k0 k1 k2 k3
  exact ⟨⟨a0, a1, a2, a3, z1⟩, rfl, ⟨q0, q1, q2, q3⟩⟩
end Go.Proofs.Ythbpidekfocioaa
namespace Go.Proofs.Ythbpidekfocioaa
open Go.ChangeShapes Go.WideShapes Go.ChangeAt Go.RowKit Go.Deep
theorem Try.cellsTx : Try.prog.cellsOf 33 = 25 := by kernel_rfl
theorem trod_wide4 {H : Type} {enc : TypeId × Value → H} {w : World} {base : Nat} {spare : Nat → Bool} {held : Bool} {fuel : Nat} {c0 c1 c2 c3 : Value} {x : DataW H × List MemPlace}
    (h : DataW.trod enc Try.prog w base spare held fuel 27 [c0, c1, c2, c3] = some x) :
    ∃ a0 a1 a2 a3 : Nat, c0 = .int .u64 (a0 : Int) ∧ c1 = .int .u64 (a1 : Int) ∧ c2 = .int .u64 (a2 : Int) ∧ c3 = .int .u64 (a3 : Int) ∧ Ok4 a0 a1 a2 a3 := by
  obtain ⟨u0, u1, u2, u3, m, hx3, g0, g1, g2, g3⟩ := trod_array4 Try.underlying27 Try.cells22 h
  obtain ⟨v0, k0, _, wg0⟩ := DataW.trod_int Try.underlying25 g0
  obtain ⟨v1, k1, _, wg1⟩ := DataW.trod_int Try.underlying25 g1
  obtain ⟨v2, k2, _, wg2⟩ := DataW.trod_int Try.underlying25 g2
  obtain ⟨v3, k3, _, wg3⟩ := DataW.trod_int Try.underlying25 g3
  obtain ⟨a0, rfl, q0⟩ := wf_u64 wg0
  obtain ⟨a1, rfl, q1⟩ := wf_u64 wg1
  obtain ⟨a2, rfl, q2⟩ := wf_u64 wg2
  obtain ⟨a3, rfl, q3⟩ := wf_u64 wg3
  simp at k0 k1 k2 k3
  exact ⟨a0, a1, a2, a3, k0, k1, k2, k3, ⟨q0, q1, q2, q3⟩⟩
set_option maxRecDepth 100000 in
set_option maxHeartbeats 1000000 in
theorem trod_tx {H : Type} {enc : TypeId × Value → H} {w : World} {base : Nat} {spare : Nat → Bool} {held : Bool} {fuel : Nat} {cs : List Value} {x : DataW H × List MemPlace}
    (h : DataW.trod enc Try.prog w base spare held fuel 33 cs = some x) :
    ∃ t : Tr, cs = txc t ∧ OkT t := by
  obtain ⟨xs, n, _, hx, hcl, hlen, hg⟩ := DataW.trod_struct Try.underlying33 h
  rw [Try.cellsTx] at hcl
  match cs, hcl with
  | [c0, c1, c2, c3, c4, c5, c6, c7, c8, c9, c10, c11, c12, c13, c14, c15, c16, c17, c18, c19, c20, c21, c22, c23, c24], _ =>
  match xs, hlen with
  | [y0, y1, y2, y3, y4, y5, y6, y7, y8], _ =>
  have h0 := hg 0 ⟨ "From", 3, 0, false, "", "", 0⟩ rfl
  have h1 := hg 1 ⟨ "Nonce", 3, 1, false, "", "", 8⟩ rfl
  have h2 := hg 2 ⟨ "Kind", 3, 2, false, "", "", 16⟩ rfl
  have h3 := hg 3 ⟨ "Asset", 3, 3, false, "", "", 24⟩ rfl
  have h4 := hg 4 ⟨ "Amount", 27, 4, false, "", "", 32⟩ rfl
  have h5 := hg 5 ⟨ "Inv", 29, 8, false, "", "", 64⟩ rfl
  have h6 := hg 6 ⟨ "Var", 31, 15, false, "", "", 136⟩ rfl
  have h7 := hg 7 ⟨ "Fee", 27, 20, false, "", "", 176⟩ rfl
  have h8 := hg 8 ⟨ "Sig", 9, 24, false, "", "", 208⟩ rfl
  dsimp only at h0 h1 h2 h3 h4 h5 h6 h7 h8
  rw [Try.cellsInt] at h0 h1 h2 h3
  rw [Try.cells24] at h4 h7
  rw [Try.cellsInv] at h5
  rw [Try.cellsVar] at h6
  rw [Try.cellsStr] at h8
  simp only [List.drop_succ_cons, List.drop_zero, List.take_succ_cons, List.take_zero, List.getElem?_cons_zero, List.getElem?_cons_succ] at h0 h1 h2 h3 h4 h5 h6 h7 h8
  obtain ⟨z0, e0, _, _⟩ := DataW.trod_int Try.underlying3 h0
  obtain ⟨z1, e1, _, _⟩ := DataW.trod_int Try.underlying3 h1
  obtain ⟨z2, e2, _, _⟩ := DataW.trod_int Try.underlying3 h2
  obtain ⟨z3, e3, _, _⟩ := DataW.trod_int Try.underlying3 h3
  obtain ⟨a0, a1, a2, a3, f0, f1, f2, f3, hk⟩ := trod_wide4 h4
  obtain ⟨i, hi, _, _⟩ := trod_inv h5
  obtain ⟨v, hv, hk2⟩ := trod_var h6
  obtain ⟨b0, b1, b2, b3, g0, g1, g2, g3, hk3⟩ := trod_wide4 h7
  obtain ⟨s8, e8, _, _⟩ := DataW.trod_string Try.underlying9 h8
  simp at e0 e1 e2 e3 e8
  simp only [ivc, List.cons.injEq, and_true] at hi
  simp only [svc, List.cons.injEq, and_true] at hv
  obtain ⟨q0, q1, q2, q3, q4, q5, q6⟩ := hi
  obtain ⟨r0, r1, r2, r3, r4⟩ := hv
  subst e0 e1 e2 e3 f0 f1 f2 f3 q0 q1 q2 q3 q4 q5 q6 r0 r1 r2 r3 r4 g0 g1 g2 g3 e8
  exact ⟨⟨z0, z1, z2, z3, a0, a1, a2, a3, i, v, b0, b1, b2, b3, s8⟩, rfl, ⟨hk, hk2, hk3⟩⟩
end Go.Proofs.Ythbpidekfocioaa
namespace Go.Proofs.Ythbpidekfocioaa
open Go.ChangeShapes Go.WideShapes Go.ChangeAt Go.RowKit Go.Deep
theorem open_rsl {α : Type} {f : α → List Value} {n : Nat} {T E : TypeId} {P : α → Prop} (hn : ∀ x, (f x).length = n) (h0n : 0 < n) (hu : Try.prog.underlying T = some (.slice E)) (hc : Try.prog.cellsOf E = n)
    {H : Type} {enc : TypeId × Value → H} {W : World} {base : Nat} {spare : Nat → Bool} {held : Bool} {a : Option Addr} {len cap : Nat} {d : DataW H} {p : List MemPlace}
    (hopen : ∀ (fuel : Nat) (cs : List Value) (x : DataW H × List MemPlace), DataW.trod enc Try.prog W base spare held fuel E cs = some x → (∀ m ∈ x.1.weights Try.prog E, m ≤ 140737488351232) → ∃ y, P y ∧ cs = f y)
    (h : DataW.Trod enc Try.prog W base spare held T (.slice a len cap) d p) (hw : ∀ m ∈ d.weights Try.prog T, m ≤ 140737488351232) :
    ∃ l : List α, RSl f 0 W.heap.size W (.slice a len cap) l ∧ ∀ x ∈ l, P x := by
  obtain ⟨fuel, hf⟩ := h
  rcases open_slice hu hf with h0 | ⟨ad, l, c, m, q, D, Pl, hcs, hb, hl, hm, hmm, hx, hi⟩
  · obtain ⟨hcs, _⟩ := h0
    simp [Value.cells] at hcs
    obtain ⟨rfl, rfl, rfl⟩ := hcs
    exact ⟨[], RSl.nil _ _ _, fun x hx => by simp at hx⟩
  · simp [Value.cells] at hcs
    obtain ⟨rfl, rfl, rfl⟩ := hcs
    have hlm : len ≤ m := by rw [hmm]; split <;> omega
    have hd : d = .slice ((List.range len).map D) ((List.range (m - len)).map fun j => D (len + j)) := (Prod.mk.inj hx).1
    have hwe : ∀ i, i < len → ∀ k ∈ (D i).weights Try.prog E, k ≤ 140737488351232 := fun i hil k hk => by
      refine hw k ?_
      rw [hd]
      simp only [DataW.weights, hu, List.mem_cons, List.mem_append]
      exact .inr (.inl (weightsAll_mem (List.mem_map.2 ⟨i, List.mem_range.2 hil, rfl⟩) k hk))
    have key : ∀ i, i < len → ∃ y : α, P y ∧ ∀ j v, (f y)[j]? = some v → W.cell? (ad.add (i * n + j)) = some v := fun i hil => by
      obtain ⟨cs', hcc, ht⟩ := hi i (by omega)
      rw [hc] at hcc
      obtain ⟨y, hy, rfl⟩ := hopen _ _ _ ht (hwe i hil)
      obtain ⟨_, hcl, hat⟩ := World.cells?_some hcc
      refine ⟨y, hy, fun j v hv => ?_⟩
      have hj : j < n := by have := (List.getElem?_eq_some_iff.1 hv).1; rwa [hn] at this
      have := hat j hj
      rw [add_add] at this
      rw [this, hv]
    obtain ⟨l, hl', hp⟩ := list_of key
    subst hl'
    refine ⟨l, ?_, fun x hx => ?_⟩
    · refine ⟨some ad, cap, rfl, hl, hm, ?_⟩
      by_cases hl0 : l = []
      · exact .inl hl0
      · obtain ⟨y0, l', rfl⟩ := List.exists_cons_of_ne_nil hl0
        obtain ⟨v0, hv0⟩ : ∃ v0, (f y0)[0]? = some v0 := ⟨_, List.getElem?_eq_getElem (by rw [hn]; exact h0n)⟩
        have h0 := (hp 0 y0 rfl).2 0 _ hv0
        obtain ⟨b, off, sp⟩ := ad
        have hsp : sp = none := by
          cases sp with
          | none => rfl
          | some _ => simp [Addr.add, World.cell?] at h0; split at h0 <;> simp at h0
        subst hsp
        rw [Nat.zero_mul, Nat.zero_add, add_plain] at h0
        refine .inr ⟨b, off, rfl, Nat.zero_le _, World.block_lt_of_cell? W _ h0, fun k v hk => ?_⟩
        have hkl : k < (y0 :: l').length * n := by have := (List.getElem?_eq_some_iff.1 hk).1; rwa [flat_len hn] at this
        have hq : k / n < (y0 :: l').length := Nat.div_lt_of_lt_mul (by rw [Nat.mul_comm]; exact hkl)
        have hy := List.getElem?_eq_getElem hq
        have hmod : k % n < n := Nat.mod_lt _ h0n
        have hcell := flat_cell hn hy hmod
        rw [show k / n * n + k % n = k by rw [Nat.mul_comm]; exact Nat.div_add_mod k n, hk] at hcell
        have := (hp (k / n) _ hy).2 (k % n) v hcell.symm
        rw [add_plain, show k / n * n + k % n = k by rw [Nat.mul_comm]; exact Nat.div_add_mod k n] at this
        exact this
    · obtain ⟨i, hi'⟩ := List.mem_iff_getElem?.1 hx
      exact (hp i x hi').1
theorem open_rslU {α : Type} {f : α → List Value} {n : Nat} {T E : TypeId} {P : α → Prop} (hn : ∀ x, (f x).length = n) (h0n : 0 < n) (hu : Try.prog.underlying T = some (.slice E)) (hc : Try.prog.cellsOf E = n)
    {H : Type} {enc : TypeId × Value → H} {W : World} {base : Nat} {spare : Nat → Bool} {held : Bool} {a : Option Addr} {len cap : Nat} {d : DataW H} {p : List MemPlace}
    (hopen : ∀ (fuel : Nat) (cs : List Value) (x : DataW H × List MemPlace), DataW.trod enc Try.prog W base spare held fuel E cs = some x → ∃ y, P y ∧ cs = f y)
    (h : DataW.Trod enc Try.prog W base spare held T (.slice a len cap) d p):
    ∃ l : List α, RSl f 0 W.heap.size W (.slice a len cap) l ∧ (∀ x ∈ l, P x) ∧ ∃ el sp, (d = .nil ∧ el = [] ∨ d = .slice el sp) ∧ l.length ≤ el.length := by
  obtain ⟨fuel, hf⟩ := h
  rcases open_slice hu hf with h0 | ⟨ad, l, c, m, q, D, Pl, hcs, hb, hl, hm, hmm, hx, hi⟩
  · obtain ⟨hcs, _⟩ := h0
    simp [Value.cells] at hcs
    obtain ⟨rfl, rfl, rfl⟩ := hcs
    exact ⟨[], RSl.nil _ _ _, (fun x hx => by simp at hx), [], [], .inl ⟨(Prod.mk.inj ‹_›).1, rfl⟩, Nat.le_refl _⟩
  · simp [Value.cells] at hcs
    obtain ⟨rfl, rfl, rfl⟩ := hcs
    have hlm : len ≤ m := by rw [hmm]; split <;> omega
    have hd : d = .slice ((List.range len).map D) ((List.range (m - len)).map fun j => D (len + j)) := (Prod.mk.inj hx).1
    have key : ∀ i, i < len → ∃ y : α, P y ∧ ∀ j v, (f y)[j]? = some v → W.cell? (ad.add (i * n + j)) = some v := fun i hil => by
      obtain ⟨cs', hcc, ht⟩ := hi i (by omega)
      rw [hc] at hcc
      obtain ⟨y, hy, rfl⟩ := hopen _ _ _ ht
      obtain ⟨_, hcl, hat⟩ := World.cells?_some hcc
      refine ⟨y, hy, fun j v hv => ?_⟩
      have hj : j < n := by have := (List.getElem?_eq_some_iff.1 hv).1; rwa [hn] at this
      have := hat j hj
      rw [add_add] at this
      rw [this, hv]
    obtain ⟨l, hl', hp⟩ := list_of key
    subst hl'
    refine ⟨l, ?_, fun x hx => ?_, _, _, .inr hd, by simp⟩
    · refine ⟨some ad, cap, rfl, hl, hm, ?_⟩
      by_cases hl0 : l = []
      · exact .inl hl0
      · obtain ⟨y0, l', rfl⟩ := List.exists_cons_of_ne_nil hl0
        obtain ⟨v0, hv0⟩ : ∃ v0, (f y0)[0]? = some v0 := ⟨_, List.getElem?_eq_getElem (by rw [hn]; exact h0n)⟩
        have h0 := (hp 0 y0 rfl).2 0 _ hv0
        obtain ⟨b, off, sp⟩ := ad
        have hsp : sp = none := by
          cases sp with
          | none => rfl
          | some _ => simp [Addr.add, World.cell?] at h0; split at h0 <;> simp at h0
        subst hsp
        rw [Nat.zero_mul, Nat.zero_add, add_plain] at h0
        refine .inr ⟨b, off, rfl, Nat.zero_le _, World.block_lt_of_cell? W _ h0, fun k v hk => ?_⟩
        have hkl : k < (y0 :: l').length * n := by have := (List.getElem?_eq_some_iff.1 hk).1; rwa [flat_len hn] at this
        have hq : k / n < (y0 :: l').length := Nat.div_lt_of_lt_mul (by rw [Nat.mul_comm]; exact hkl)
        have hy := List.getElem?_eq_getElem hq
        have hmod : k % n < n := Nat.mod_lt _ h0n
        have hcell := flat_cell hn hy hmod
        rw [show k / n * n + k % n = k by rw [Nat.mul_comm]; exact Nat.div_add_mod k n, hk] at hcell
        have := (hp (k / n) _ hy).2 (k % n) v hcell.symm
        rw [add_plain, show k / n * n + k % n = k by rw [Nat.mul_comm]; exact Nat.div_add_mod k n] at this
        exact this
    · obtain ⟨i, hi'⟩ := List.mem_iff_getElem?.1 hx
      exact (hp i x hi').1
set_option maxRecDepth 100000 in
theorem open_cells {α : Type} {f : α → List Value} {n : Nat} {T E : TypeId} {P : α → Prop} (hn : ∀ x, (f x).length = n) (h0n : 0 < n) (hu : Try.prog.underlying T = some (.slice E)) (hc : Try.prog.cellsOf E = n)
    {H : Type} {enc : TypeId × Value → H} {W : World} {base : Nat} {spare : Nat → Bool} {held : Bool} {fuel : Nat} {cs : List Value} {x : DataW H × List MemPlace}
    (hopen : ∀ (fuel : Nat) (cs : List Value) (x : DataW H × List MemPlace), DataW.trod enc Try.prog W base spare held fuel E cs = some x → (∀ m ∈ x.1.weights Try.prog E, m ≤ 140737488351232) → ∃ y, P y ∧ cs = f y)
    (h : DataW.trod enc Try.prog W base spare held fuel T cs = some x) (hw : ∀ m ∈ x.1.weights Try.prog T, m ≤ 140737488351232) :
    ∃ (sv : Value) (l : List α), cs = [sv] ∧ RSl f 0 W.heap.size W sv l ∧ (∀ x ∈ l, P x) ∧ l.length * Try.prog.bytesOf E ≤ 140737488351232 := by
  rcases open_slice hu h with ⟨rfl, rfl⟩ | ⟨ad, len, c, m, q, D, Pl, rfl, _, _, _, hmm, hx, _⟩
  · exact ⟨_, [], rfl, RSl.nil _ _ _, fun x hx => by simp at hx, by simp⟩
  · obtain ⟨l, hl, hp⟩ := open_rsl (d := x.1) (p := x.2) hn h0n hu hc hopen ⟨fuel, h⟩ hw
    have hlen : len = l.length := by
      have := hl.slice
      obtain ⟨a', c', e'⟩ := this
      cases e'
      rfl
    refine ⟨_, l, rfl, hl, hp, ?_⟩
    have := hw ((len + (m - len)) * Try.prog.bytesOf E) (by
      rw [hx]
      simp [DataW.weights, hu])
    rw [← hlen]
    exact Nat.le_trans (Nat.mul_le_mul_right _ (Nat.le_add_right _ _)) this
end Go.Proofs.Ythbpidekfocioaa
namespace Go.Proofs.Ythbpidekfocioaa
open Go.ChangeShapes Go.WideShapes Go.ChangeAt Go.RowKit Go.Deep
theorem cellsEv : Try.prog.cellsOf 36 = 27 := by kernel_rfl
theorem bytesEv : Try.prog.bytesOf 36 = 240 := by kernel_rfl
theorem cellsErrno : Try.prog.cellsOf 34 = 1 := by kernel_rfl
set_option maxRecDepth 100000 in
theorem trod_ev {H : Type} {enc : TypeId × Value → H} {w : World} {base : Nat} {spare : Nat → Bool} {held : Bool} {fuel : Nat} {cs : List Value} {x : DataW H × List MemPlace}
    (h : DataW.trod enc Try.prog w base spare held fuel 36 cs = some x) :
    ∃ y : Ev, cs = evc y ∧ OkT y.tx := by
  obtain ⟨xs, n, _, hx, hcl, hlen, hg⟩ := DataW.trod_struct Try.underlying36 h
  rw [cellsEv] at hcl
  obtain ⟨c0, c1, r, rfl, hr⟩ : ∃ c0 c1 r, cs = c0 :: c1 :: r ∧ r.length = 25 := by
    match cs, hcl with
    | c0 :: c1 :: r, hcl => exact ⟨c0, c1, r, rfl, by simpa using hcl⟩
  match xs, hlen with
  | [y0, y1, y2], _ =>
  have h0 := hg 0 ⟨ "Time", 3, 0, false, "", "", 0⟩ rfl
  have h1 := hg 1 ⟨ "Code", 34, 1, false, "", "", 8⟩ rfl
  have h2 := hg 2 ⟨ "Tx", 33, 2, false, "", "", 16⟩ rfl
  dsimp only at h0 h1 h2
  rw [Try.cellsInt] at h0
  rw [cellsErrno] at h1
  rw [Try.cellsTx] at h2
  simp only [List.drop_succ_cons, List.drop_zero, List.take_succ_cons, List.take_zero, List.getElem?_cons_zero, List.getElem?_cons_succ] at h0 h1 h2
  rw [List.take_of_length_le (by omega)] at h2
  obtain ⟨z0, e0, _, _⟩ := DataW.trod_int Try.underlying3 h0
  obtain ⟨z1, e1, _, _⟩ := DataW.trod_int Try.underlying34 h1
  obtain ⟨t, ht, hk⟩ := trod_tx h2
  simp at e0 e1
  subst e0 e1 ht
  exact ⟨⟨z0, z1, t⟩, rfl, hk⟩
set_option maxRecDepth 100000 in
theorem open_evn {H : Type} {enc : TypeId × Value → H} {W : World} {base : Nat} {spare : Nat → Bool} {held : Bool} {a : Option Addr} {len cap : Nat} {d : DataW H} {p : List MemPlace}
    (h : DataW.Trod enc Try.prog W base spare held 22 (.slice a len cap) d p) (hw : ∀ m ∈ d.weights Try.prog 22, m ≤ 140737488351232) :
    ∃ l : List Ev, RSl evc 0 W.heap.size W (.slice a len cap) l ∧ (∀ x ∈ l, OkT x.tx) ∧ l.length * 240 ≤ 140737488351232 := by
  obtain ⟨fuel, hf⟩ := h
  obtain ⟨sv, l, e, hr, ho, hl⟩ := open_cells (f := evc) (n := 27) (P := fun x : Ev => OkT x.tx) evc_len (by omega) Try.underlying22 cellsEv (fun _ _ _ hq _ => by obtain ⟨t, e, hk⟩ := trod_ev hq; exact ⟨t, hk, e⟩) hf hw
  rw [bytesEv] at hl
  have e2 : sv = .slice a len cap := by simpa [Value.cells] using e.symm
  subst e2
  exact ⟨l, hr, ho, hl⟩
theorem bulk_all {H : Type} {ds : List (DataW H)} (hk : Rows.uptoSmall H ds = true) : Rows.uptoBulkAll ds ≤ 1048576 := of_decide_eq_true hk
theorem bulk_pos {H : Type} (d : DataW H) : 0 < Rows.uptoBulk d := by
  cases d with
  | lit l => cases l <;> simp [Rows.uptoBulk]
  | _ => simp [Rows.uptoBulk]
theorem bulk_len {H : Type} : ∀ l : List (DataW H), l.length ≤ Rows.uptoBulkAll l
  | [] => Nat.zero_le _
  | d :: l => by have h1 := bulk_pos d; have h2 := bulk_len l; simp only [Rows.uptoBulkAll, List.length_cons]; omega
set_option maxRecDepth 100000 in
theorem open_evu {H : Type} {enc : TypeId × Value → H} {W : World} {base : Nat} {spare : Nat → Bool} {held : Bool} {a : Option Addr} {len cap : Nat} {d : DataW H} {p : List MemPlace}
    (h : DataW.Trod enc Try.prog W base spare held 22 (.slice a len cap) d p) :
    ∃ l : List Ev, RSl evc 0 W.heap.size W (.slice a len cap) l ∧ (∀ x ∈ l, OkT x.tx) ∧ l.length ≤ Rows.uptoBulk d := by
  obtain ⟨l, hr, ho, el, sp, hd, hl⟩ := open_rslU (f := evc) (n := 27) (P := fun x : Ev => OkT x.tx) evc_len (by omega) Try.underlying22 cellsEv (fun _ _ _ hq => by obtain ⟨t, e, hk⟩ := trod_ev hq; exact ⟨t, hk, e⟩) h
  refine ⟨l, hr, ho, Nat.le_trans hl ?_⟩
  have := bulk_len el
  rcases hd with ⟨rfl, rfl⟩ | rfl
  · exact Nat.zero_le _
  · simp only [Rows.uptoBulk]; omega
end Go.Proofs.Ythbpidekfocioaa
