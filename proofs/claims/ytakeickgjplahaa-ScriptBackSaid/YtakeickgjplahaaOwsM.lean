/-
  Octets of the call's own, many: rows of single octets, parts of them.
-/
import Derived.Test.YtakeickgjplahaaSlcR
import Derived.Test.YtakeickgjplahaaCopyF
import Derived.Test.YtakeickgjplahaaRowCut
namespace Go.Proofs.Ytakeickgjplahaa
open Go.RowKit Go.Shelf

/-- Octets of the call's own. -/
def ocM (x : UInt8) : List Value := [bv x]
theorem ocM_len (x : UInt8) : (ocM x).length = 1 := rfl
theorem ocM_one (x : UInt8) : ∀ u ∈ ocM x, u.oneCell' = true := fun u hu => by obtain rfl := List.mem_singleton.1 hu; rfl
theorem flat_oc (l : List UInt8) : flatR ocM l = l.map bv := by
  induction l with
  | nil => rfl
  | cons x l ih => exact congrArg (bv x :: ·) ih
theorem ROk.own_bsl {W : World} {v : Value} {l : List UInt8} (h : ROk (.own ocM 5 1 v l) W) : BSl 0 W.heap.size W v l := by
  have h1 := h.h
  simp only [Res.own] at h1
  rw [flat_oc] at h1
  obtain ⟨a, c, e, hc, h0⟩ := BSl.of_own h1
  refine ⟨a, c, e, hc, h0.imp id fun ⟨b, off, ha, hl, hh, hx⟩ => ⟨b, off, ha, hl, ?_, hx⟩⟩
  subst e ha
  exact hh
/-- The octets of some, each of the call's own. -/
def Res.ows (zs : List Zs) : Res where
  foot := zs.flatMap fun z => (Res.own ocM 5 1 z.v z.l).foot
  holds := fun W => ∀ z ∈ zs, (Res.own ocM 5 1 z.v z.l).holds W
  stab := fun h hl z hz => (Res.own ocM 5 1 z.v z.l).stab (fun k hk => h k (List.mem_flatMap.2 ⟨z, hz, hk⟩)) (hl z hz)
theorem ROk.holdW {W : World} {zs : List Zs} (h : ROk (.ows zs) W) : Holds W.heap.size W zs := fun z hz =>
  ROk.own_bsl ⟨h.h z hz, fun k hk => h.lt k (List.mem_flatMap.2 ⟨z, hz, hk⟩)⟩
theorem Sep.ows0 {w W : World} {F : List Nat} {l : List Res} (h : Sep w F l W) : Sep w F (.ows [] :: l) W :=
  h.add (Below.refl _ W) ⟨fun _ hz => (List.not_mem_nil hz).elim, fun _ hk => (List.not_mem_nil hk).elim⟩ (fun _ hk => (List.not_mem_nil hk).elim)
theorem Sep.ows1 {w W : World} {F : List Nat} {l : List Res} {zs : List Zs} {v : Value} {x : List UInt8} (z : Zs) (hv : v = z.v) (hx : x = z.l) (h : Sep w F (.own ocM 5 1 v x :: .ows zs :: l) W) : Sep w F (.ows (zs ++ [z]) :: l) W := by
  subst hv hx
  have h1 : Sep w F (.join [.own ocM 5 1 z.v z.l, .ows zs] :: l) W := h.close (ps := [.own ocM 5 1 z.v z.l, .ows zs])
  refine h1.conv (fun hh y hy => ?_) (fun k hk => ?_)
  · rcases List.mem_append.1 hy with hy | hy
    · exact hh.1 (.ows zs) (by simp) y hy
    · obtain rfl := List.mem_singleton.1 hy
      exact hh.1 _ (List.mem_cons_self ..)
  · obtain ⟨y, hy, hq⟩ := List.mem_flatMap.1 hk
    clear hk
    rcases List.mem_append.1 hy with hy | hy
    · exact join_mem (r := .ows zs) (by simp) (List.mem_flatMap.2 ⟨y, hy, hq⟩)
    · obtain rfl := List.mem_singleton.1 hy
      exact join_mem (List.mem_cons_self ..) hq
/-- One's alone. -/
theorem Sep.ows_one {w W : World} {F : List Nat} {l : List Res} {z : Zs} (h : Sep w F (.ows [z] :: l) W) : Sep w F (.own ocM 5 1 z.v z.l :: l) W :=
  h.conv (fun hh => hh z (List.mem_singleton.2 rfl)) (fun _ hk => List.mem_flatMap.2 ⟨z, List.mem_singleton.2 rfl, hk⟩)
theorem RSl.clip {α : Type} {f : α → List Value} {lo hi : Nat} {W : World} {a : Option Addr} {c : Nat} {l : List α} (h : RSl f lo hi W (.slice a l.length c) l) : RSl f lo hi W (.slice a l.length l.length) l := by
  obtain ⟨a', cap, e, hc, hm, h0⟩ := h
  cases e
  exact ⟨a, l.length, rfl, Nat.le_refl _, Nat.le_trans hc hm, h0⟩
def BZ (zs : List Zs) : Prop := ∀ z ∈ zs, z.l.length ≤ 140737488351232
/-- A place, counted round. -/
def plcN (z : Int) (n : Nat) : Nat := (Int.tmod (Int.tmod z n + n) n).toNat
theorem plc_eq (z : Int) {n : Nat} (h : 0 < n) : Int.tmod (Int.tmod z n + n) n = ((plcN z n : Nat) : Int) := by
  have hn : (0 : Int) < n := by omega
  have h2 := Int.lt_tmod_of_pos z hn
  exact (Int.toNat_of_nonneg (Int.tmod_nonneg (a := Int.tmod z n + n) n (by omega))).symm
theorem plc_lt (z : Int) {n : Nat} (h : 0 < n) : plcN z n < n := by
  have h1 := plc_eq z h
  have h2 := Int.tmod_lt_of_pos (Int.tmod z n + n) (show (0 : Int) < n by omega)
  omega
theorem plc_sum (z : Int) {n : Nat} (h : 0 < n) (h1 : n ≤ 1048576) : IntKind.i64.wrap (Int.tmod z n + n) = Int.tmod z n + n := by
  have hn : (0 : Int) < n := by omega
  have h2 := Int.lt_tmod_of_pos z hn
  have h3 := Int.tmod_lt_of_pos z hn
  exact IntWalk.i64_in _ (by omega)
theorem res_three {fn : Func} {p q r : Tmp} {ty : TypeId} (h : fn.results = #[.cell p ty, .tmp q, .tmp r]) (tmps : Array Value) {w : World} {g : Nat} {c a b : Value} (hp : tmps.getD p undef = .pointer (some ⟨g, 0, none⟩)) (hq : tmps.getD q undef = a) (hr : tmps.getD r undef = b) (hl : (loadVar ty ⟨g, 0, none⟩).run Try.prog w = .ok c w) :
    (results fn tmps).run Try.prog w = .ok (.tuple #[c, a, b]) w := by
  have hp' : tmps[p]?.getD undef = .pointer (some ⟨g, 0, none⟩) := by simpa using hp
  have hq' : tmps[q]?.getD undef = a := by simpa using hq
  have hr' : tmps[r]?.getD undef = b := by simpa using hr
  simp [results, h, hp', hq', hr', asAddr, hl]
section
variable {w W W' : World} {F : List Nat} {l : List Res}
theorem Sep.gain2 {r s : Res} (h : Sep w F l W) (h' : Sep W [] [r, s] W') : Sep w F (r :: s :: l) W' := Sep.part (ps := [r, s]) (h.gain (Sep.close (ps := [r, s]) (l := []) h'))
theorem Sep.gain3 {r s t : Res} (h : Sep w F l W) (h' : Sep W [] [r, s, t] W') : Sep w F (r :: s :: t :: l) W' := Sep.part (ps := [r, s, t]) (h.gain (Sep.close (ps := [r, s, t]) (l := []) h'))
end
theorem own_appB {v x : Value} {l ys : List UInt8} {W : World} (h : ROk (.own ocM 5 1 v l) W) {lo hi : Nat} (hx : BSl lo hi W x ys) (hr : l.length + ys.length ≤ 140737488355328) (ty : TypeId) :
    ∃ v' W', (Builtin.append_ #[23, 23] ty #[v, x]).run Try.prog W = .ok v' W' ∧ RTurn (.own ocM 5 1 v l) (.own ocM 5 1 v' (l ++ ys)) W W' := by
  obtain ⟨a, c, rfl, hc, h0⟩ := hx
  cases a with
  | some a =>
    refine own_apps infoOct1 rfl (by decide) Try.underlying23 ocM_len ocM_one h ys a c (fun j u hj => ?_) (by decide) (by omega) ty
    rcases h0 with rfl | ⟨b, off, ha, _, _, ho⟩
    · cases hj
    · cases ha
      rw [flat_oc, List.getElem?_map] at hj
      obtain ⟨y, hy, rfl⟩ := Option.map_eq_some_iff.1 hj
      rw [addr_add']
      exact ho j y hy
  | none =>
    have hy : ys = [] := by
      rcases h0 with h0 | ⟨b, off, ha, _⟩
      · exact h0
      · cases ha
    subst hy
    obtain ⟨i0, hi, hz0, hz1, hz2⟩ := info_parts infoOct1
    refine ⟨v, W, ?_, by rw [List.append_nil]; exact turn_refl h⟩
    have hu := Try.underlying23
    rcases h.h.2 with ⟨rfl, hl0⟩ | ⟨g, cap, cur, rfl, _, hg, hnc, hcm, hcs, _⟩
    · simp [Builtin.append_, run_underlying hu, sizeOf, typeInfo, hi, Builtin.lenOf, Builtin.firstCells]
    · simp [Builtin.append_, run_underlying hu, sizeOf, typeInfo, hi, Builtin.lenOf, Builtin.firstCells, loadCells, hnc, storeCells]
-- HERE
end Go.Proofs.Ytakeickgjplahaa
