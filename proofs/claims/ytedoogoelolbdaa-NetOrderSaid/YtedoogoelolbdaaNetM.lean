/-
  Mail as a plain thing: rows of mail, what of them is looked for.
-/
import Derived.Test.YtedoogoelolbdaaSlcR
import Derived.Test.YtedoogoelolbdaaCopyF
import Derived.Test.YtedoogoelolbdaaRowCut
namespace Go.Proofs.Ytedoogoelolbdaa
open Go.RowKit Go.Shelf

/-- One's mail: for whom, and where its octets lie. -/
structure Ml where
  fo : Int
  a : Option Addr
  c : Nat
  l : List UInt8
def noMl : Ml := ⟨0, none, 0, []⟩
def mlc (m : Ml) : List Value := [.int .i64 m.fo, .slice m.a m.l.length m.c]
abbrev mlv (m : Ml) : Value := .agg (mlc m).toArray
def Ml.z (m : Ml) : Zs := ⟨m.a, m.c, m.l⟩
def zsM (ls : List Ml) : List Zs := ls.map Ml.z
def plM (m : Ml) : Int × List UInt8 := (m.fo, m.l)
def mkM (tz : Int) (z : Zs) : Ml := ⟨tz, z.a, z.c, z.l⟩
theorem mlc_len (x : Ml) : (mlc x).length = 2 := rfl
theorem mlc_one (x : Ml) : ∀ u ∈ mlc x, u.oneCell' = true := by simp [mlc, Value.oneCell']
theorem infoMl : (Try.prog.info? 27).map (fun i => (i.zero, i.size, i.bytes)) = some (some (.agg (mlc noMl).toArray), 2, 32) := by kernel_rfl
theorem zsM_app (a b : List Ml) : zsM (a ++ b) = zsM a ++ zsM b := List.map_append
theorem zsM_get {ls : List Ml} {k : Nat} {x : Ml} (h : ls[k]? = some x) : (zsM ls)[k]? = some x.z := by
  unfold zsM
  rw [List.getElem?_map, h]
  rfl
theorem Holds.ml {n k : Nat} {W : World} {ls : List Ml} {x : Ml} (h : Holds n W (zsM ls)) (hx : ls[k]? = some x) : BSl 0 n W (.slice x.a x.l.length x.c) x.l := h.get (zsM_get hx)
/-- Octets of no more than reach. -/
def BP (q : List (Int × List UInt8)) : Prop := ∀ x ∈ q, x.2.length ≤ 140737488351232
theorem BP.ml {ls : List Ml} {k : Nat} {x : Ml} (h : BP (ls.map plM)) (hx : ls[k]? = some x) : x.l.length ≤ 140737488351232 := h (plM x) (List.mem_map_of_mem (List.mem_of_getElem? hx))
theorem BP.nil : BP [] := fun _ h => (List.not_mem_nil h).elim
theorem BP.app {a b : List (Int × List UInt8)} (h : BP a) (h' : BP b) : BP (a ++ b) := fun x hx => (List.mem_append.1 hx).elim (h x) (h' x)
theorem BP.one {x : Int × List UInt8} (h : x.2.length ≤ 140737488351232) : BP [x] := fun y hy => by obtain rfl := List.mem_singleton.1 hy; exact h
theorem BP.of {a b : List (Int × List UInt8)} (h : BP b) (hs : ∀ x ∈ a, x ∈ b) : BP a := fun x hx => h x (hs x hx)

/-- Those that are looked for, by place and by what they are. -/
def selG {α : Type} (p : Nat → α → Bool) : Nat → List α → List α
  | _, [] => []
  | k, x :: l => if p k x = true then x :: selG p (k + 1) l else selG p (k + 1) l
section
variable {α : Type} {p : Nat → α → Bool}
theorem sel_snoc (l : List α) (x : α) (k : Nat) : selG p k (l ++ [x]) = selG p k l ++ (if p (k + l.length) x = true then [x] else []) := by
  induction l generalizing k with
  | nil => simp [selG]
  | cons y l ih =>
    simp only [List.cons_append, selG, ih, List.length_cons, Nat.add_assoc, Nat.add_comm 1 l.length]
    split <;> rfl
theorem sel_len (l : List α) (k : Nat) : (selG p k l).length ≤ l.length := by
  induction l generalizing k with
  | nil => simp [selG]
  | cons y l ih =>
    simp only [selG]
    have := ih (k + 1)
    split <;> simp <;> omega
theorem sel_mem (l : List α) (k : Nat) {x : α} (h : x ∈ selG p k l) : x ∈ l := by
  induction l generalizing k with
  | nil => exact h
  | cons y l ih =>
    simp only [selG] at h
    split at h
    · rcases List.mem_cons.1 h with rfl | h
      · exact List.mem_cons_self ..
      · exact List.mem_cons_of_mem _ (ih _ h)
    · exact List.mem_cons_of_mem _ (ih _ h)
theorem sel_upto (l : List α) (k n : Nat) (h : k ≤ n) : selG (fun j _ => decide ((j : Int) < (n : Int))) k l = l.take (n - k) := by
  induction l generalizing k with
  | nil => simp [selG]
  | cons y l ih =>
    simp only [selG]
    by_cases hk : k < n
    · rw [if_pos (decide_eq_true (by omega)), ih (k + 1) (by omega), show n - k = (n - (k + 1)) + 1 by omega, List.take_succ_cons]
    · rw [if_neg (fun e => hk (by have := of_decide_eq_true e; omega)), show n - k = 0 by omega, List.take_zero]
      have h2 : n - k = 0 := by omega
      have : ∀ (l : List α) (q : Nat), n ≤ q → selG (fun j _ => decide ((j : Int) < (n : Int))) q l = [] := fun l => by
        induction l with
        | nil => intros; rfl
        | cons z l ih2 =>
          intro q hq
          simp only [selG]
          rw [if_neg (fun e => by have := of_decide_eq_true e; omega)]
          exact ih2 (q + 1) (by omega)
      exact this l (k + 1) (by omega)
theorem sel_none (l : List α) (k n : Nat) (h : n < k) : selG (fun j _ => ((j : Int) == (n : Int))) k l = [] := by
  induction l generalizing k with
  | nil => rfl
  | cons y l ih =>
    simp only [selG]
    rw [if_neg (fun e => by have := eq_of_beq e; omega)]
    exact ih (k + 1) (by omega)
theorem sel_at {l : List α} {k n : Nat} {x : α} (h : l[n]? = some x) : selG (fun j _ => ((j : Int) == ((k + n : Nat) : Int))) k l = [x] := by
  induction l generalizing k n with
  | nil => cases h
  | cons y l ih =>
    simp only [selG]
    cases n with
    | zero =>
      rw [if_pos (show ((k : Int) == ((k + 0 : Nat) : Int)) = true from beq_iff_eq.2 rfl)]
      have e := Option.some.inj h
      subst e
      exact congrArg (y :: ·) (sel_none l (k + 1) (k + 0) (by omega))
    | succ n =>
      rw [if_neg (fun e => by have := eq_of_beq e; omega)]
      have := ih (k := k + 1) (n := n) h
      rwa [show k + 1 + n = k + (n + 1) by omega] at this
theorem sel_all (l : List α) (k n : Nat) (h : n < k) : selG (fun j _ => ((j : Int) != (n : Int))) k l = l := by
  induction l generalizing k with
  | nil => rfl
  | cons y l ih =>
    simp only [selG]
    rw [if_pos (bne_iff_ne.2 (by omega)), ih (k + 1) (by omega)]
theorem sel_but (l : List α) (k n : Nat) : selG (fun j _ => ((j : Int) != ((k + n : Nat) : Int))) k l = l.take n ++ l.drop (n + 1) := by
  induction l generalizing k n with
  | nil => simp [selG]
  | cons y l ih =>
    simp only [selG]
    cases n with
    | zero =>
      rw [if_neg (show ¬ ((k : Int) != ((k + 0 : Nat) : Int)) = true from fun e => bne_iff_ne.1 e rfl)]
      exact sel_all l (k + 1) (k + 0) (by omega)
    | succ n =>
      rw [if_pos (bne_iff_ne.2 (by omega))]
      have := ih (k + 1) n
      rw [show k + 1 + n = k + (n + 1) by omega] at this
      rw [this]
      rfl
theorem sel_filter (l : List α) (k : Nat) (q : α → Bool) : selG (fun _ m => q m) k l = l.filter q := by
  induction l generalizing k with
  | nil => rfl
  | cons y l ih =>
    simp only [selG, ih, List.filter_cons]
end
theorem sel_step {p : Nat → Int × List UInt8 → Bool} {ls : List Ml} {j : Nat} {x : Ml} (h : ls[j]? = some x) : selG p 0 ((ls.take (j + 1)).map plM) = selG p 0 ((ls.take j).map plM) ++ (if p j (plM x) = true then [plM x] else []) := by
  have hj : j < ls.length := (List.getElem?_eq_some_iff.1 h).1
  rw [List.take_add_one, h, Option.toList_some, List.map_append, List.map_singleton, sel_snoc, List.length_map, List.length_take, Nat.min_eq_left (by omega), Nat.zero_add]
theorem sel_yes {p : Nat → Int × List UInt8 → Bool} {ls ms : List Ml} {j : Nat} {x y : Ml} (h : ls[j]? = some x) (he : ms.map plM = selG p 0 ((ls.take j).map plM)) (hp : p j (plM x) = true) (hy : plM y = plM x) : (ms ++ [y]).map plM = selG p 0 ((ls.take (j + 1)).map plM) := by
  rw [sel_step h, if_pos hp, List.map_append, he, List.map_singleton, hy]
theorem sel_no {p : Nat → Int × List UInt8 → Bool} {ls ms : List Ml} {j : Nat} {x : Ml} (h : ls[j]? = some x) (he : ms.map plM = selG p 0 ((ls.take j).map plM)) (hp : p j (plM x) = false) : ms.map plM = selG p 0 ((ls.take (j + 1)).map plM) := by
  rw [sel_step h, if_neg (by rw [hp]; decide), List.append_nil, he]
theorem sel_few {p : Nat → Int × List UInt8 → Bool} {ls ms : List Ml} {j : Nat} (he : ms.map plM = selG p 0 ((ls.take j).map plM)) : ms.length ≤ j := by
  have h := sel_len (p := p) ((ls.take j).map plM) 0
  rw [← he, List.length_map, List.length_map, List.length_take] at h
  omega

/-- Octets of the call's own. -/
def ocM (x : UInt8) : List Value := [bv x]
theorem ocM_len (x : UInt8) : (ocM x).length = 1 := rfl
theorem ocM_one (x : UInt8) : ∀ u ∈ ocM x, u.oneCell' = true := fun u hu => by obtain rfl := List.mem_singleton.1 hu; rfl
theorem flat_oc (l : List UInt8) : flatR ocM l = l.map bv := by
  induction l with
  | nil => rfl
  | cons x l ih => exact congrArg (bv x :: ·) ih
theorem ROk.own_bsl {W : World} {v : Value} {l : List UInt8} (h : ROk (.own ocM 5 1 v l) W) : BSl 0 W.heap.size W v l := by
  have h1 := h.h
  simp only [Res.own] at h1
  rw [flat_oc] at h1
  obtain ⟨a, c, e, hc, h0⟩ := BSl.of_own h1
  refine ⟨a, c, e, hc, h0.imp id fun ⟨b, off, ha, hl, hh, hx⟩ => ⟨b, off, ha, hl, ?_, hx⟩⟩
  subst e ha
  exact hh
/-- The octets of some, each of the call's own. -/
def Res.ows (zs : List Zs) : Res where
  foot := zs.flatMap fun z => (Res.own ocM 5 1 z.v z.l).foot
  holds := fun W => ∀ z ∈ zs, (Res.own ocM 5 1 z.v z.l).holds W
  stab := fun h hl z hz => (Res.own ocM 5 1 z.v z.l).stab (fun k hk => h k (List.mem_flatMap.2 ⟨z, hz, hk⟩)) (hl z hz)
theorem ROk.holdW {W : World} {zs : List Zs} (h : ROk (.ows zs) W) : Holds W.heap.size W zs := fun z hz =>
  ROk.own_bsl ⟨h.h z hz, fun k hk => h.lt k (List.mem_flatMap.2 ⟨z, hz, hk⟩)⟩
theorem Sep.ows0 {w W : World} {F : List Nat} {l : List Res} (h : Sep w F l W) : Sep w F (.ows [] :: l) W :=
  h.add (Below.refl _ W) ⟨fun _ hz => (List.not_mem_nil hz).elim, fun _ hk => (List.not_mem_nil hk).elim⟩ (fun _ hk => (List.not_mem_nil hk).elim)
theorem Sep.ows1 {w W : World} {F : List Nat} {l : List Res} {zs : List Zs} {v : Value} {x : List UInt8} (z : Zs) (hv : v = z.v) (hx : x = z.l) (h : Sep w F (.own ocM 5 1 v x :: .ows zs :: l) W) : Sep w F (.ows (zs ++ [z]) :: l) W := by
  subst hv hx
  have h1 : Sep w F (.join [.own ocM 5 1 z.v z.l, .ows zs] :: l) W := h.close (ps := [.own ocM 5 1 z.v z.l, .ows zs])
  refine h1.conv (fun hh y hy => ?_) (fun k hk => ?_)
  · rcases List.mem_append.1 hy with hy | hy
    · exact hh.1 (.ows zs) (by simp) y hy
    · obtain rfl := List.mem_singleton.1 hy
      exact hh.1 _ (List.mem_cons_self ..)
  · obtain ⟨y, hy, hq⟩ := List.mem_flatMap.1 hk
    clear hk
    rcases List.mem_append.1 hy with hy | hy
    · exact join_mem (r := .ows zs) (by simp) (List.mem_flatMap.2 ⟨y, hy, hq⟩)
    · obtain rfl := List.mem_singleton.1 hy
      exact join_mem (List.mem_cons_self ..) hq
/-- One's alone. -/
theorem Sep.ows_one {w W : World} {F : List Nat} {l : List Res} {z : Zs} (h : Sep w F (.ows [z] :: l) W) : Sep w F (.own ocM 5 1 z.v z.l :: l) W :=
  h.conv (fun hh => hh z (List.mem_singleton.2 rfl)) (fun _ hk => List.mem_flatMap.2 ⟨z, List.mem_singleton.2 rfl, hk⟩)
section
variable {w W W' : World} {F : List Nat} {l : List Res} {ms : List Ml}
theorem Sep.gain2 {r s : Res} (h : Sep w F l W) (h' : Sep W [] [r, s] W') : Sep w F (r :: s :: l) W' := Sep.part (ps := [r, s]) (h.gain (Sep.close (ps := [r, s]) (l := []) h'))
theorem Sep.gain3 {r s t : Res} (h : Sep w F l W) (h' : Sep W [] [r, s, t] W') : Sep w F (r :: s :: t :: l) W' := Sep.part (ps := [r, s, t]) (h.gain (Sep.close (ps := [r, s, t]) (l := []) h'))
theorem Sep.mls1 {v : Value} {x : List UInt8} (m : Ml) (hv : v = m.z.v) (hx : x = m.z.l) (h : Sep w F (.own ocM 5 1 v x :: .ows (zsM ms) :: l) W) : Sep w F (.ows (zsM (ms ++ [m])) :: l) W := by
  rw [zsM_app]
  exact Sep.ows1 m.z hv hx h
end
/-- Mail of one's own comes back. -/
def MlR (q : List (Int × List UInt8)) (w : World) (e : Ending) (W' : World) : Prop := ∃ v ms, e = .returned v ∧ ms.map plM = q ∧ Sep w [] [.own mlc 27 2 v ms, .ows (zsM ms)] W'
/-- A place, counted round. -/
def plcN (z : Int) (n : Nat) : Nat := (Int.tmod (Int.tmod z n + n) n).toNat
theorem plc_eq (z : Int) {n : Nat} (h : 0 < n) : Int.tmod (Int.tmod z n + n) n = ((plcN z n : Nat) : Int) := by
  have hn : (0 : Int) < n := by omega
  have h2 := Int.lt_tmod_of_pos z hn
  exact (Int.toNat_of_nonneg (Int.tmod_nonneg (a := Int.tmod z n + n) n (by omega))).symm
theorem plc_lt (z : Int) {n : Nat} (h : 0 < n) : plcN z n < n := by
  have h1 := plc_eq z h
  have h2 := Int.tmod_lt_of_pos (Int.tmod z n + n) (show (0 : Int) < n by omega)
  omega
theorem plc_sum (z : Int) {n : Nat} (h : 0 < n) (h1 : n ≤ 1048576) : IntKind.i64.wrap (Int.tmod z n + n) = Int.tmod z n + n := by
  have hn : (0 : Int) < n := by omega
  have h2 := Int.lt_tmod_of_pos z hn
  have h3 := Int.tmod_lt_of_pos z hn
  exact IntWalk.i64_in _ (by omega)
theorem RSl.clip {α : Type} {f : α → List Value} {lo hi : Nat} {W : World} {a : Option Addr} {c : Nat} {l : List α} (h : RSl f lo hi W (.slice a l.length c) l) : RSl f lo hi W (.slice a l.length l.length) l := by
  obtain ⟨a', cap, e, hc, hm, h0⟩ := h
  cases e
  exact ⟨a, l.length, rfl, Nat.le_refl _, Nat.le_trans hc hm, h0⟩
section
variable {α : Type} {f : α → List Value} {e S : TypeId} {n bytes : Nat} {z : Value} {l : List α} {W : World} {pa : Option Addr} {pc : Nat}
/-- Behind a slice without room, whoever's it is: a new row. -/
theorem arg_clip1 (hi0 : (Try.prog.info? e).map (fun i => (i.zero, i.size, i.bytes)) = some (some z, n, bytes)) (hzs : z.cells.size = n) (h0 : 0 < n) (hu : Try.prog.underlying S = some (.slice e)) (hn : ∀ x, (f x).length = n) (h1 : ∀ x, ∀ u ∈ f x, u.oneCell' = true)
    {lo hi : Nat} (hs : RSl f lo hi W (.slice pa l.length pc) l) (x : α) {N : Nat} {T : TypeId} (hN : Blk W N T (f x)) (hb0 : 0 < bytes) (hr : (l.length + 1) * bytes ≤ 70368744177664) (ty : TypeId) :
    ∃ v' W', (Builtin.append_ #[S, S] ty #[.slice pa l.length l.length, .slice (some ⟨N, 0, none⟩) 1 1]).run Try.prog W = .ok v' W' ∧ W'.ownsRow W.heap.size e n v' (l ++ [x]).length (flatR f (l ++ [x])) ∧ Below W.heap.size W W' := by
  obtain ⟨i0, hi, hz0, hz1, hz2⟩ := info_parts hi0
  have hlen : l.length + 1 ≤ 70368744177664 := Nat.le_trans (Nat.le_mul_of_pos_right _ hb0) hr
  have hnews : ∀ j u, (f x)[j]? = some u → W.cell? ((⟨N, 0, none⟩ : Addr).add j) = some u := fun j u hj => by rw [addr_add, Nat.zero_add]; exact (hN.cell j).trans hj
  rw [List.length_append, List.length_singleton, flat_app, flat_one]
  cases pa with
  | some ad =>
    obtain ⟨v', W', g1, g2, hg⟩ := run_append_arg_grows (P := Try.prog) W S S e i0 z n bytes hu hi hz0 hz1 hz2 hzs h0 ad l.length l.length (flatR f l) (flat_len hn l) hs.cells ⟨N, 0, none⟩ 1 1 (f x) (by rw [hn, Nat.one_mul]) hnews (by omega) (by unfold maxLen; omega) (by omega)
    exact ⟨v', W', g1, g2, ⟨hg.os, hg.tape, hg.output, hg.size, fun k hk => hg.block k hk (by simp)⟩⟩
  | none =>
    have hl0 : l = [] := by
      obtain ⟨a', cap, e', _, _, h0 | ⟨b, off, ha, _⟩⟩ := hs
      · exact h0
      · cases e'
        cases ha
    subst hl0
    obtain ⟨v', W', g1, g2, hg, _⟩ := run_append_own (P := Try.prog) W W.heap.size S S e i0 z n bytes hu hi hz0 hz1 hz2 hzs h0 (.slice none 0 0) 0 [] (World.ownsRow_nil _ _ _ _) ⟨N, 0, none⟩ 1 1 (f x) (by rw [hn, Nat.one_mul]) hnews (fun u hu => h1 x u hu) (by unfold maxLen; omega) (by simp at hr ⊢; omega) (Nat.le_refl _)
    exact ⟨v', W', g1, g2, ⟨hg.os, hg.tape, hg.output, hg.size, fun k hk => hg.block k hk (by simp [Value.ownBlock])⟩⟩
end
theorem mk_step {tz : Int} {ls : List Ml} {zs : List Zs} {j : Nat} {z : Zs} (h : zs[j]? = some z) : (ls ++ (zs.take j).map (mkM tz)) ++ [mkM tz z] = ls ++ (zs.take (j + 1)).map (mkM tz) := by
  rw [List.take_add_one, h, Option.toList_some, List.map_append, List.map_singleton, List.append_assoc]
theorem mk_first {tz : Int} {ls : List Ml} {zs : List Zs} {j : Nat} {z : Zs} (h : zs[j]? = some z) (h0 : j = 0) : ls ++ [mkM tz z] = ls ++ (zs.take (j + 1)).map (mkM tz) := by
  rw [← mk_step h, h0, List.take_zero, List.map_nil, List.append_nil]
/-- What is on its way once these are, too. -/
def postL (q : List (Int × List UInt8)) (tz : Int) (ds : List (List UInt8)) : List (Int × List UInt8) := (q ++ ds.map fun d => (tz, d)).take 512
theorem zsM_mk (tz : Int) (zs : List Zs) : zsM (zs.map (mkM tz)) = zs := by
  unfold zsM
  rw [List.map_map]
  exact List.map_id zs
theorem plM_mk (tz : Int) (zs : List Zs) : (zs.map (mkM tz)).map plM = (textsZ zs).map fun d => (tz, d) := by
  unfold textsZ
  rw [List.map_map, List.map_map]
  rfl
theorem post_eq (ls : List Ml) (tz : Int) (zs : List Zs) : selG (fun j _ => decide ((j : Int) < 512)) 0 ((ls ++ zs.map (mkM tz)).map plM) = postL (ls.map plM) tz (textsZ zs) := by
  have h := sel_upto ((ls ++ zs.map (mkM tz)).map plM) 0 512 (Nat.zero_le _)
  rw [List.map_append, plM_mk] at h ⊢
  exact h
theorem hold_mk {n : Nat} {W : World} {ls : List Ml} {zs : List Zs} (tz : Int) (h : Holds n W (zsM ls)) (h' : Holds n W zs) : Holds n W (zsM (ls ++ zs.map (mkM tz))) := by
  rw [zsM_app, zsM_mk]
  exact h.app h'
def BZ (zs : List Zs) : Prop := ∀ z ∈ zs, z.l.length ≤ 140737488351232
theorem bp_mk {ls : List Ml} {zs : List Zs} (tz : Int) (h : BP (ls.map plM)) (h' : BZ zs) : BP ((ls ++ zs.map (mkM tz)).map plM) := by
  rw [List.map_append]
  refine h.app fun x hx => ?_
  rw [List.map_map] at hx
  obtain ⟨z, hz, rfl⟩ := List.mem_map.1 hx
  exact h' z hz
theorem res_three {fn : Func} {p q r : Tmp} {ty : TypeId} (h : fn.results = #[.cell p ty, .tmp q, .tmp r]) (tmps : Array Value) {w : World} {g : Nat} {c a b : Value} (hp : tmps.getD p undef = .pointer (some ⟨g, 0, none⟩)) (hq : tmps.getD q undef = a) (hr : tmps.getD r undef = b) (hl : (loadVar ty ⟨g, 0, none⟩).run Try.prog w = .ok c w) :
    (results fn tmps).run Try.prog w = .ok (.tuple #[c, a, b]) w := by
  have hp' : tmps[p]?.getD undef = .pointer (some ⟨g, 0, none⟩) := by simpa using hp
  have hq' : tmps[q]?.getD undef = a := by simpa using hq
  have hr' : tmps[r]?.getD undef = b := by simpa using hr
  simp [results, h, hp', hq', hr', asAddr, hl]
theorem lv_ml {W : World} {B : Nat} {T : TypeId} {x : Ml} (h : Blk W B T (mlc x)) : (loadVar 27 ⟨B, 0, none⟩).run Try.prog W = .ok (mlv x) W := run_loadVar_row W B T _ (mlc x).toArray (0, 0) _ h Try.underlying27 rfl (by kernel_rfl)
-- HERE
end Go.Proofs.Ytedoogoelolbdaa
