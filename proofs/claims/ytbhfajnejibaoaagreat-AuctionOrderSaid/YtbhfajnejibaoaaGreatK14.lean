/-
  What the law keeps of a room: an entry for each ask; the two agree; The law's own words: find, better, best; The seed of a router's key: bid's Seed; Two bids in a room, in either order; The law's calls; facts for the law AuctionRuns; Frames with many slots: what is forgotten at a cut or a loop is ONE function of the slot's number (not a variable a slot): the kernel's work is linear in the number o
-/
import Derived.Outline
import Derived.Deep.Cut
import Derived.Deep.CutBlock
import Derived.LoopTactic
import Derived.Test.YtbhfajnejibaoaaGreatRows
import Derived.ProofKit
import Derived.OpenShut
import Derived.Laws.IdiomArrays
import Derived.Lib.SmallJoins
import Derived.Below
import Derived.Deep.Slices
import Derived.SizedLaws
import Derived.Carry
import Derived.ChangeMaps5
import Derived.JoinedCond
import Derived.Deep.Fields
import Derived.Test.YtbhfajnejibaoaaGreatK13
namespace Go.Proofs.YtbhfajnejibaoaaGreat
open Go.RowKit Go.Shelf
structure En where
  k : Ak
  si : Int
  pa : Option Addr
  pc : Nat
  bs : List Bd
abbrev En.sl (e : En) : Value := .slice e.pa e.bs.length e.pc
abbrev env (x : En) : Value := .agg #[.int .i64 x.k.us, .int .i64 x.k.se, .int .i64 x.k.re, .int .i64 x.k.to, .int .u64 (x.k.a0 : Nat), .int .u64 (x.k.a1 : Nat), .int .u64 (x.k.a2 : Nat), .int .u64 (x.k.a3 : Nat), .string x.k.id, .int .i64 x.si, x.sl]
abbrev enc (x : En) : List Value := [.int .i64 x.k.us, .int .i64 x.k.se, .int .i64 x.k.re, .int .i64 x.k.to, .int .u64 (x.k.a0 : Nat), .int .u64 (x.k.a1 : Nat), .int .u64 (x.k.a2 : Nat), .int .u64 (x.k.a3 : Nat), .string x.k.id, .int .i64 x.si, x.sl]
def noEn : En := ⟨noA, 0, none, 0, []⟩
theorem enc_len (x : En) : (enc x).length = 11 := rfl
theorem enc_one (x : En) : ∀ u ∈ enc x, u.oneCell' = true := by simp [enc, En.sl, Value.oneCell']
theorem infoEn : (Tryz.prog.info? 45).map (fun i => (i.zero, i.size, i.bytes)) = some (some (.agg (enc noEn).toArray), 11, 112) := by kernel_rfl
def isEn (a : Ak) (x : En) : Bool := decide (x.k = a)
def enR (e : En) : Res := .own bdc 36 16 e.sl e.bs
def toLt (e : En) : Lt := ⟨e.k, e.si⟩
theorem ROk.part_of {l : List Res} {r : Res} {W : World} (h : ROk (.join l) W) (hr : r ∈ l) : ROk r W := ⟨h.h.1 r hr, fun k hk => h.lt k (join_mem hr hk)⟩
theorem ROk.en {es : List En} {e : En} {p : Nat} {W : World} (h : ROk (.join (es.map enR)) W) (he : es[p]? = some e) : ROk (.own bdc 36 16 e.sl e.bs) W := h.part_of (r := enR e) (List.mem_map_of_mem (List.mem_of_getElem? he))
theorem turn_en {es : List En} {e e' : En} {p : Nat} {W W' : World} (h : ROk (.join (es.map enR)) W) (he : es[p]? = some e) (ht : RTurn (enR e) (enR e') W W') : RTurn (.join (es.map enR)) (.join ((es.set p e').map enR)) W W' := by
  have hi : (es.map enR)[p]? = some (enR e) := by rw [List.getElem?_map, he]; rfl
  have h2 := (Sep.begin h).turn p hi ht rfl
  rw [List.map_set]
  exact Sep.fin h2 (List.Sublist.refl _)
theorem Sep.enadd {w W : World} {F : List Nat} {l : List Res} {es : List En} {e : En} (h : Sep w F (.join (es.map enR) :: enR e :: l) W) : Sep w F (.join ((es ++ [e]).map enR) :: l) W := by
  have h2 := h.part
  refine Sep.close (ps := (es ++ [e]).map enR) ?_
  rw [List.map_append, List.append_assoc]
  exact h2
def bestE (bs : List Bd) (now si : Int) : Option Bd := if now < si + 1 then none else topBd (bs.filter (liveBd now))
def stepB (o : Option Bd) (x : Bd) : Bd := match o with
  | none => x
  | some y => pickB y x
theorem top_snoc (l : List Bd) (x : Bd) : topBd (l ++ [x]) = some (stepB (topBd l) x) := by
  cases l with
  | nil => rfl
  | cons b l =>
    show some ((l ++ [x]).foldl pickB b) = some (pickB (l.foldl pickB b) x)
    rw [List.foldl_append]
    rfl
theorem top_take {bs : List Bd} {now : Int} {j : Nat} {x : Bd} (hx : bs[j]? = some x) : topBd ((bs.take (j + 1)).filter (liveBd now)) = if liveBd now x = true then some (stepB (topBd ((bs.take j).filter (liveBd now))) x) else topBd ((bs.take j).filter (liveBd now)) := by
  rw [take_filG hx]
  by_cases h : liveBd now x = true
  · rw [if_pos h, if_pos h, top_snoc]
  · rw [if_neg h, if_neg h, List.append_nil]
theorem top_ok {l : List Bd} (h : ∀ x ∈ l, OkB x) : OkB ((topBd l).getD noB) := by
  cases l with
  | nil => exact ⟨⟨by decide, by decide, by decide, by decide⟩, ⟨by decide, by decide, by decide, by decide⟩⟩
  | cons b l => exact h _ (fold_mem b l)
theorem best_rm {R : Rm} {e : En} {now : Int} (ho : openL R.ls e.k = some (toLt e)) (hb : e.bs = forB R.bs e.k anyB) : bestR R e.k now = bestE e.bs now e.si := by
  unfold bestR bestE bestL
  rw [ho, hb]
  show (if now < e.si + 1 then none else _) = _
  congr 2
  unfold forB
  rw [List.filter_filter]
  congr 1
  funext b
  unfold fitBd anyB
  rw [Bool.and_true, Bool.and_comm]
structure Inv19 (j : Nat) (es : List En) (bs : List Bd) : Prop where
  nd : (es.map (·.k)).Nodup
  at' : ∀ e ∈ es, e.bs = forB bs e.k anyB
  ok : ∀ b ∈ bs, OkB b
  has : ∀ b ∈ bs, ∃ e ∈ es, e.k = b.k
  si : OkL (es.map toLt)
  len : bs.length ≤ j
  el : es.length ≤ j
theorem inv_nil : Inv19 0 [] [] := ⟨List.Pairwise.nil, fun _ h => (List.not_mem_nil h).elim, fun _ h => (List.not_mem_nil h).elim, fun _ h => (List.not_mem_nil h).elim, fun _ h => (List.not_mem_nil h).elim, Nat.le_refl _, Nat.le_refl _⟩
theorem Inv19.up {j : Nat} {es : List En} {bs : List Bd} (h : Inv19 j es bs) : Inv19 (j + 1) es bs := ⟨h.nd, h.at', h.ok, h.has, h.si, Nat.le_succ_of_le h.len, Nat.le_succ_of_le h.el⟩
theorem for_none {es : List En} {bs : List Bd} (h : ∀ b ∈ bs, ∃ e ∈ es, e.k = b.k) {a : Ak} (ha : ∀ e ∈ es, ¬ e.k = a) (p : Bd → Bool) : forB bs a p = [] :=
  List.filter_eq_nil_iff.2 fun b hb e => by
    unfold fitBd at e
    rw [Bool.and_eq_true] at e
    obtain ⟨x, hx, hk⟩ := h b hb
    exact ha x hx (hk.trans (of_decide_eq_true e.1))
theorem Inv19.opened {j : Nat} {es : List En} {bs : List Bd} (h : Inv19 j es bs) {a : Ak} (ha : ∀ e ∈ es, ¬ e.k = a) {z : Int} (hz : 0 ≤ z ∧ z ≤ 1099511627776) : Inv19 (j + 1) (es ++ [⟨a, z, none, 0, []⟩]) bs := by
  refine ⟨?_, fun e he => ?_, h.ok, fun b hb => ?_, fun x hx => ?_, Nat.le_succ_of_le h.len, by rw [List.length_append, List.length_singleton]; have := h.el; omega⟩
  · rw [List.map_append, List.nodup_append]
    refine ⟨h.nd, by simp, fun k hk k' hk' e => ?_⟩
    obtain ⟨e', he', rfl⟩ := List.mem_map.1 hk
    rw [List.map_singleton, List.mem_singleton] at hk'
    exact ha e' he' (e.trans hk')
  · rcases List.mem_append.1 he with he | he
    · exact h.at' e he
    · obtain rfl := List.mem_singleton.1 he
      exact (for_none h.has ha _).symm
  · obtain ⟨e, he, hk⟩ := h.has b hb
    exact ⟨e, List.mem_append_left _ he, hk⟩
  · rw [List.map_append] at hx
    rcases List.mem_append.1 hx with hx | hx
    · exact h.si x hx
    · obtain rfl := List.mem_singleton.1 hx
      exact hz
theorem set_keys {es : List En} {e e' : En} {p : Nat} (he : es[p]? = some e) (hk : e'.k = e.k) : (es.set p e').map (·.k) = es.map (·.k) := by
  rw [List.map_set, hk]
  obtain ⟨hp, rfl⟩ := List.getElem?_eq_some_iff.1 he
  have hp' : p < (es.map (·.k)).length := by rw [List.length_map]; exact hp
  have := List.set_getElem_self hp'
  rwa [List.getElem_map] at this
theorem set_lts {es : List En} {e e' : En} {p : Nat} (he : es[p]? = some e) (hk : toLt e' = toLt e) : (es.set p e').map toLt = es.map toLt := by
  rw [List.map_set, hk]
  obtain ⟨hp, rfl⟩ := List.getElem?_eq_some_iff.1 he
  have hp' : p < (es.map toLt).length := by rw [List.length_map]; exact hp
  have := List.set_getElem_self hp'
  rwa [List.getElem_map] at this
theorem for_snoc (bs : List Bd) (b : Bd) (a : Ak) : forB (bs ++ [b]) a anyB = forB bs a anyB ++ (if b.k = a then [b] else []) := by
  unfold forB
  rw [List.filter_append, List.filter_cons, List.filter_nil]
  congr 1
  unfold fitBd anyB
  simp
theorem Inv19.bid {j : Nat} {es : List En} {bs : List Bd} (h : Inv19 j es bs) {p : Nat} {e : En} (he : es[p]? = some e) {b : Bd} (hb : OkB b) (hk : e.k = b.k) (pa : Option Addr) (pc : Nat) : Inv19 (j + 1) (es.set p { e with pa := pa, pc := pc, bs := e.bs ++ [b] }) (bs ++ [b]) := by
  have hp : p < es.length := (List.getElem?_eq_some_iff.1 he).1
  have hme := List.mem_of_getElem? he
  refine ⟨by rw [set_keys (e' := { e with pa := pa, pc := pc, bs := e.bs ++ [b] }) he rfl]; exact h.nd, fun x hx => ?_, fun x hx => ?_, fun x hx => ?_, by rw [set_lts (e' := { e with pa := pa, pc := pc, bs := e.bs ++ [b] }) he rfl]; exact h.si, by rw [List.length_append, List.length_singleton]; have := h.len; omega, by rw [List.length_set]; exact Nat.le_succ_of_le h.el⟩
  · obtain ⟨q, hq⟩ := List.mem_iff_getElem?.1 hx
    rw [List.getElem?_set] at hq
    by_cases e1 : p = q
    · rw [if_pos e1, if_pos (by omega)] at hq
      obtain rfl := Option.some.inj hq
      show e.bs ++ [b] = _
      rw [for_snoc, if_pos hk.symm, h.at' e hme]
    · rw [if_neg e1] at hq
      have hxm := List.mem_of_getElem? hq
      rw [for_snoc, if_neg (fun e2 => ?_), List.append_nil]
      · exact h.at' x hxm
      · have hnd := h.nd
        have g1 : (es.map (·.k))[p]? = some b.k := by rw [List.getElem?_map, he, ← hk]; rfl
        have g2 : (es.map (·.k))[q]? = some b.k := by rw [List.getElem?_map, hq, e2]; rfl
        obtain ⟨i1, j1⟩ := List.getElem?_eq_some_iff.1 g1
        obtain ⟨i2, j2⟩ := List.getElem?_eq_some_iff.1 g2
        have hpw := List.pairwise_iff_getElem.1 (List.nodup_iff_pairwise_ne.1 hnd)
        rcases Nat.lt_or_gt_of_ne e1 with g | g
        · exact hpw p q i1 i2 g (j1.trans j2.symm)
        · exact hpw q p i2 i1 g (j2.trans j1.symm)
  · rcases List.mem_append.1 hx with hx | hx
    · exact h.ok x hx
    · obtain rfl := List.mem_singleton.1 hx
      exact hb
  · have hin : { e with pa := pa, pc := pc, bs := e.bs ++ [b] } ∈ es.set p { e with pa := pa, pc := pc, bs := e.bs ++ [b] } := List.mem_of_getElem? (i := p) (by rw [List.getElem?_set_self hp])
    rcases List.mem_append.1 hx with hx | hx
    · obtain ⟨y, hy, hyk⟩ := h.has x hx
      obtain ⟨q, hq⟩ := List.mem_iff_getElem?.1 hy
      by_cases e1 : p = q
      · subst e1
        obtain rfl := Option.some.inj (he.symm.trans hq)
        exact ⟨_, hin, hyk⟩
      · exact ⟨y, List.mem_of_getElem? (i := q) (by rw [List.getElem?_set_ne e1]; exact hq), hyk⟩
    · obtain rfl := List.mem_singleton.1 hx
      exact ⟨_, hin, hk⟩
theorem en_no {es : List En} {a : Ak} (h : ¬ 0 ≤ idxG (isEn a) es) : ∀ e ∈ es, ¬ e.k = a := by
  intro e he hk
  refine h ?_
  unfold idxG
  cases hf : es.findIdx? (isEn a) with
  | none =>
    have := List.findIdx?_eq_none_iff.1 hf e he
    unfold isEn at this
    exact absurd hk (of_decide_eq_false this)
  | some i => exact Int.natCast_nonneg i
theorem en_yes {es : List En} {a : Ak} (h : 0 ≤ idxG (isEn a) es) : ∃ (p : Nat) (e : En), idxG (isEn a) es = (p : Int) ∧ es[p]? = some e ∧ e.k = a ∧ es.find? (isEn a) = some e := by
  have hf := find_idx (isEn a) es
  rw [if_neg (by omega)] at hf
  obtain ⟨p, hp⟩ : ∃ p : Nat, idxG (isEn a) es = (p : Int) := ⟨_, (Int.toNat_of_nonneg h).symm⟩
  obtain ⟨e, he⟩ := idxG_lt' hp
  rw [hp, Int.toNat_natCast, he] at hf
  exact ⟨p, e, hp, he, of_decide_eq_true (show isEn a e = true from List.find?_some hf), hf⟩
theorem open_map (es : List En) (a : Ak) : openL (es.map toLt) a = (es.find? (isEn a)).map toLt := by
  unfold openL
  rw [List.find?_map]
  rfl
theorem open_none {es : List En} {a : Ak} (h : ∀ e ∈ es, ¬ e.k = a) : openL (es.map toLt) a = none := by
  have : es.find? (isEn a) = none := List.find?_eq_none.2 fun e he hk => h e he (of_decide_eq_true hk)
  rw [open_map, this]
  rfl
end Go.Proofs.YtbhfajnejibaoaaGreat
namespace Go.Proofs.YtbhfajnejibaoaaGreat
open Go.RowKit Go.Shelf
attribute [local irreducible] wpFrom wpAnyH StepH
set_option maxRecDepth 100000 in
set_option maxHeartbeats 4000000 in
theorem better19_any (a b : Bd) (w : World) (ha : OkB a) (hb : OkB b) : Calls Tryz.prog 38 #[bdv a, bdv b] w fun e W' => e = .returned (.bool (betB a b)) ∧ Below w.heap.size w W' := by
  have hmx : Tryz.prog.follows .mixedOrders = true := by kernel_rfl
  have HA := Lib.hid ha
  have HB := Lib.hid hb
  clear ha hb
  have hM := Sep.start w
  go_enter Tryz.func38, Tryz.ntmps38
  go_upto_region 0 with fail
  refine wp_region_fromM (fun W => Sep w [] [] W) hM ?_
  clear hM
  rintro Y1 hM
  refine rF (some 2) (pt Y1.heap.size 0) (Y1.alloc (.cells (bdc a).toArray 36)) ?_
  replace hM := hM.alloc 36 (bdc a)
  generalize World.alloc _ _ = Y2 at *
  generalize hNe : Y1.heap.size = N2 at *
  clear hNe
  refine rF (some 3) (pt Y2.heap.size 0) (Y2.alloc (.cells (bdc b).toArray 36)) ?_
  replace hM := hM.alloc 36 (bdc b)
  generalize World.alloc _ _ = Y3 at *
  generalize hNe : Y2.heap.size = N3 at *
  clear hNe
  refine tF 3 [.val 2 (some 4) (.bool false)] trivial ?_
  refine dF ?_
  try simp only [puts, Tk.put, Act.put, List.setIfInBounds_toArray, List.set_cons_zero, List.set_cons_succ]
  go_upto_region 1 with fail
  refine wp_region_fromM (fun W => Sep w [] [.blk N3 36 (bdc b), .blk N2 36 (bdc a)] W) hM ?_
  clear hM
  rintro Y4 hM
  refine tF 2 [.load 0 (some 5) 36 (pt N2 0) (bdv a), .load 1 (some 6) 36 (pt N3 0) (bdv b)] ⟨load_part (hM.at 1 rfl) 0 (bdc a) rfl _ _ Tryz.underlying36 rfl (by kernel_rfl), load_part (hM.at 0 rfl) 0 (bdc b) rfl _ _ Tryz.underlying36 rfl (by kernel_rfl), trivial⟩ ?_
  refine cF (some 7) 37 #[bdv a, bdv b] ((better_any a b HA.out HB.out _).mono ?_)
  rintro e Y5 ⟨rfl, hb⟩
  replace hM := hM.below hb
  clear hb
  refine tF 4 [.val 3 (some 4) (.bool (betB a b))] trivial ?_
  refine dF ?_
  try simp only [puts, Tk.put, Act.put, List.setIfInBounds_toArray, List.set_cons_zero, List.set_cons_succ]
  go_wp2_with fail
  go_ret
  exact ⟨rfl, hM.b⟩
set_option maxRecDepth 100000 in
set_option maxHeartbeats 4000000 in
theorem find19_any (a : Ak) (l : List En) (v : Value) (w : World) {lo hi : Nat} (hl : RSl enc lo hi w v l) (hhi : hi ≤ w.heap.size) : Calls Tryz.prog 9 #[v, akv a] w fun e W' => e = .returned (.int .i64 (idxG (isEn a) l)) ∧ Below w.heap.size w W' := by
  have hmx : Tryz.prog.follows .mixedOrders = true := by kernel_rfl
  have HEl := Lib.hid (fun k x (hx : l[k]? = some x) => hl.elem enc_len hx Tryz.underlying29 (fun W => by kernel_rfl))
  obtain ⟨pl, cl, rfl⟩ := hl.slice
  have HLl := Lib.hid hl
  have HHl := Lib.hid hhi
  have HLENl := Lib.hid (show l.length ≤ 9223372036854775807 from by have h := hl.len; unfold maxLen at h; omega)
  clear hl hhi
  have hM := Sep.start w
  go_enter Tryz.func9, Tryz.ntmps9
  go_upto_region 0 with fail
  refine wp_region_fromM (fun W => Sep w [] [] W) hM ?_
  clear hM
  rintro Y1 hM
  refine rF (some 3) (pt Y1.heap.size 0) (Y1.alloc (.cells (akc a).toArray 34)) ?_
  replace hM := hM.alloc 34 (akc a)
  generalize World.alloc _ _ = Y2 at *
  generalize hNe : Y1.heap.size = N2 at *
  clear hNe
  refine tF 2 [.val 1 (some 4) (.int .i64 0)] trivial ?_
  refine dF ?_
  try simp only [puts, Tk.put, Act.put, List.setIfInBounds_toArray, List.set_cons_zero, List.set_cons_succ]
  go_upto_region 1 with fail
  refine wp_region_fromM (fun W => Sep w [] [.blk N2 34 (akc a)] W) hM ?_
  clear hM
  rintro Y3 hM
  refine tF 1 [.val 0 (some 5) (.int .i64 0)] trivial ?_
  refine dF ?_
  try simp only [puts, Tk.put, Act.put, List.setIfInBounds_toArray, List.set_cons_zero, List.set_cons_succ]
  go_wp2_with fail
  go_loopw [5] (fun i wr => ∃ j : Nat, j ≤ l.length ∧ i = .int .i64 (j : Int) ∧ (l.take j).any (isEn a) = false ∧ Sep w [] [.blk N2 34 (akc a)] wr) (fun i _ => l.length - (intOf i).toNat)
  case atStart => exact ⟨0, Nat.zero_le _, rfl, rfl, hM⟩
  clear hM
  case round =>
    obtain ⟨j, hj, rfl, hno, hM⟩ := hrel
    have HN := Lib.hid hno
    clear hno
    by_cases hlt : j < l.length
    case pos =>
      obtain ⟨x, hx⟩ : ∃ x, l[j]? = some x := ⟨_, List.getElem?_eq_getElem hlt⟩
      obtain ⟨bl, ol, _, _, hit, hct⟩ := HEl.out j x hx
      have HXl := Lib.hid hx
      have HIl := Lib.hid hit
      have HCl := Lib.hid hct
      clear hx hit hct
      have HJ := Lib.hid hlt
      have hlt' : (j : Int) < (l.length : Int) := by omega
      clear hlt
      go_upto_region 2 with fail
      refine wp_region_fromM (fun W => Sep w [] [.blk N2 34 (akc a)] W) hM ?_
      clear hM
      rintro Y4 hM
      refine tF 4 [.val 0 (some 6) (.int .i64 (j : Int)), .val 1 (some 7) (.slice pl l.length cl), .val 2 (some 8) (.int .i64 (l.length : Int)), .alt 3 (some 9) (.bool (decide ((j : Int) < (l.length : Int)))) (.bool true)] ⟨congrArg Value.bool (decide_eq_true hlt'), trivial⟩ ?_
      refine dF ?_
      try simp only [puts, Tk.put, Act.put, List.setIfInBounds_toArray, List.set_cons_zero, List.set_cons_succ]
      go_upto_region 4 with fail
      refine wp_region_M (fun W => Sep w [] [.blk N2 34 (akc a)] W) (fun W => Sep w [] [.blk N2 34 (akc a)] W) hmx hM.drew ?_
      clear hM
      rintro Y5 hM
      have hS := hM.sub (.cons_cons _ .slnil)
      refine tD 1 [.val 0 (some 12) (.slice pl l.length cl), .val 1 (some 13) (.int .i64 (j : Int)), .idx 2 (some 14) 29 (.slice pl l.length cl) (.int .i64 (j : Int)) (pt bl ol), .val 3 (some 15) (pt bl ol), .load 4 (some 16) 34 (pt bl ol) (akv x.k), .load 5 (some 17) 34 (pt N2 0) (akv a)] ⟨fun W h => HIl.out _, fun W h => ld_cellsAt (HCl.out _ (HLl.out.below h.b HHl.out)) 0 (akc x.k) rfl _ _ Tryz.underlying34 rfl (by kernel_rfl), fun W h => load_part (h.at 0 rfl) 0 (akc a) rfl _ _ Tryz.underlying34 rfl (by kernel_rfl), trivial⟩ hS ?_
      refine oD 6 0 (eqD (.tmp 16) (.tmp 17) 34 (some 18) (akc x.k).toArray (akc a).toArray (decide (x.k = a)) (run_eqAk x.k a _) hS ?_)
      refine dD ?_
      try simp only [puts, Tk.put, Act.put, List.setIfInBounds_toArray, List.set_cons_zero, List.set_cons_succ]
      clear hS
      cases hb1 : decide (x.k = a) with
      | false =>
        have Hhb1 := Lib.hid hb1
        clear hb1
        go_upto_region 3 with fail
        refine wp_region_fromM (fun W => Sep w [] [.blk N2 34 (akc a)] W) hM ?_
        clear hM
        rintro Y6 hM
        refine tF 3 [.val 0 (some 10) (.int .i64 (j : Int)), .alt 1 (some 11) (.int .i64 (IntKind.i64.wrap ((j : Int) + 1))) (.int .i64 ((j + 1 : Nat) : Int)), .val 2 (some 5) (.int .i64 ((j + 1 : Nat) : Int))] ⟨congrArg (Value.int .i64) ((IntWalk.i64_in _ (by have := HLENl.out; have := HJ.out; omega)).trans (by omega)), trivial⟩ ?_
        refine dF ?_
        try simp only [puts, Tk.put, Act.put, List.setIfInBounds_toArray, List.set_cons_zero, List.set_cons_succ]
        go_wp2_with fail
        go_roundw
        case rel => exact ⟨j + 1, HJ.out, rfl, by rw [take_anyG HXl.out, HN.out]; exact (Bool.false_or _).trans Hhb1.out, hM⟩
        case measure => have := HJ.out; simp [intOf]; omega
      | true =>
        have Hhb1 := Lib.hid hb1
        clear hb1
        go_upto_region 5 with fail
        refine wp_region_fromM (fun W => Sep w [] [.blk N2 34 (akc a)] W) hM ?_
        clear hM
        rintro Y7 hM
        refine tF 2 [.val 0 (some 19) (.int .i64 (j : Int)), .val 1 (some 4) (.int .i64 (j : Int))] trivial ?_
        refine dF ?_
        try simp only [puts, Tk.put, Act.put, List.setIfInBounds_toArray, List.set_cons_zero, List.set_cons_succ]
        go_wp2_with fail
        go_ret
        exact ⟨by rw [idxG_at HXl.out (show isEn a x = true from Hhb1.out) HN.out]; rfl, hM.b⟩
    case neg =>
      obtain rfl : j = l.length := by omega
      go_upto_region 2 with fail
      refine wp_region_fromM (fun W => Sep w [] [.blk N2 34 (akc a)] W) hM ?_
      clear hM
      rintro Y8 hM
      refine tF 4 [.val 0 (some 6) (.int .i64 (l.length : Int)), .val 1 (some 7) (.slice pl l.length cl), .val 2 (some 8) (.int .i64 (l.length : Int)), .alt 3 (some 9) (.bool (decide ((l.length : Int) < (l.length : Int)))) (.bool false)] ⟨congrArg Value.bool (decide_eq_false (by omega)), trivial⟩ ?_
      refine dF ?_
      try simp only [puts, Tk.put, Act.put, List.setIfInBounds_toArray, List.set_cons_zero, List.set_cons_succ]
      go_upto_region 6 with fail
      refine wp_region_fromM (fun W => Sep w [] [.blk N2 34 (akc a)] W) hM ?_
      clear hM
      rintro Y9 hM
      refine tF 1 [.val 0 (some 4) (.int .i64 (-1))] trivial ?_
      refine dF ?_
      try simp only [puts, Tk.put, Act.put, List.setIfInBounds_toArray, List.set_cons_zero, List.set_cons_succ]
      go_wp2_with fail
      go_ret
      exact ⟨by rw [idxG_not HN.out]; rfl, hM.b⟩
theorem step_no {o : Option Bd} {x : Bd} (h : o.isSome = false) : some (stepB o x) = some x := by
  cases o with
  | none => rfl
  | some y => cases h
theorem step_yes {o : Option Bd} {x : Bd} (h : o.isSome = true) (h' : betB x (o.getD noB) = true) : some (stepB o x) = some x := by
  cases o with
  | none => cases h
  | some y => exact congrArg some (pick_yes h')
theorem step_not {o : Option Bd} {x : Bd} (h : o.isSome = true) (h' : betB x (o.getD noB) = false) : some (stepB o x) = o := by
  cases o with
  | none => cases h
  | some y => exact congrArg some (pick_no h')
theorem best_all {l : List Bd} {now si : Int} (h : now < si + 1 → l.length = 0) : bestE l now si = topBd ((l.take l.length).filter (liveBd now)) := by
  unfold bestE
  rw [List.take_length]
  split
  · rename_i h1
    rw [List.length_eq_zero_iff.1 (h h1)]
    rfl
  · rfl
theorem best_not {l : List Bd} {now si : Int} {j : Nat} (h : now < si + 1) (h' : now < si + 1 → j = 0) : bestE l now si = topBd ((l.take j).filter (liveBd now)) := by
  obtain rfl := h' h
  exact if_pos h
set_option maxRecDepth 100000 in
set_option maxHeartbeats 4000000 in
theorem best19_any (y : En) (now : Int) (w : World) {lo hi : Nat} (hl : RSl bdc lo hi w y.sl y.bs) (hhi : hi ≤ w.heap.size) (hsi : 0 ≤ y.si ∧ y.si ≤ 1099511627776) (hnow : now ≤ 9223372036854775807) (hob : ∀ x ∈ y.bs, OkB x) : Calls Tryz.prog 15 #[env y, .int .i64 now] w fun e W' => e = .returned (.tuple #[bdv ((bestE y.bs now y.si).getD noB), .bool (bestE y.bs now y.si).isSome]) ∧ Below w.heap.size w W' := by
  have hmx : Tryz.prog.follows .mixedOrders = true := by kernel_rfl
  obtain ⟨k, si, pl, cl, l⟩ := y
  dsimp only at hsi hob hl
  have HEl := Lib.hid (fun j x (hx : l[j]? = some x) => hl.elem bdc_len hx Tryz.underlying43 (fun W => by kernel_rfl))
  have HLl := Lib.hid hl
  have HHl := Lib.hid hhi
  have HLENl := Lib.hid (show l.length ≤ 9223372036854775807 from by have h := hl.len; unfold maxLen at h; omega)
  have HSI := Lib.hid hsi
  have HNW := Lib.hid hnow
  have HOB := Lib.hid hob
  clear hl hhi hsi hnow hob
  have hM := Sep.start w
  go_enter Tryz.func15, Tryz.ntmps15
  go_upto_region 0 with fail
  refine wp_region_fromM (fun W => Sep w [] [] W) hM ?_
  clear hM
  rintro Y1 hM
  refine rF (some 2) (pt Y1.heap.size 0) (Y1.alloc (.cells (enc (En.mk k si pl cl l)).toArray 45)) ?_
  replace hM := hM.alloc 45 (enc (En.mk k si pl cl l))
  generalize World.alloc _ _ = Y2 at *
  generalize hNe : Y1.heap.size = N2 at *
  clear hNe
  refine rF (some 4) (pt Y2.heap.size 0) (Y2.alloc (.cells (bdc noB).toArray 36)) ?_
  replace hM := hM.alloc 36 (bdc noB)
  generalize World.alloc _ _ = Y3 at *
  generalize hNe : Y2.heap.size = N3 at *
  clear hNe
  refine tF 3 [.val 2 (some 5) (.bool false)] trivial ?_
  refine dF ?_
  try simp only [puts, Tk.put, Act.put, List.setIfInBounds_toArray, List.set_cons_zero, List.set_cons_succ]
  go_upto_region 1 with fail
  refine wp_region_fromM (fun W => Sep w [] [.blk N3 36 (bdc noB), .blk N2 45 (enc (En.mk k si pl cl l))] W) hM ?_
  clear hM
  rintro Y4 hM
  refine rF (some 6) (pt Y4.heap.size 0) (Y4.alloc (.cells (bdc noB).toArray 36)) ?_
  replace hM := hM.alloc 36 (bdc noB)
  generalize World.alloc _ _ = Y5 at *
  generalize hNe : Y4.heap.size = N5 at *
  clear hNe
  refine dF ?_
  try simp only [Act.put, List.setIfInBounds_toArray, List.set_cons_zero, List.set_cons_succ]
  go_upto_region 2 with fail
  refine wp_region_fromM (fun W => Sep w [] [.blk N5 36 (bdc noB), .blk N3 36 (bdc noB), .blk N2 45 (enc (En.mk k si pl cl l))] W) hM ?_
  clear hM
  rintro Y6 hM
  refine tF 1 [.val 0 (some 7) (.bool false)] trivial ?_
  refine dF ?_
  try simp only [puts, Tk.put, Act.put, List.setIfInBounds_toArray, List.set_cons_zero, List.set_cons_succ]
  go_upto_region 3 with fail
  refine wp_region_fromM (fun W => Sep w [] [.blk N5 36 (bdc noB), .blk N3 36 (bdc noB), .blk N2 45 (enc (En.mk k si pl cl l))] W) hM ?_
  clear hM
  rintro Y7 hM
  refine tF 1 [.val 0 (some 8) (.int .i64 0)] trivial ?_
  refine dF ?_
  try simp only [puts, Tk.put, Act.put, List.setIfInBounds_toArray, List.set_cons_zero, List.set_cons_succ]
  go_wp2_with fail
  go_loopw [7, 8] (fun u7 i wr => ∃ j : Nat, j ≤ l.length ∧ (now < si + 1 → j = 0) ∧ i = .int .i64 (j : Int) ∧ u7 = .bool (topBd ((l.take j).filter (liveBd now))).isSome ∧ Sep w [] [.blk N5 36 (bdc ((topBd ((l.take j).filter (liveBd now))).getD noB)), .blk N3 36 (bdc noB), .blk N2 45 (enc (En.mk k si pl cl l))] wr) (fun u7 i _ => l.length - (intOf i).toNat)
  case atStart => exact ⟨0, Nat.zero_le _, fun _ => rfl, rfl, rfl, hM⟩
  clear hM
  case round =>
    obtain ⟨j, hj, hea, rfl, rfl, hM⟩ := hrel
    have HEA := Lib.hid hea
    clear hea
    by_cases hlt : j < l.length
    case pos =>
      obtain ⟨x, hx⟩ : ∃ x, l[j]? = some x := ⟨_, List.getElem?_eq_getElem hlt⟩
      obtain ⟨bl, ol, _, _, hit, hct⟩ := HEl.out j x hx
      have HXl := Lib.hid hx
      have HIl := Lib.hid hit
      have HCl := Lib.hid hct
      clear hx hit hct
      have HJ := Lib.hid hlt
      have hlt' : (j : Int) < (l.length : Int) := by omega
      clear hlt
      have HTF := Lib.hid (top_take (now := now) HXl.out)
      go_upto_region 4 with fail
      refine wp_region_fromM (fun W => Sep w [] [.blk N5 36 (bdc ((topBd ((l.take j).filter (liveBd now))).getD noB)), .blk N3 36 (bdc noB), .blk N2 45 (enc (En.mk k si pl cl l))] W) hM ?_
      clear hM
      rintro Y8 hM
      refine tF 12 [.val 0 (some 9) (.int .i64 (j : Int)), .val 1 (some 10) (pt N2 10), .load 2 (some 11) 43 (pt N2 10) (.slice pl l.length cl), .val 3 (some 12) (.int .i64 (l.length : Int)), .alt 4 (some 13) (.bool (decide ((j : Int) < (l.length : Int)))) (.bool true), .val 5 (some 14) (.bool true), .val 6 (some 15) (.int .i64 now), .val 7 (some 16) (pt N2 9), .load 8 (some 17) 3 (pt N2 9) (.int .i64 si), .val 9 (some 18) (.bool (decide (si ≤ now))), .val 10 (some 19) (.bool (decide (si ≤ now))), .val 11 (some 20) (.bool (decide (si ≤ now)))] ⟨ld_any _ _ Tryz.underlying43 rfl (hM.at 2 rfl) 10 rfl, congrArg Value.bool (decide_eq_true hlt'), ld_any _ _ Tryz.underlying3 rfl (hM.at 2 rfl) 9 rfl, trivial⟩ ?_
      cases hb1 : decide (si ≤ now) with
      | false =>
        have Hhb1 := Lib.hid hb1
        clear hb1
        refine tF 18 [.skip 12 (some 21), .skip 13 (some 22), .skip 14 (some 23), .skip 15 (some 24), .skip 16 (some 25), .val 17 (some 26) (.bool false)] trivial ?_
        refine dF ?_
        try simp only [puts, Tk.put, Act.put, List.setIfInBounds_toArray, List.set_cons_zero, List.set_cons_succ]
        go_upto_region 8 with fail
        refine wp_region_fromM (fun W => Sep w [] [.blk N5 36 (bdc ((topBd ((l.take j).filter (liveBd now))).getD noB)), .blk N3 36 (bdc noB), .blk N2 45 (enc (En.mk k si pl cl l))] W) hM ?_
        clear hM
        rintro Y9 hM
        refine tF 2 [.load 0 (some 55) 36 (pt N5 0) (bdv ((topBd ((l.take j).filter (liveBd now))).getD noB)), .val 1 (some 56) (.bool (topBd ((l.take j).filter (liveBd now))).isSome)] ⟨load_part (hM.at 0 rfl) 0 (bdc ((topBd ((l.take j).filter (liveBd now))).getD noB)) rfl _ _ Tryz.underlying36 rfl (by kernel_rfl), trivial⟩ ?_
        have hst := sto_part (bdc ((topBd ((l.take j).filter (liveBd now))).getD noB)) (hM.at 1 rfl) 0 36 (bdv ((topBd ((l.take j).filter (liveBd now))).getD noB)) (bdc ((topBd ((l.take j).filter (liveBd now))).getD noB)) rfl (by kernel_rfl) (Nat.le_of_ble_eq_true rfl) rfl rfl
        refine sF 36 (pt N3 0) (bdv ((topBd ((l.take j).filter (liveBd now))).getD noB)) (hst) ?_
        clear hst
        replace hM := hM.set 1 (cs' := bdc ((topBd ((l.take j).filter (liveBd now))).getD noB)) rfl rfl
        generalize World.setRow _ _ _ = Y10 at *
        refine tF 4 [.val 3 (some 5) (.bool (topBd ((l.take j).filter (liveBd now))).isSome)] trivial ?_
        refine dF ?_
        try simp only [puts, Tk.put, Act.put, List.setIfInBounds_toArray, List.set_cons_zero, List.set_cons_succ]
        go_wp2_with fail
        exact bodyPost_ret (v := .tuple #[bdv ((topBd ((l.take j).filter (liveBd now))).getD noB), .bool (topBd ((l.take j).filter (liveBd now))).isSome]) (res_two rfl _ rfl rfl (lv_bd (hM.at 1 rfl))) rfl ⟨by rw [best_not (by have h1 := of_decide_eq_false Hhb1.out; omega) HEA.out], hM.b⟩
      | true =>
        have Hhb1 := Lib.hid hb1
        clear hb1
        refine tF 18 [.val 12 (some 21) (.int .i64 now), .val 13 (some 22) (pt N2 9), .load 14 (some 23) 3 (pt N2 9) (.int .i64 si), .alt 15 (some 24) (.int .i64 (IntKind.i64.wrap (now - si))) (.int .i64 (now - si)), .val 16 (some 25) (.bool (decide (1 ≤ (now - si)))), .val 17 (some 26) (.bool (decide (1 ≤ (now - si))))] ⟨ld_any _ _ Tryz.underlying3 rfl (hM.at 2 rfl) 9 rfl, congrArg (Value.int .i64) (IntWalk.i64_in _ (by have h1 := HSI.out; have h2 := HNW.out; have h3 := of_decide_eq_true Hhb1.out; omega)), trivial⟩ ?_
        refine dF ?_
        try simp only [puts, Tk.put, Act.put, List.setIfInBounds_toArray, List.set_cons_zero, List.set_cons_succ]
        cases hb2 : decide (1 ≤ (now - si)) with
        | false =>
          have Hhb2 := Lib.hid hb2
          clear hb2
          go_upto_region 8 with fail
          refine wp_region_fromM (fun W => Sep w [] [.blk N5 36 (bdc ((topBd ((l.take j).filter (liveBd now))).getD noB)), .blk N3 36 (bdc noB), .blk N2 45 (enc (En.mk k si pl cl l))] W) hM ?_
          clear hM
          rintro Y11 hM
          refine tF 2 [.load 0 (some 55) 36 (pt N5 0) (bdv ((topBd ((l.take j).filter (liveBd now))).getD noB)), .val 1 (some 56) (.bool (topBd ((l.take j).filter (liveBd now))).isSome)] ⟨load_part (hM.at 0 rfl) 0 (bdc ((topBd ((l.take j).filter (liveBd now))).getD noB)) rfl _ _ Tryz.underlying36 rfl (by kernel_rfl), trivial⟩ ?_
          have hst := sto_part (bdc ((topBd ((l.take j).filter (liveBd now))).getD noB)) (hM.at 1 rfl) 0 36 (bdv ((topBd ((l.take j).filter (liveBd now))).getD noB)) (bdc ((topBd ((l.take j).filter (liveBd now))).getD noB)) rfl (by kernel_rfl) (Nat.le_of_ble_eq_true rfl) rfl rfl
          refine sF 36 (pt N3 0) (bdv ((topBd ((l.take j).filter (liveBd now))).getD noB)) (hst) ?_
          clear hst
          replace hM := hM.set 1 (cs' := bdc ((topBd ((l.take j).filter (liveBd now))).getD noB)) rfl rfl
          generalize World.setRow _ _ _ = Y12 at *
          refine tF 4 [.val 3 (some 5) (.bool (topBd ((l.take j).filter (liveBd now))).isSome)] trivial ?_
          refine dF ?_
          try simp only [puts, Tk.put, Act.put, List.setIfInBounds_toArray, List.set_cons_zero, List.set_cons_succ]
          go_wp2_with fail
          exact bodyPost_ret (v := .tuple #[bdv ((topBd ((l.take j).filter (liveBd now))).getD noB), .bool (topBd ((l.take j).filter (liveBd now))).isSome]) (res_two rfl _ rfl rfl (lv_bd (hM.at 1 rfl))) rfl ⟨by rw [best_not (by have h1 := of_decide_eq_false Hhb2.out; omega) HEA.out], hM.b⟩
        | true =>
          have Hhb2 := Lib.hid hb2
          clear hb2
          go_upto_region 6 with fail
          refine wp_region_M (fun W => Sep w [] [.blk N5 36 (bdc ((topBd ((l.take j).filter (liveBd now))).getD noB)), .blk N3 36 (bdc noB), .blk N2 45 (enc (En.mk k si pl cl l))] W) (fun W => Sep w [] [.blk N5 36 (bdc ((topBd ((l.take j).filter (liveBd now))).getD noB)), .blk N3 36 (bdc noB), .blk N2 45 (enc (En.mk k si pl cl l))] W) hmx hM.drew ?_
          clear hM
          rintro Y13 hM
          have hS := hM.sub (.cons_cons _ (.cons_cons _ (.cons_cons _ .slnil)))
          refine tD 12 [.val 0 (some 29) (.int .i64 now), .val 1 (some 30) (pt N2 10), .load 2 (some 31) 43 (pt N2 10) (.slice pl l.length cl), .val 3 (some 32) (.int .i64 (j : Int)), .idx 4 (some 33) 43 (.slice pl l.length cl) (.int .i64 (j : Int)) (pt bl ol), .val 5 (some 34) (pt bl (ol + 14)), .load 6 (some 35) 3 (pt bl (ol + 14)) (.int .i64 x.un), .val 7 (some 36) (.bool (decide (now ≤ x.un))), .val 8 (some 37) (.bool (decide (now ≤ x.un)))] ⟨fun W h => ld_any _ _ Tryz.underlying43 rfl (h.at 2 rfl) 10 rfl, fun W h => HIl.out _, fun W h => ld_cell _ _ Tryz.underlying3 rfl (HCl.out _ (HLl.out.below h.b HHl.out) 14 _ rfl), trivial⟩ hS ?_
          cases hb3 : decide (now ≤ x.un) with
          | false =>
            have Hhb3 := Lib.hid hb3
            clear hb3
            refine tD 3 [.skip 9 (some 38), .skip 10 (some 39), .skip 11 (some 40), .skip 12 (some 41), .skip 13 (some 42), .skip 14 (some 43), .skip 15 (some 44), .skip 16 (some 45), .skip 17 (some 46)] trivial hS ?_
            refine oD 18 2 (stepH_not (d := some 47) (by kernel_rfl) (And.intro hS ?_))
            refine tD 0 [.skip 19 (some 48), .val 20 (some 49) (.bool false)] trivial hS ?_
            refine dD ?_
            try simp only [puts, Tk.put, Act.put, List.setIfInBounds_toArray, List.set_cons_zero, List.set_cons_succ]
            clear hS
            go_upto_region 5 with fail
            refine wp_region_fromM (fun W => Sep w [] [.blk N5 36 (bdc ((topBd ((l.take j).filter (liveBd now))).getD noB)), .blk N3 36 (bdc noB), .blk N2 45 (enc (En.mk k si pl cl l))] W) hM ?_
            clear hM
            rintro Y14 hM
            refine tF 3 [.val 0 (some 27) (.int .i64 (j : Int)), .alt 1 (some 28) (.int .i64 (IntKind.i64.wrap ((j : Int) + 1))) (.int .i64 ((j + 1 : Nat) : Int)), .val 2 (some 8) (.int .i64 ((j + 1 : Nat) : Int))] ⟨congrArg (Value.int .i64) ((IntWalk.i64_in _ (by have := HLENl.out; have := HJ.out; omega)).trans (by omega)), trivial⟩ ?_
            refine dF ?_
            try simp only [puts, Tk.put, Act.put, List.setIfInBounds_toArray, List.set_cons_zero, List.set_cons_succ]
            have hM1 := hM.sub (l' := [.blk N5 36 (bdc ((topBd ((l.take j).filter (liveBd now))).getD noB)), .blk N3 36 (bdc noB), .blk N2 45 (enc (En.mk k si pl cl l))]) (.cons_cons _ (.cons_cons _ (.cons_cons _ .slnil)))
            have HM1 := Lib.hid hM1
            clear hM hM1
            go_wp2_with fail
            go_roundw
            case rel => exact ⟨j + 1, HJ.out, fun h => by have h1 := of_decide_eq_true Hhb1.out; have h2 := of_decide_eq_true Hhb2.out; omega, rfl, by rw [(HTF.out.trans (if_neg (by show ¬ decide (now ≤ x.un) = true; rw [Hhb3.out]; decide)))], by rw [(HTF.out.trans (if_neg (by show ¬ decide (now ≤ x.un) = true; rw [Hhb3.out]; decide)))]; exact HM1.out⟩
            case measure => have := HJ.out; simp [intOf]; omega
          | true =>
            have Hhb3 := Lib.hid hb3
            clear hb3
            refine tD 11 [.val 9 (some 38) (.bool (topBd ((l.take j).filter (liveBd now))).isSome)] trivial hS ?_
            cases hb4 : (topBd ((l.take j).filter (liveBd now))).isSome with
            | false =>
              have Hhb4 := Lib.hid hb4
              clear hb4
              refine tD 3 [.val 10 (some 39) (.bool true), .val 11 (some 40) (.bool true), .skip 12 (some 41), .skip 13 (some 42), .skip 14 (some 43), .skip 15 (some 44), .skip 16 (some 45), .skip 17 (some 46)] trivial hS ?_
              refine oD 18 2 (stepH_not (d := some 47) (by kernel_rfl) (And.intro hS ?_))
              refine tD 0 [.val 19 (some 48) (.bool true), .val 20 (some 49) (.bool true)] trivial hS ?_
              refine dD ?_
              try simp only [puts, Tk.put, Act.put, List.setIfInBounds_toArray, List.set_cons_zero, List.set_cons_succ]
              clear hS
              go_upto_region 7 with fail
              refine wp_region_fromM (fun W => Sep w [] [.blk N5 36 (bdc ((topBd ((l.take j).filter (liveBd now))).getD noB)), .blk N3 36 (bdc noB), .blk N2 45 (enc (En.mk k si pl cl l))] W) hM ?_
              clear hM
              rintro Y15 hM
              refine tF 5 [.val 0 (some 50) (pt N2 10), .load 1 (some 51) 43 (pt N2 10) (.slice pl l.length cl), .val 2 (some 52) (.int .i64 (j : Int)), .idx 3 (some 53) 43 (.slice pl l.length cl) (.int .i64 (j : Int)) (pt bl ol), .load 4 (some 54) 36 (pt bl ol) (bdv x)] ⟨ld_any _ _ Tryz.underlying43 rfl (hM.at 2 rfl) 10 rfl, HIl.out _, ld_cells (bdc x) _ _ Tryz.underlying36 rfl (by kernel_rfl) (HCl.out _ (HLl.out.below hM.b HHl.out)), trivial⟩ ?_
              have hst := sto_part (bdc x) (hM.at 0 rfl) 0 36 (bdv x) (bdc x) rfl (by kernel_rfl) (Nat.le_of_ble_eq_true rfl) rfl rfl
              refine sF 36 (pt N5 0) (bdv x) (hst) ?_
              clear hst
              replace hM := hM.set 0 (cs' := bdc x) rfl rfl
              generalize World.setRow _ _ _ = Y16 at *
              refine tF 7 [.val 6 (some 7) (.bool true)] trivial ?_
              refine dF ?_
              try simp only [puts, Tk.put, Act.put, List.setIfInBounds_toArray, List.set_cons_zero, List.set_cons_succ]
              go_upto_region 5 with fail
              refine wp_region_fromM (fun W => Sep w [] [.blk N5 36 (bdc x), .blk N3 36 (bdc noB), .blk N2 45 (enc (En.mk k si pl cl l))] W) hM ?_
              clear hM
              rintro Y17 hM
              refine tF 3 [.val 0 (some 27) (.int .i64 (j : Int)), .alt 1 (some 28) (.int .i64 (IntKind.i64.wrap ((j : Int) + 1))) (.int .i64 ((j + 1 : Nat) : Int)), .val 2 (some 8) (.int .i64 ((j + 1 : Nat) : Int))] ⟨congrArg (Value.int .i64) ((IntWalk.i64_in _ (by have := HLENl.out; have := HJ.out; omega)).trans (by omega)), trivial⟩ ?_
              refine dF ?_
              try simp only [puts, Tk.put, Act.put, List.setIfInBounds_toArray, List.set_cons_zero, List.set_cons_succ]
              have hM1 := hM.sub (l' := [.blk N5 36 (bdc x), .blk N3 36 (bdc noB), .blk N2 45 (enc (En.mk k si pl cl l))]) (.cons_cons _ (.cons_cons _ (.cons_cons _ .slnil)))
              have HM1 := Lib.hid hM1
              clear hM hM1
              go_wp2_with fail
              go_roundw
              case rel => exact ⟨j + 1, HJ.out, fun h => by have h1 := of_decide_eq_true Hhb1.out; have h2 := of_decide_eq_true Hhb2.out; omega, rfl, by rw [((HTF.out.trans (if_pos Hhb3.out)).trans (step_no Hhb4.out))]; rfl, by rw [((HTF.out.trans (if_pos Hhb3.out)).trans (step_no Hhb4.out))]; exact HM1.out⟩
              case measure => have := HJ.out; simp [intOf]; omega
            | true =>
              have Hhb4 := Lib.hid hb4
              clear hb4
              refine tD 3 [.val 10 (some 39) (.bool false), .val 11 (some 40) (.bool false), .val 12 (some 41) (pt N2 10), .load 13 (some 42) 43 (pt N2 10) (.slice pl l.length cl), .val 14 (some 43) (.int .i64 (j : Int)), .idx 15 (some 44) 43 (.slice pl l.length cl) (.int .i64 (j : Int)) (pt bl ol), .load 16 (some 45) 36 (pt bl ol) (bdv x), .load 17 (some 46) 36 (pt N5 0) (bdv ((topBd ((l.take j).filter (liveBd now))).getD noB))] ⟨fun W h => ld_any _ _ Tryz.underlying43 rfl (h.at 2 rfl) 10 rfl, fun W h => HIl.out _, fun W h => ld_cells (bdc x) _ _ Tryz.underlying36 rfl (by kernel_rfl) (HCl.out _ (HLl.out.below h.b HHl.out)), fun W h => load_part (h.at 0 rfl) 0 (bdc ((topBd ((l.take j).filter (liveBd now))).getD noB)) rfl _ _ Tryz.underlying36 rfl (by kernel_rfl), trivial⟩ hS ?_
              refine oD 18 2 (cD (some 47) 38 #[bdv x, bdv ((topBd ((l.take j).filter (liveBd now))).getD noB)] ((better19_any x ((topBd ((l.take j).filter (liveBd now))).getD noB) _ (HOB.out _ (List.mem_of_getElem? HXl.out)) (top_ok fun y hy => HOB.out y (List.mem_of_mem_take (List.mem_filter.1 hy).1))).mono ?_))
              rintro e Y18 ⟨rfl, hb⟩
              refine And.intro (hS.below hb) ?_
              replace hS := hS.below hb
              replace hM := hM.below hb
              clear hb
              refine tD 0 [.val 19 (some 48) (.bool (betB x ((topBd ((l.take j).filter (liveBd now))).getD noB))), .val 20 (some 49) (.bool (betB x ((topBd ((l.take j).filter (liveBd now))).getD noB)))] trivial hS ?_
              refine dD ?_
              try simp only [puts, Tk.put, Act.put, List.setIfInBounds_toArray, List.set_cons_zero, List.set_cons_succ]
              clear hS
              cases hb5 : betB x ((topBd ((l.take j).filter (liveBd now))).getD noB) with
              | false =>
                have Hhb5 := Lib.hid hb5
                clear hb5
                go_upto_region 5 with fail
                refine wp_region_fromM (fun W => Sep w [] [.blk N5 36 (bdc ((topBd ((l.take j).filter (liveBd now))).getD noB)), .blk N3 36 (bdc noB), .blk N2 45 (enc (En.mk k si pl cl l))] W) hM ?_
                clear hM
                rintro Y19 hM
                refine tF 3 [.val 0 (some 27) (.int .i64 (j : Int)), .alt 1 (some 28) (.int .i64 (IntKind.i64.wrap ((j : Int) + 1))) (.int .i64 ((j + 1 : Nat) : Int)), .val 2 (some 8) (.int .i64 ((j + 1 : Nat) : Int))] ⟨congrArg (Value.int .i64) ((IntWalk.i64_in _ (by have := HLENl.out; have := HJ.out; omega)).trans (by omega)), trivial⟩ ?_
                refine dF ?_
                try simp only [puts, Tk.put, Act.put, List.setIfInBounds_toArray, List.set_cons_zero, List.set_cons_succ]
                have hM1 := hM.sub (l' := [.blk N5 36 (bdc ((topBd ((l.take j).filter (liveBd now))).getD noB)), .blk N3 36 (bdc noB), .blk N2 45 (enc (En.mk k si pl cl l))]) (.cons_cons _ (.cons_cons _ (.cons_cons _ .slnil)))
                have HM1 := Lib.hid hM1
                clear hM hM1
                go_wp2_with fail
                go_roundw
                case rel => exact ⟨j + 1, HJ.out, fun h => by have h1 := of_decide_eq_true Hhb1.out; have h2 := of_decide_eq_true Hhb2.out; omega, rfl, by rw [((HTF.out.trans (if_pos Hhb3.out)).trans (step_not Hhb4.out Hhb5.out))]; exact congrArg Value.bool Hhb4.out.symm, by rw [((HTF.out.trans (if_pos Hhb3.out)).trans (step_not Hhb4.out Hhb5.out))]; exact HM1.out⟩
                case measure => have := HJ.out; simp [intOf]; omega
              | true =>
                have Hhb5 := Lib.hid hb5
                clear hb5
                go_upto_region 7 with fail
                refine wp_region_fromM (fun W => Sep w [] [.blk N5 36 (bdc ((topBd ((l.take j).filter (liveBd now))).getD noB)), .blk N3 36 (bdc noB), .blk N2 45 (enc (En.mk k si pl cl l))] W) hM ?_
                clear hM
                rintro Y20 hM
                refine tF 5 [.val 0 (some 50) (pt N2 10), .load 1 (some 51) 43 (pt N2 10) (.slice pl l.length cl), .val 2 (some 52) (.int .i64 (j : Int)), .idx 3 (some 53) 43 (.slice pl l.length cl) (.int .i64 (j : Int)) (pt bl ol), .load 4 (some 54) 36 (pt bl ol) (bdv x)] ⟨ld_any _ _ Tryz.underlying43 rfl (hM.at 2 rfl) 10 rfl, HIl.out _, ld_cells (bdc x) _ _ Tryz.underlying36 rfl (by kernel_rfl) (HCl.out _ (HLl.out.below hM.b HHl.out)), trivial⟩ ?_
                have hst := sto_part (bdc x) (hM.at 0 rfl) 0 36 (bdv x) (bdc x) rfl (by kernel_rfl) (Nat.le_of_ble_eq_true rfl) rfl rfl
                refine sF 36 (pt N5 0) (bdv x) (hst) ?_
                clear hst
                replace hM := hM.set 0 (cs' := bdc x) rfl rfl
                generalize World.setRow _ _ _ = Y21 at *
                refine tF 7 [.val 6 (some 7) (.bool true)] trivial ?_
                refine dF ?_
                try simp only [puts, Tk.put, Act.put, List.setIfInBounds_toArray, List.set_cons_zero, List.set_cons_succ]
                go_upto_region 5 with fail
                refine wp_region_fromM (fun W => Sep w [] [.blk N5 36 (bdc x), .blk N3 36 (bdc noB), .blk N2 45 (enc (En.mk k si pl cl l))] W) hM ?_
                clear hM
                rintro Y22 hM
                refine tF 3 [.val 0 (some 27) (.int .i64 (j : Int)), .alt 1 (some 28) (.int .i64 (IntKind.i64.wrap ((j : Int) + 1))) (.int .i64 ((j + 1 : Nat) : Int)), .val 2 (some 8) (.int .i64 ((j + 1 : Nat) : Int))] ⟨congrArg (Value.int .i64) ((IntWalk.i64_in _ (by have := HLENl.out; have := HJ.out; omega)).trans (by omega)), trivial⟩ ?_
                refine dF ?_
                try simp only [puts, Tk.put, Act.put, List.setIfInBounds_toArray, List.set_cons_zero, List.set_cons_succ]
                have hM1 := hM.sub (l' := [.blk N5 36 (bdc x), .blk N3 36 (bdc noB), .blk N2 45 (enc (En.mk k si pl cl l))]) (.cons_cons _ (.cons_cons _ (.cons_cons _ .slnil)))
                have HM1 := Lib.hid hM1
                clear hM hM1
                go_wp2_with fail
                go_roundw
                case rel => exact ⟨j + 1, HJ.out, fun h => by have h1 := of_decide_eq_true Hhb1.out; have h2 := of_decide_eq_true Hhb2.out; omega, rfl, by rw [((HTF.out.trans (if_pos Hhb3.out)).trans (step_yes Hhb4.out Hhb5.out))]; rfl, by rw [((HTF.out.trans (if_pos Hhb3.out)).trans (step_yes Hhb4.out Hhb5.out))]; exact HM1.out⟩
                case measure => have := HJ.out; simp [intOf]; omega
    case neg =>
      obtain rfl : j = l.length := by omega
      go_upto_region 4 with fail
      refine wp_region_fromM (fun W => Sep w [] [.blk N5 36 (bdc ((topBd ((l.take l.length).filter (liveBd now))).getD noB)), .blk N3 36 (bdc noB), .blk N2 45 (enc (En.mk k si pl cl l))] W) hM ?_
      clear hM
      rintro Y23 hM
      refine tF 18 [.val 0 (some 9) (.int .i64 (l.length : Int)), .val 1 (some 10) (pt N2 10), .load 2 (some 11) 43 (pt N2 10) (.slice pl l.length cl), .val 3 (some 12) (.int .i64 (l.length : Int)), .alt 4 (some 13) (.bool (decide ((l.length : Int) < (l.length : Int)))) (.bool false), .val 5 (some 14) (.bool false), .skip 6 (some 15), .skip 7 (some 16), .skip 8 (some 17), .skip 9 (some 18), .val 10 (some 19) (.bool false), .val 11 (some 20) (.bool false), .skip 12 (some 21), .skip 13 (some 22), .skip 14 (some 23), .skip 15 (some 24), .skip 16 (some 25), .val 17 (some 26) (.bool false)] ⟨ld_any _ _ Tryz.underlying43 rfl (hM.at 2 rfl) 10 rfl, congrArg Value.bool (decide_eq_false (by omega)), trivial⟩ ?_
      refine dF ?_
      try simp only [puts, Tk.put, Act.put, List.setIfInBounds_toArray, List.set_cons_zero, List.set_cons_succ]
      go_upto_region 8 with fail
      refine wp_region_fromM (fun W => Sep w [] [.blk N5 36 (bdc ((topBd ((l.take l.length).filter (liveBd now))).getD noB)), .blk N3 36 (bdc noB), .blk N2 45 (enc (En.mk k si pl cl l))] W) hM ?_
      clear hM
      rintro Y24 hM
      refine tF 2 [.load 0 (some 55) 36 (pt N5 0) (bdv ((topBd ((l.take l.length).filter (liveBd now))).getD noB)), .val 1 (some 56) (.bool (topBd ((l.take l.length).filter (liveBd now))).isSome)] ⟨load_part (hM.at 0 rfl) 0 (bdc ((topBd ((l.take l.length).filter (liveBd now))).getD noB)) rfl _ _ Tryz.underlying36 rfl (by kernel_rfl), trivial⟩ ?_
      have hst := sto_part (bdc ((topBd ((l.take l.length).filter (liveBd now))).getD noB)) (hM.at 1 rfl) 0 36 (bdv ((topBd ((l.take l.length).filter (liveBd now))).getD noB)) (bdc ((topBd ((l.take l.length).filter (liveBd now))).getD noB)) rfl (by kernel_rfl) (Nat.le_of_ble_eq_true rfl) rfl rfl
      refine sF 36 (pt N3 0) (bdv ((topBd ((l.take l.length).filter (liveBd now))).getD noB)) (hst) ?_
      clear hst
      replace hM := hM.set 1 (cs' := bdc ((topBd ((l.take l.length).filter (liveBd now))).getD noB)) rfl rfl
      generalize World.setRow _ _ _ = Y25 at *
      refine tF 4 [.val 3 (some 5) (.bool (topBd ((l.take l.length).filter (liveBd now))).isSome)] trivial ?_
      refine dF ?_
      try simp only [puts, Tk.put, Act.put, List.setIfInBounds_toArray, List.set_cons_zero, List.set_cons_succ]
      go_wp2_with fail
      exact bodyPost_ret (v := .tuple #[bdv ((topBd ((l.take l.length).filter (liveBd now))).getD noB), .bool (topBd ((l.take l.length).filter (liveBd now))).isSome]) (res_two rfl _ rfl rfl (lv_bd (hM.at 1 rfl))) rfl ⟨by rw [best_all HEA.out], hM.b⟩
end Go.Proofs.YtbhfajnejibaoaaGreat
namespace Go.Proofs.YtbhfajnejibaoaaGreat
open Go.RowKit Go.Shelf
def routerB : ByteArray := ⟨#[114, 111, 117, 116, 101, 114]⟩
def seedB (r : Int) : ByteArray := routerB ++ ⟨(octs (two r) 1).toArray⟩
set_option maxRecDepth 100000 in
theorem seed8_any (r : Int) (w : World) :
    Calls Tryz.prog 7 #[.int .i64 r] w fun e W' => e = .returned (.string (seedB r)) ∧ Below w.heap.size w W' := by
  have HN := Lib.hid (fun W => num_any r 1 (by omega) (by omega) W)
  have HS : Hid (seedB r = routerB ++ ⟨(octs (two r) 1).toArray⟩) := Lib.hid rfl
  have h1 : clamp 1 = 1 := rfl
  rw [h1] at HN
  have hl : ¬ 9223372036854775807 < 6 + (octs (two r) 1).length := by rw [octs_length]; omega
  generalize octs (two r) 1 = l at *
  go_enter Tryz.func7, Tryz.ntmps7
  go_wp2_with (go_at_call 20; refine (HN.out _).mono ?_; rintro e W1 ⟨sv, rfl, hsv, hb⟩; have hcv := str_of _ hsv)
  go_ret
  exact ⟨by rw [HS.out]; rfl, hb⟩
end Go.Proofs.YtbhfajnejibaoaaGreat
namespace Go.Proofs.YtbhfajnejibaoaaGreat
open Go.RowKit Go.Shelf
attribute [local irreducible] wpFrom wpAnyH StepH
theorem seed_small (r : Int) : (seedB r).size ≤ 140737488352000 := by
  unfold seedB
  rw [ByteArray.size_append]
  show 6 + (octs (two r) 1).toArray.size ≤ _
  rw [List.size_toArray, octs_length]
  decide
abbrev rho2 : ByteArray := rootB (seedB 2)
abbrev rho3 : ByteArray := rootB (seedB 3)
abbrev Bd.ask (b : Bd) (k : Ak) : Bd := ⟨b.ro, k, b.b0, b.b1, b.b2, b.b3, b.un, b.sg⟩
def gotL (c : Bool) (b : Bd) : List Bd := if c = true then [b] else []
def accB (r0 r1 : ByteArray) (now : Int) (b : Bd) : Bool := decide (now ≤ b.un) && validB b (rootR (Rm.mk r0 r1 [] []) b.ro)
theorem got_len (c : Bool) (b : Bd) : (gotL c b).length ≤ 1 := by unfold gotL; split <;> simp
theorem got_mem {c : Bool} {b x : Bd} (h : x ∈ gotL c b) : x = b := by
  unfold gotL at h
  split at h
  · exact List.mem_singleton.1 h
  · cases h
theorem open_new {r0 r1 : ByteArray} {k : Ak} (h : (errA k != 0) = false) : openR (Rm.mk r0 r1 [] []) k 1 = (Rm.mk r0 r1 [⟨k, 1⟩] [], 0) := open_yes h rfl rfl rfl
theorem bid_two {r0 r1 : ByteArray} {k : Ak} {bs : List Bd} {b : Bd} {now : Int} (hk : b.k = k) (hf : forB bs k (byB b.ro) = []) : bidR (validB b (rootR (Rm.mk r0 r1 [⟨k, 1⟩] bs) b.ro)) (Rm.mk r0 r1 [⟨k, 1⟩] bs) b now = (Rm.mk r0 r1 [⟨k, 1⟩] (bs ++ gotL (accB r0 r1 now b) b), accB r0 r1 now b) := by
  have ht : takesB (validB b (rootR (Rm.mk r0 r1 [⟨k, 1⟩] bs) b.ro)) (Rm.mk r0 r1 [⟨k, 1⟩] bs) b now = accB r0 r1 now b := by
    unfold takesB accB
    rw [hk, show forB (Rm.mk r0 r1 [⟨k, 1⟩] bs).bs k (byB b.ro) = [] from hf, show (openL (Rm.mk r0 r1 [⟨k, 1⟩] bs).ls k).isSome = true by unfold openL isA; simp]
    rw [Bool.true_and]
    show (_ && (_ && true)) = _
    rw [Bool.and_true]
    rfl
  unfold bidR
  rw [ht]
  unfold gotL
  split
  · rename_i h; rw [h]
  · rename_i h; rw [List.append_nil, Bool.eq_false_iff.2 h]
theorem got_by {c : Bool} {a b : Bd} {k : Ak} (h : ¬ a.ro = b.ro) : forB ([] ++ gotL c a) k (byB b.ro) = [] := List.filter_eq_nil_iff.2 fun x hx e => by
  obtain rfl := got_mem hx
  unfold fitBd byB at e
  rw [Bool.and_eq_true] at e
  exact h (of_decide_eq_true e.2)
theorem pick_comm {a b : Bd} (h : ¬ a.ro = b.ro) : pickB a b = pickB b a := by
  unfold pickB
  by_cases h1 : betB b a = true
  · rw [if_pos h1, if_neg (by rw [betB_asym h1]; decide)]
  · rw [if_neg h1]
    have : betB a b = true := by
      unfold betB at *
      simp only [decide_eq_true_eq] at *
      omega
    rw [if_pos this]
theorem best_two {r0 r1 : ByteArray} {a b : Bd} {now : Int} (hk : b.k = a.k) (h : ¬ a.ro = b.ro) : bestR (Rm.mk r0 r1 [⟨a.k, 1⟩] (([] ++ gotL (accB r0 r1 now b) b) ++ gotL (accB r0 r1 now a) a)) a.k now = bestR (Rm.mk r0 r1 [⟨a.k, 1⟩] (([] ++ gotL (accB r0 r1 now a) a) ++ gotL (accB r0 r1 now b) b)) a.k now := by
  have ho : openL [(⟨a.k, 1⟩ : Lt)] a.k = some ⟨a.k, 1⟩ := by unfold openL isA; simp
  have hA : accB r0 r1 now a = true → fitBd a.k (liveBd now) a = true := fun e => by
    unfold accB at e
    rw [Bool.and_eq_true] at e
    unfold fitBd liveBd
    rw [e.1]; simp
  have hB : accB r0 r1 now b = true → fitBd a.k (liveBd now) b = true := fun e => by
    unfold accB at e
    rw [Bool.and_eq_true] at e
    unfold fitBd liveBd
    rw [e.1, hk]; simp
  unfold bestR
  rw [show (Rm.mk r0 r1 [⟨a.k, 1⟩] (([] ++ gotL (accB r0 r1 now b) b) ++ gotL (accB r0 r1 now a) a)).ls = [⟨a.k, 1⟩] from rfl, ho]
  show bestL _ _ _ _ = bestL _ _ _ _
  unfold bestL
  congr 1
  show topBd (List.filter _ _) = topBd (List.filter _ _)
  rw [List.nil_append, List.nil_append, List.filter_append, List.filter_append]
  generalize accB r0 r1 now a = ca at *
  generalize accB r0 r1 now b = cb at *
  cases ca <;> cases cb
  · rfl
  · simp [gotL, hB rfl]
  · simp [gotL, hA rfl]
  · simp only [gotL, if_true, List.filter_cons, hA rfl, hB rfl, List.filter_nil]
    show some (pickB b a) = some (pickB a b)
    rw [pick_comm h]
theorem two_len (c d : Bool) (a b : Bd) : (([] ++ gotL c a) ++ gotL d b).length ≤ 1000 := by
  have h1 := got_len c a
  have h2 := got_len d b
  rw [List.length_append, List.nil_append]
  omega
theorem two_ok {c d : Bool} {a b : Bd} (ha : OkB a) (hb : OkB b) : ∀ x ∈ ([] ++ gotL c a) ++ gotL d b, OkB x := fun x hx => by
  rcases List.mem_append.1 hx with hx | hx
  · obtain rfl := got_mem hx; exact ha
  · obtain rfl := got_mem hx; exact hb
theorem one_si {k : Ak} : OkL [⟨k, 1⟩] := fun x hx => by
  obtain rfl := List.mem_singleton.1 hx
  exact ⟨show (0 : Int) ≤ 1 by decide, show (1 : Int) ≤ 1099511627776 by decide⟩
end Go.Proofs.YtbhfajnejibaoaaGreat
namespace Go.Proofs.YtbhfajnejibaoaaGreat
open Go.RowKit Go.Shelf
structure Oq where
  kd : Int
  b : Bd
  nw : Int
abbrev oqc (x : Oq) : List Value := .int .i64 x.kd :: (bdc x.b ++ [.int .i64 x.nw])
abbrev oqv (x : Oq) : Value := .agg (oqc x).toArray
def noO : Oq := ⟨0, noB, 0⟩
theorem oqc_len (x : Oq) : (oqc x).length = 18 := rfl
structure OkO (x : Oq) : Prop where
  b : OkB x.b
  n : x.nw ≤ 9223372036854775807
theorem open_err39 {R : Rm} {a : Ak} {now : Int} (h : (errA a != 0) = true) : openR R a now = (R, 39) := by
  rw [open_err h]
  unfold errA at *
  split
  · rename_i h1; rw [if_pos h1] at h; cases h
  · rfl
theorem is_yes {es : List En} {a : Ak} {e : En} (h : es.find? (isEn a) = some e) : (openL (es.map toLt) a).isSome = true := by rw [open_map, h]; rfl
theorem is_no {es : List En} {a : Ak} (h : ∀ e ∈ es, ¬ e.k = a) : (openL (es.map toLt) a).isSome = false := by rw [open_none h]; rfl
theorem takes_en {V : Bool} {R : Rm} {b : Bd} {now : Int} {e : En} (ho : (openL R.ls b.k).isSome = true) (hb : e.bs = forB R.bs b.k anyB) : takesB V R b now = (decide (now ≤ b.un) && (V && !(e.bs.any (byB b.ro)))) := by
  unfold takesB
  rw [ho, Bool.true_and]
  congr 2
  rw [hb]
  have : forB R.bs b.k (byB b.ro) = (forB R.bs b.k anyB).filter (byB b.ro) := by
    unfold forB
    rw [List.filter_filter]
    congr 1
    funext x
    unfold fitBd anyB
    rw [Bool.and_true, Bool.and_comm]
  rw [this]
  generalize forB R.bs b.k anyB = l
  induction l with
  | nil => rfl
  | cons x l ih =>
    rw [List.filter_cons, List.any_cons]
    cases byB b.ro x
    · rw [if_neg (by decide), ih, Bool.false_or]
    · rfl
theorem any_of_take {l : List Bd} {k : Nat} {p : Bd → Bool} (h : (l.take k).any p = true) : l.any p = true := by
  rw [List.any_eq_true] at *
  obtain ⟨x, hx, hp⟩ := h
  exact ⟨x, List.mem_of_mem_take hx, hp⟩
theorem valid_ro {b : Bd} {r : ByteArray} (h2 : ¬ b.ro = 2) (h3 : ¬ b.ro = 3) : validB b r = false := by
  unfold validB
  rw [decide_eq_false (fun h : maybeB b => by have := h.1; omega), Bool.false_and]
section
variable {es : List En} {bs : List Bd} {b : Bd} {now : Int} {e : En} {r0 r1 : ByteArray}
theorem bid_noN (h : ∀ e ∈ es, ¬ e.k = b.k) : bidR (validB b (rootR (Rm.mk r0 r1 (es.map toLt) bs) b.ro)) (Rm.mk r0 r1 (es.map toLt) bs) b now = (Rm.mk r0 r1 (es.map toLt) bs, false) := bid_no (takes_no1 (is_no h))
theorem best_en (hf : es.find? (isEn e.k) = some e) (hb : e.bs = forB bs e.k anyB) : bestR (Rm.mk r0 r1 (es.map toLt) bs) e.k now = bestE e.bs now e.si := best_rm (by show openL (es.map toLt) e.k = _; rw [open_map, hf]; rfl) hb
theorem open_fullE {a : Ak} (h : (errA a != 0) = false) (h' : ∀ e ∈ es, ¬ e.k = a) (h3 : decide (8 ≤ (es.length : Int)) = true) : openR (Rm.mk r0 r1 (es.map toLt) bs) a now = (Rm.mk r0 r1 (es.map toLt) bs, 10) := open_full h (is_no h') (by show decide (8 ≤ ((es.map toLt).length : Int)) = true; rw [List.length_map]; exact h3)
theorem open_yesE {a : Ak} {z : Int} (h : (errA a != 0) = false) (h' : ∀ e ∈ es, ¬ e.k = a) (h3 : decide (8 ≤ (es.length : Int)) = false) (hz : sinceI now = z) : openR (Rm.mk r0 r1 (es.map toLt) bs) a now = (Rm.mk r0 r1 ((es ++ [En.mk a z none 0 []]).map toLt) bs, 0) := by
  rw [List.map_append]
  exact open_yes h (is_no h') (by show decide (8 ≤ ((es.map toLt).length : Int)) = false; rw [List.length_map]; exact h3) hz
theorem open_isE {a : Ak} (h : (errA a != 0) = false) (hf : es.find? (isEn a) = some e) : openR (Rm.mk r0 r1 (es.map toLt) bs) a now = (Rm.mk r0 r1 (es.map toLt) bs, 32) := open_is h (is_yes hf)
end
end Go.Proofs.YtbhfajnejibaoaaGreat
namespace Go.Proofs.YtbhfajnejibaoaaGreat
open Go.RowKit Go.Shelf
inductive Sl where
  | k (v : Value)
  | s (i : Nat)
def fillS : List Sl → (Nat → Value) → List Value
  | [], _ => []
  | .k v :: p, s => v :: fillS p s
  | .s i :: p, s => s i :: fillS p s
def fillZ : List Sl → List Value → List Value
  | [], _ => []
  | _ :: _, [] => [undef]
  | .k v :: p, _ :: l => v :: fillZ p l
  | .s _ :: p, u :: l => u :: fillZ p l
def numb : List Sl → Nat → Bool
  | [], _ => true
  | .k _ :: p, n => numb p (n + 1)
  | .s i :: p, n => Nat.beq i n && numb p (n + 1)
def nth (l : List Value) (i : Nat) : Value := (l[i]?).getD undef
theorem nth_at (pre : List Value) (u : Value) (l : List Value) : nth (pre ++ u :: l) pre.length = u := by
  unfold nth
  rw [List.getElem?_append_right (Nat.le_refl _), Nat.sub_self]
  rfl
theorem fill_nth : ∀ {p : List Sl} {n : Nat}, numb p n = true → ∀ {pre l : List Value}, pre.length = n → fillZ p l = l → fillS p (nth (pre ++ l)) = l
  | [], _, _, _, _, _, h => h
  | q :: p, _, _, _, [], _, h => by cases q <;> cases h
  | .k v :: p, n, hn, pre, u :: l, hp, h => by
    have h1 : v :: fillZ p l = u :: l := h
    obtain ⟨rfl, h2⟩ := List.cons.inj h1
    have := fill_nth (p := p) (n := n + 1) hn (pre := pre ++ [v]) (l := l) (by rw [List.length_append, hp]; rfl) h2
    rw [List.append_assoc] at this
    exact congrArg (v :: ·) this
  | .s i :: p, n, hn, pre, u :: l, hp, h => by
    have h1 : u :: fillZ p l = u :: l := h
    obtain ⟨_, h2⟩ := List.cons.inj h1
    have hn' : (Nat.beq i n && numb p (n + 1)) = true := hn
    rw [Bool.and_eq_true] at hn'
    obtain rfl : i = n := Nat.eq_of_beq_eq_true hn'.1
    have := fill_nth (p := p) (n := i + 1) hn'.2 (pre := pre ++ [u]) (l := l) (by rw [List.length_append, hp]; rfl) h2
    rw [List.append_assoc] at this
    show nth (pre ++ u :: l) i :: fillS p (nth (pre ++ u :: l)) = u :: l
    rw [← hp, nth_at]
    exact congrArg (u :: ·) this
theorem fill_all {p : List Sl} {l : List Value} (hn : numb p 0 = true) (h : fillZ p l = l) : fillS p (nth l) = l := fill_nth hn (pre := []) rfl h
section
variable {P : Program} {c : Code} {W : World} {l : List Value}
theorem wp_loop_fit {Q : Exit → Act → World → Prop} (p : List Sl) (R : (Nat → Value) → World → Prop) (mu : (Nat → Value) → World → Nat) (hn : numb p 0 = true) (hl : fillZ p l = l) (h0 : R (nth l) W)
    (round : ∀ s w, R s w → ∀ (J K : Act → World → Prop), (∀ l' w', fillZ p l' = l' → R (nth l') w' → mu (nth l') w' < mu s w → J ⟨l'.toArray, []⟩ w') → (∀ a' w', Met J a' w' → K a' w') → c.wp P (Exit.then K Q) ⟨(fillS p s).toArray, []⟩ w) : (Code.loop c).wp P Q ⟨l.toArray, []⟩ W := by
  classical
  let g : Act → World → Nat := fun a w => if h : ∃ s, R s w ∧ a = ⟨(fillS p s).toArray, []⟩ then leastOf (fun n => ∃ s, R s w ∧ a = ⟨(fillS p s).toArray, []⟩ ∧ mu s w = n) else 0
  refine wp_loop (fun a w => ∃ s, R s w ∧ a = ⟨(fillS p s).toArray, []⟩) g ⟨nth l, h0, by rw [fill_all hn hl]⟩ ?_
  intro a w hI
  have hex : ∃ n, ∃ s, R s w ∧ a = ⟨(fillS p s).toArray, []⟩ ∧ mu s w = n := by
    obtain ⟨s, h1, h2⟩ := hI
    exact ⟨_, s, h1, h2, rfl⟩
  have hga : g a w = leastOf (fun n => ∃ s, R s w ∧ a = ⟨(fillS p s).toArray, []⟩ ∧ mu s w = n) := dif_pos hI
  obtain ⟨⟨s, h1, h2, h3⟩, _⟩ := leastOf_spec hex
  rw [hga, ← h3]
  subst h2
  refine round s w h1 _ _ (fun l' w' e1 e2 e3 => ?_) (fun _ _ h => h)
  have hI' : ∃ s, R s w' ∧ (⟨l'.toArray, []⟩ : Act) = ⟨(fillS p s).toArray, []⟩ := ⟨nth l', e2, by rw [fill_all hn e1]⟩
  refine ⟨hI', ?_⟩
  have hgb : g ⟨l'.toArray, []⟩ w' = leastOf (fun n => ∃ s, R s w' ∧ (⟨l'.toArray, []⟩ : Act) = ⟨(fillS p s).toArray, []⟩ ∧ mu s w' = n) := dif_pos hI'
  rw [hgb]
  exact Nat.lt_of_le_of_lt ((leastOf_spec ⟨mu (nth l') w', nth l', e2, by rw [fill_all hn e1], rfl⟩).2 _ ⟨nth l', e2, by rw [fill_all hn e1], rfl⟩) e3
theorem wp_cut_fit {K : Act → World → Prop} {Q' : Exit → Act → World → Prop} (p : List Sl) (R : (Nat → Value) → World → Prop) (hn : numb p 0 = true) (rest : ∀ s w', R s w' → K ⟨(fillS p s).toArray, []⟩ w')
    (first : ∀ (J K' : Act → World → Prop), (∀ l' w', fillZ p l' = l' → R (nth l') w' → J ⟨l'.toArray, []⟩ w') → (∀ a' w', Met J a' w' → K' a' w') → c.wp P (Exit.then K' Q') ⟨l.toArray, []⟩ W) : c.wp P (Exit.then K Q') ⟨l.toArray, []⟩ W :=
  wp_cut (fun a w => ∃ s, R s w ∧ a = ⟨(fillS p s).toArray, []⟩) (fun a' w' ⟨s, h1, h2⟩ => by subst h2; exact rest s w' h1)
    fun J K' hJ hK => first J K' (fun l' w' e1 e2 => hJ _ _ ⟨nth l', e2, by rw [fill_all hn e1]⟩) hK
end
end Go.Proofs.YtbhfajnejibaoaaGreat
namespace Go.Proofs.YtbhfajnejibaoaaGreat
open Go.ChangeShapes Go.WideShapes Go.ChangeAt Go.RowKit
theorem Tryz.own : ownKnob Tryz.prog.godebug = none := by kernel_rfl
theorem Tryz.laidOut : laidOutB Tryz.prog = true := by kernel_rfl
theorem wf_i64 {x : Int} (h : (Lit.int .i64 x).wf = true) : -9223372036854775808 ≤ x ∧ x ≤ 9223372036854775807 := by
  simp [Lit.wf, IntKind.min, IntKind.max, IntKind.bits, IntKind.signed] at h
  omega
theorem list_of {α : Type} {Q : Nat → α → Prop} : ∀ {n : Nat}, (∀ i, i < n → ∃ x, Q i x) → ∃ l : List α, l.length = n ∧ ∀ k x, l[k]? = some x → Q k x
  | 0, _ => ⟨[], rfl, fun k x h => by simp at h⟩
  | n + 1, h => by
    obtain ⟨l, hl, hq⟩ := list_of (n := n) (fun i hi => h i (by omega))
    obtain ⟨y, hy⟩ := h n (by omega)
    refine ⟨l ++ [y], by simp [hl], fun k x hx => ?_⟩
    by_cases hk : k < n
    · rw [List.getElem?_append_left (by omega)] at hx
      exact hq k x hx
    · rw [List.getElem?_append_right (by omega)] at hx
      have : k = n := by
        have := (List.getElem?_eq_some_iff.1 hx).1
        simp at this
        omega
      subst this
      simp [hl] at hx
      rw [← hx]; exact hy
theorem add_plain (b off q : Nat) : (⟨b, off, none⟩ : Addr).add q = ⟨b, off + q, none⟩ := by cases q <;> simp [Addr.add]
end Go.Proofs.YtbhfajnejibaoaaGreat
namespace Go.Proofs.YtbhfajnejibaoaaGreat
open Go.ChangeShapes Go.WideShapes Go.ChangeAt Go.RowKit
theorem Tryz.cells24 : Tryz.prog.cellsOf 32 = 4 := by kernel_rfl
theorem Tryz.cells22 : Tryz.prog.cellsOf 30 = 1 := by kernel_rfl
theorem wf_u64 {x : Int} (h : (Lit.int .u64 x).wf = true) : ∃ n : Nat, x = (n : Int) ∧ n < M := by
  have h' : 0 ≤ x ∧ x < 18446744073709551616 := by
    simp [Lit.wf, IntKind.min, IntKind.max, IntKind.bits, IntKind.signed] at h
    omega
  obtain ⟨n, rfl⟩ := Int.eq_ofNat_of_zero_le h'.1
  exact ⟨n, rfl, by unfold M; omega⟩
end Go.Proofs.YtbhfajnejibaoaaGreat
namespace Go.Proofs.YtbhfajnejibaoaaGreat
theorem Tryz.cellsInt : Tryz.prog.cellsOf 3 = 1 := by kernel_rfl
theorem Tryz.cellsStr : Tryz.prog.cellsOf 9 = 1 := by kernel_rfl
end Go.Proofs.YtbhfajnejibaoaaGreat
namespace Go.Proofs.YtbhfajnejibaoaaGreat
open Go.ChangeShapes Go.WideShapes Go.ChangeAt Go.RowKit Go.Deep
theorem Tryz.cellsAsk : Tryz.prog.cellsOf 34 = 9 := by kernel_rfl
theorem Tryz.cellsBid : Tryz.prog.cellsOf 36 = 16 := by kernel_rfl
theorem trod_wide {H : Type} {enc : TypeId × Value → H} {w : World} {base : Nat} {spare : Nat → Bool} {held : Bool} {fuel : Nat} {c0 c1 c2 c3 : Value} {x : DataW H × List MemPlace}
    (h : DataW.trod enc Tryz.prog w base spare held fuel 32 [c0, c1, c2, c3] = some x) :
    ∃ a0 a1 a2 a3 : Nat, c0 = .int .u64 (a0 : Int) ∧ c1 = .int .u64 (a1 : Int) ∧ c2 = .int .u64 (a2 : Int) ∧ c3 = .int .u64 (a3 : Int) ∧ Ok4 a0 a1 a2 a3 := by
  obtain ⟨u0, u1, u2, u3, m, hx3, g0, g1, g2, g3⟩ := trod_array4 Tryz.underlying32 Tryz.cells22 h
  obtain ⟨v0, k0, _, wg0⟩ := DataW.trod_int Tryz.underlying30 g0
  obtain ⟨v1, k1, _, wg1⟩ := DataW.trod_int Tryz.underlying30 g1
  obtain ⟨v2, k2, _, wg2⟩ := DataW.trod_int Tryz.underlying30 g2
  obtain ⟨v3, k3, _, wg3⟩ := DataW.trod_int Tryz.underlying30 g3
  obtain ⟨a0, rfl, q0⟩ := wf_u64 wg0
  obtain ⟨a1, rfl, q1⟩ := wf_u64 wg1
  obtain ⟨a2, rfl, q2⟩ := wf_u64 wg2
  obtain ⟨a3, rfl, q3⟩ := wf_u64 wg3
  simp at k0 k1 k2 k3
  exact ⟨a0, a1, a2, a3, k0, k1, k2, k3, ⟨q0, q1, q2, q3⟩⟩
set_option maxRecDepth 100000 in
theorem trod_ask {H : Type} {enc : TypeId × Value → H} {w : World} {base : Nat} {spare : Nat → Bool} {held : Bool} {fuel : Nat} {cs : List Value} {x : DataW H × List MemPlace}
    (h : DataW.trod enc Tryz.prog w base spare held fuel 34 cs = some x) :
    ∃ a : Ak, cs = akc a ∧ OkA a := by
  obtain ⟨xs, n, _, hx, hcl, hlen, hg⟩ := DataW.trod_struct Tryz.underlying34 h
  rw [Tryz.cellsAsk] at hcl
  match cs, hcl with
  | [c0, c1, c2, c3, c4, c5, c6, c7, c8], _ =>
  match xs, hlen with
  | [y0, y1, y2, y3, y4, y5], _ =>
  have h0 := hg 0 ⟨ "User", 3, 0, false, "", "", 0⟩ rfl
  have h1 := hg 1 ⟨ "Send", 3, 1, false, "", "", 8⟩ rfl
  have h2 := hg 2 ⟨ "Recv", 3, 2, false, "", "", 16⟩ rfl
  have h3 := hg 3 ⟨ "To", 3, 3, false, "", "", 24⟩ rfl
  have h4 := hg 4 ⟨ "Amount", 32, 4, false, "", "", 32⟩ rfl
  have h5 := hg 5 ⟨ "Id", 9, 8, false, "", "", 64⟩ rfl
  dsimp only at h0 h1 h2 h3 h4 h5
  rw [Tryz.cellsInt] at h0 h1 h2 h3
  rw [Tryz.cells24] at h4
  rw [Tryz.cellsStr] at h5
  simp only [List.drop_succ_cons, List.drop_zero, List.take_succ_cons, List.take_zero, List.getElem?_cons_zero, List.getElem?_cons_succ] at h0 h1 h2 h3 h4 h5
  obtain ⟨z0, e0, _, _⟩ := DataW.trod_int Tryz.underlying3 h0
  obtain ⟨z1, e1, _, _⟩ := DataW.trod_int Tryz.underlying3 h1
  obtain ⟨z2, e2, _, _⟩ := DataW.trod_int Tryz.underlying3 h2
  obtain ⟨z3, e3, _, _⟩ := DataW.trod_int Tryz.underlying3 h3
  obtain ⟨a0, a1, a2, a3, f0, f1, f2, f3, hk⟩ := trod_wide h4
  obtain ⟨s5, e5, _, _⟩ := DataW.trod_string Tryz.underlying9 h5
  simp at e0 e1 e2 e3 e5
  subst e0 e1 e2 e3 f0 f1 f2 f3 e5
  exact ⟨⟨z0, z1, z2, z3, a0, a1, a2, a3, s5⟩, rfl, ⟨hk⟩⟩
set_option maxRecDepth 100000 in
theorem trod_bid {H : Type} {enc : TypeId × Value → H} {w : World} {base : Nat} {spare : Nat → Bool} {held : Bool} {fuel : Nat} {cs : List Value} {x : DataW H × List MemPlace}
    (h : DataW.trod enc Tryz.prog w base spare held fuel 36 cs = some x) :
    ∃ b : Bd, cs = bdc b ∧ OkB b := by
  obtain ⟨xs, n, _, hx, hcl, hlen, hg⟩ := DataW.trod_struct Tryz.underlying36 h
  rw [Tryz.cellsBid] at hcl
  match cs, hcl with
  | [c0, c1, c2, c3, c4, c5, c6, c7, c8, c9, c10, c11, c12, c13, c14, c15], _ =>
  match xs, hlen with
  | [y0, y1, y2, y3, y4], _ =>
  have h0 := hg 0 ⟨ "Router", 3, 0, false, "", "", 0⟩ rfl
  have h1 := hg 1 ⟨ "Ask", 34, 1, false, "", "", 8⟩ rfl
  have h2 := hg 2 ⟨ "Amount", 32, 10, false, "", "", 88⟩ rfl
  have h3 := hg 3 ⟨ "Until", 3, 14, false, "", "", 120⟩ rfl
  have h4 := hg 4 ⟨ "Sig", 9, 15, false, "", "", 128⟩ rfl
  dsimp only at h0 h1 h2 h3 h4
  rw [Tryz.cellsInt] at h0 h3
  rw [Tryz.cellsAsk] at h1
  rw [Tryz.cells24] at h2
  rw [Tryz.cellsStr] at h4
  simp only [List.drop_succ_cons, List.drop_zero, List.take_succ_cons, List.take_zero, List.getElem?_cons_zero, List.getElem?_cons_succ] at h0 h1 h2 h3 h4
  obtain ⟨z0, e0, _, _⟩ := DataW.trod_int Tryz.underlying3 h0
  obtain ⟨a, ha, hk⟩ := trod_ask h1
  obtain ⟨b0, b1, b2, b3, f0, f1, f2, f3, hk2⟩ := trod_wide h2
  obtain ⟨z3, e3, _, _⟩ := DataW.trod_int Tryz.underlying3 h3
  obtain ⟨s4, e4, _, _⟩ := DataW.trod_string Tryz.underlying9 h4
  simp at e0 e3 e4
  simp only [akc, List.cons.injEq, and_true] at ha
  obtain ⟨q0, q1, q2, q3, q4, q5, q6, q7, q8⟩ := ha
  subst e0 e3 e4 f0 f1 f2 f3 q0 q1 q2 q3 q4 q5 q6 q7 q8
  exact ⟨⟨z0, a, b0, b1, b2, b3, z3, s4⟩, rfl, ⟨hk.k, hk2⟩⟩
set_option maxRecDepth 100000 in
theorem agg8_of {v : Value} {w : World} {r : Reach} {b0 t : Nat} {fs : Array Field} (hu : Tryz.prog.underlying t = some (.struct fs)) (hv : Value.okWide Tryz.prog w r b0 t v) : ∃ cs, v = .agg cs := by
  obtain ⟨cs, rfl, _⟩ : ∃ cs, v = .agg cs ∧ cs.size = Tryz.prog.cellsOf t ∧ Row.okWide Tryz.prog w r b0 t cs := by
    simpa [Value.okWide, hu] using hv
  exact ⟨cs, rfl⟩
set_option maxRecDepth 100000 in
theorem open_bid {H : Type} {enc : TypeId × Value → H} {r : Reach} {w : World} {b0 base : Nat} {spare : Nat → Bool} {held : Bool} {v : Value} {d : DataW H} {p : List MemPlace}
    (hv : Value.okWide Tryz.prog w r b0 36 v) (h : DataW.Trod enc Tryz.prog w base spare held 36 v d p) :
    ∃ b : Bd, v = bdv b ∧ OkB b := by
  obtain ⟨cs, rfl⟩ := agg8_of Tryz.underlying36 hv
  obtain ⟨fuel, hf⟩ := h
  obtain ⟨b, hc, h1⟩ := trod_bid hf
  refine ⟨b, ?_, h1⟩
  have : cs.toList = bdc b := hc
  rw [show cs = (bdc b).toArray from by rw [← this]]
end Go.Proofs.YtbhfajnejibaoaaGreat
namespace Go.Proofs.YtbhfajnejibaoaaGreat
open Go.ChangeShapes Go.WideShapes Go.ChangeAt Go.RowKit Go.Deep
theorem sized_in {H : Type} {P : Program} {ts : List TypeId} {ds : List (DataW H)} (h : (DataW.weightsEach P ts ds).all (· ≤ reachBytes) = true) {j : Nat} {t : TypeId} {d : DataW H} (ht : ts[j]? = some t) (hd : ds[j]? = some d) (n : Nat) (hn : n ∈ d.weights P t) : n ≤ 140737488351232 := by
  have := List.all_eq_true.1 h _ (DataW.weights_mem_each ht hd n hn)
  have h2 := of_decide_eq_true this
  simp only [reachBytes] at h2
  exact h2
theorem weightsAll_mem {H : Type} {P : Program} {e : TypeId} : ∀ {l : List (DataW H)} {d : DataW H}, d ∈ l → ∀ n ∈ d.weights P e, n ∈ DataW.weightsAll P e l
  | [], _, h, _, _ => by cases h
  | x :: l, d, h, n, hn => by
    simp only [DataW.weightsAll, List.mem_append]
    rcases List.mem_cons.1 h with rfl | h
    · exact .inl hn
    · exact .inr (weightsAll_mem h n hn)
end Go.Proofs.YtbhfajnejibaoaaGreat
namespace Go.Proofs.YtbhfajnejibaoaaGreat
open Go.ChangeShapes Go.WideShapes Go.ChangeAt Go.RowKit Go.Deep
theorem open_rsl {α : Type} {f : α → List Value} {n : Nat} {T E : TypeId} {P : α → Prop} (hn : ∀ x, (f x).length = n) (h0n : 0 < n) (hu : Tryz.prog.underlying T = some (.slice E)) (hc : Tryz.prog.cellsOf E = n)
    {H : Type} {enc : TypeId × Value → H} {W : World} {base : Nat} {spare : Nat → Bool} {held : Bool} {a : Option Addr} {len cap : Nat} {d : DataW H} {p : List MemPlace}
    (hopen : ∀ (fuel : Nat) (cs : List Value) (x : DataW H × List MemPlace), DataW.trod enc Tryz.prog W base spare held fuel E cs = some x → (∀ m ∈ x.1.weights Tryz.prog E, m ≤ 140737488351232) → ∃ y, P y ∧ cs = f y)
    (h : DataW.Trod enc Tryz.prog W base spare held T (.slice a len cap) d p) (hw : ∀ m ∈ d.weights Tryz.prog T, m ≤ 140737488351232) :
    ∃ l : List α, RSl f 0 W.heap.size W (.slice a len cap) l ∧ ∀ x ∈ l, P x := by
  obtain ⟨fuel, hf⟩ := h
  rcases open_slice hu hf with h0 | ⟨ad, l, c, m, q, D, Pl, hcs, hb, hl, hm, hmm, hx, hi⟩
  · obtain ⟨hcs, _⟩ := h0
    simp [Value.cells] at hcs
    obtain ⟨rfl, rfl, rfl⟩ := hcs
    exact ⟨[], RSl.nil _ _ _, fun x hx => by simp at hx⟩
  · simp [Value.cells] at hcs
    obtain ⟨rfl, rfl, rfl⟩ := hcs
    have hlm : len ≤ m := by rw [hmm]; split <;> omega
    have hd : d = .slice ((List.range len).map D) ((List.range (m - len)).map fun j => D (len + j)) := (Prod.mk.inj hx).1
    have hwe : ∀ i, i < len → ∀ k ∈ (D i).weights Tryz.prog E, k ≤ 140737488351232 := fun i hil k hk => by
      refine hw k ?_
      rw [hd]
      simp only [DataW.weights, hu, List.mem_cons, List.mem_append]
      exact .inr (.inl (weightsAll_mem (List.mem_map.2 ⟨i, List.mem_range.2 hil, rfl⟩) k hk))
    have key : ∀ i, i < len → ∃ y : α, P y ∧ ∀ j v, (f y)[j]? = some v → W.cell? (ad.add (i * n + j)) = some v := fun i hil => by
      obtain ⟨cs', hcc, ht⟩ := hi i (by omega)
      rw [hc] at hcc
      obtain ⟨y, hy, rfl⟩ := hopen _ _ _ ht (hwe i hil)
      obtain ⟨_, hcl, hat⟩ := World.cells?_some hcc
      refine ⟨y, hy, fun j v hv => ?_⟩
      have hj : j < n := by have := (List.getElem?_eq_some_iff.1 hv).1; rwa [hn] at this
      have := hat j hj
      rw [add_add] at this
      rw [this, hv]
    obtain ⟨l, hl', hp⟩ := list_of key
    subst hl'
    refine ⟨l, ?_, fun x hx => ?_⟩
    · refine ⟨some ad, cap, rfl, hl, hm, ?_⟩
      by_cases hl0 : l = []
      · exact .inl hl0
      · obtain ⟨y0, l', rfl⟩ := List.exists_cons_of_ne_nil hl0
        obtain ⟨v0, hv0⟩ : ∃ v0, (f y0)[0]? = some v0 := ⟨_, List.getElem?_eq_getElem (by rw [hn]; exact h0n)⟩
        have h0 := (hp 0 y0 rfl).2 0 _ hv0
        obtain ⟨b, off, sp⟩ := ad
        have hsp : sp = none := by
          cases sp with
          | none => rfl
          | some _ => simp [Addr.add, World.cell?] at h0; split at h0 <;> simp at h0
        subst hsp
        rw [Nat.zero_mul, Nat.zero_add, add_plain] at h0
        refine .inr ⟨b, off, rfl, Nat.zero_le _, World.block_lt_of_cell? W _ h0, fun k v hk => ?_⟩
        have hkl : k < (y0 :: l').length * n := by have := (List.getElem?_eq_some_iff.1 hk).1; rwa [flat_len hn] at this
        have hq : k / n < (y0 :: l').length := Nat.div_lt_of_lt_mul (by rw [Nat.mul_comm]; exact hkl)
        have hy := List.getElem?_eq_getElem hq
        have hmod : k % n < n := Nat.mod_lt _ h0n
        have hcell := flat_cell hn hy hmod
        rw [show k / n * n + k % n = k by rw [Nat.mul_comm]; exact Nat.div_add_mod k n, hk] at hcell
        have := (hp (k / n) _ hy).2 (k % n) v hcell.symm
        rw [add_plain, show k / n * n + k % n = k by rw [Nat.mul_comm]; exact Nat.div_add_mod k n] at this
        exact this
    · obtain ⟨i, hi'⟩ := List.mem_iff_getElem?.1 hx
      exact (hp i x hi').1
end Go.Proofs.YtbhfajnejibaoaaGreat
namespace Go.Proofs.YtbhfajnejibaoaaGreat
open Go.ChangeShapes Go.WideShapes Go.ChangeAt Go.RowKit Go.Deep
theorem cellsInt19 : Tryz.prog.cellsOf 3 = 1 := by kernel_rfl
theorem cellsOp19 : Tryz.prog.cellsOf 38 = 18 := by kernel_rfl
set_option maxRecDepth 100000 in
theorem trod_oq {H : Type} {enc : TypeId × Value → H} {w : World} {base : Nat} {spare : Nat → Bool} {held : Bool} {fuel : Nat} {cs : List Value} {x : DataW H × List MemPlace}
    (h : DataW.trod enc Tryz.prog w base spare held fuel 38 cs = some x) :
    ∃ y : Oq, cs = oqc y ∧ OkO y := by
  obtain ⟨xs, n, _, hx, hcl, hlen, hg⟩ := DataW.trod_struct Tryz.underlying38 h
  rw [cellsOp19] at hcl
  match cs, hcl with
  | [c0, c1, c2, c3, c4, c5, c6, c7, c8, c9, c10, c11, c12, c13, c14, c15, c16, c17], _ =>
  match xs, hlen with
  | [y0, y1, y2], _ =>
  have h0 := hg 0 ⟨ "Kind", 3, 0, false, "", "", 0⟩ rfl
  have h1 := hg 1 ⟨ "Bid", 36, 1, false, "", "", 8⟩ rfl
  have h2 := hg 2 ⟨ "Now", 3, 17, false, "", "", 152⟩ rfl
  dsimp only at h0 h1 h2
  rw [cellsInt19] at h0 h2
  rw [Tryz.cellsBid] at h1
  simp only [List.drop_succ_cons, List.drop_zero, List.take_succ_cons, List.take_zero, List.getElem?_cons_zero, List.getElem?_cons_succ] at h0 h1 h2
  obtain ⟨z0, e0, _, _⟩ := DataW.trod_int Tryz.underlying3 h0
  obtain ⟨b, hb, hk⟩ := trod_bid h1
  obtain ⟨z2, e2, _, w2⟩ := DataW.trod_int Tryz.underlying3 h2
  simp at e0 e2
  simp only [bdc, List.cons.injEq, and_true] at hb
  obtain ⟨q0, q1, q2, q3, q4, q5, q6, q7, q8, q9, q10, q11, q12, q13, q14, q15⟩ := hb
  subst e0 e2 q0 q1 q2 q3 q4 q5 q6 q7 q8 q9 q10 q11 q12 q13 q14 q15
  exact ⟨⟨z0, b, z2⟩, rfl, ⟨hk, (wf_i64 w2).2⟩⟩
set_option maxRecDepth 100000 in
theorem open_oqs {H : Type} {enc : TypeId × Value → H} {W : World} {base : Nat} {spare : Nat → Bool} {held : Bool} {a : Option Addr} {len cap : Nat} {d : DataW H} {p : List MemPlace}
    (h : DataW.Trod enc Tryz.prog W base spare held 22 (.slice a len cap) d p) (hw : ∀ m ∈ d.weights Tryz.prog 22, m ≤ 140737488351232) :
    ∃ l : List Oq, RSl oqc 0 W.heap.size W (.slice a len cap) l ∧ ∀ x ∈ l, OkO x :=
  open_rsl (n := 18) (P := OkO) oqc_len (by omega) Tryz.underlying22 cellsOp19 (fun _ _ _ hq _ => by obtain ⟨t, e, hk⟩ := trod_oq hq; exact ⟨t, hk, e⟩) h hw
end Go.Proofs.YtbhfajnejibaoaaGreat
