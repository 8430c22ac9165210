/-
  Rows of slices of octets: the slices as elements of one cell, what they hold as parts of memory; slices of octets cut anywhere.
-/
import Derived.Test.YtakeickgjplahaaOctP
import Derived.Test.YtakeickgjplahaaSepW
import Derived.Test.YtakeickgjplahaaValuesS
namespace Go.Proofs.Ytakeickgjplahaa
open Go.RowKit Go.Shelf

/-- A slice with its octets. -/
structure Zs where
  a : Option Addr
  c : Nat
  l : List UInt8
abbrev Zs.v (z : Zs) : Value := .slice z.a z.l.length z.c
def zsc (z : Zs) : List Value := [.slice z.a z.l.length z.c]
theorem zsc_len (z : Zs) : (zsc z).length = 1 := rfl
theorem zsc_one (z : Zs) : ∀ u ∈ zsc z, u.oneCell' = true := fun u hu => by obtain rfl := List.mem_singleton.1 hu; rfl
theorem infoZs : (Try.prog.info? 23).map (fun i => (i.zero, i.size, i.bytes)) = some (some (.slice none 0 0), 1, 24) := by kernel_rfl
def textsZ (zs : List Zs) : List (List UInt8) := zs.map (·.l)
theorem textsZ_len (zs : List Zs) : (textsZ zs).length = zs.length := List.length_map ..
theorem textsZ_app (a b : List Zs) : textsZ (a ++ b) = textsZ a ++ textsZ b := List.map_append
theorem textsZ_take (zs : List Zs) (k : Nat) : textsZ (zs.take k) = (textsZ zs).take k := List.map_take
theorem textsZ_at {zs : List Zs} {k : Nat} {z : Zs} (h : zs[k]? = some z) : (textsZ zs)[k]? = some z.l := by
  unfold textsZ
  rw [List.getElem?_map, h]
  rfl
/-- They hold these octets, below n. -/
def Holds (n : Nat) (W : World) (zs : List Zs) : Prop := ∀ z ∈ zs, BSl 0 n W z.v z.l
theorem Holds.below {n m : Nat} {W W' : World} {zs : List Zs} (h : Holds n W zs) (hb : Below m W W') (hn : n ≤ m) : Holds n W' zs := fun z hz => (h z hz).below hb hn
theorem Holds.mono {n m : Nat} {W : World} {zs : List Zs} (h : Holds n W zs) (hn : n ≤ m) : Holds m W zs := fun z hz => (h z hz).mono (Nat.le_refl _) hn
theorem Holds.up {W W' : World} {zs : List Zs} (h : Holds W.heap.size W zs) (hb : Below W.heap.size W W') : Holds W'.heap.size W' zs := (h.below hb (Nat.le_refl _)).mono hb.size
theorem Holds.app {n : Nat} {W : World} {a b : List Zs} (h : Holds n W a) (h' : Holds n W b) : Holds n W (a ++ b) := fun z hz => (List.mem_append.1 hz).elim (h z) (h' z)
theorem Holds.take {n : Nat} {W : World} {a : List Zs} (h : Holds n W a) (k : Nat) : Holds n W (a.take k) := fun z hz => h z (List.mem_of_mem_take hz)
theorem Holds.get {n k : Nat} {W : World} {zs : List Zs} {z : Zs} (h : Holds n W zs) (hz : zs[k]? = some z) : BSl 0 n W z.v z.l := h z (List.mem_of_getElem? hz)
theorem Holds.one {n : Nat} {W : World} {z : Zs} (h : BSl 0 n W z.v z.l) : Holds n W [z] := fun y hy => by obtain rfl := List.mem_singleton.1 hy; exact h
theorem Holds.nil (n : Nat) (W : World) : Holds n W [] := fun _ h => (List.not_mem_nil h).elim
/-- .. apart from some blocks. -/
def HF (F : List Nat) (W : World) (zs : List Zs) : Prop := ∀ z ∈ zs, BF F W z.v z.l
theorem HF.out {F : List Nat} {w W : World} {zs : List Zs} (h : HF F w zs) (ho : Out F w W) : HF F W zs := fun z hz => (h z hz).out ho
theorem HF.arg {w W : World} {r : Res} {L : List Res} {zs : List Zs} {n : Nat} (h : Sep w [] L W) (hr : r ∈ L) (hs : Holds n w zs) (hn : n ≤ w.heap.size) : HF r.foot W zs := fun z hz => BF.arg h hr (hs z hz) hn
theorem HF.nil (F : List Nat) (W : World) : HF F W [] := fun _ h => (List.not_mem_nil h).elim
theorem HF.get {F : List Nat} {k : Nat} {W : World} {zs : List Zs} {z : Zs} (h : HF F W zs) (hz : zs[k]? = some z) : BF F W z.v z.l := h z (List.mem_of_getElem? hz)
theorem HF.one {F : List Nat} {W : World} {z : Zs} (h : BF F W z.v z.l) : HF F W [z] := fun y hy => by obtain rfl := List.mem_singleton.1 hy; exact h
/-- A slice of these elements that lies apart from some blocks. -/
def RF (F : List Nat) (W : World) (v : Value) (zs : List Zs) : Prop := ∃ lo hi, RSl zsc lo hi W v zs ∧ hi ≤ W.heap.size ∧ ∀ k ∈ F, k < lo ∨ hi ≤ k
theorem RF.rsl {F : List Nat} {W : World} {v : Value} {zs : List Zs} (h : RF F W v zs) : RSl zsc 0 W.heap.size W v zs := by
  obtain ⟨lo, hi, h1, h2, _⟩ := h
  exact h1.mono (Nat.zero_le _) h2
theorem RF.out {F : List Nat} {w W : World} {v : Value} {zs : List Zs} (h : RF F w v zs) (ho : Out F w W) : RF F W v zs := by
  obtain ⟨lo, hi, ⟨a, cap, e, hc, hm, h0⟩, h2, h3⟩ := h
  refine ⟨lo, hi, ⟨a, cap, e, hc, hm, h0.imp id fun ⟨b, off, ha, hl, hh, hx⟩ => ⟨b, off, ha, hl, hh, fun k x hk => ?_⟩⟩, Nat.le_trans h2 ho.size, h3⟩
  refine (World.cell?_of_block (a := ⟨b, _, none⟩) (ho.block b (by omega) fun hF => ?_)).trans (hx k x hk)
  have := h3 b hF
  omega
theorem RF.arg {w W : World} {r : Res} {L : List Res} {lo hi : Nat} {v : Value} {zs : List Zs} (h : Sep w [] L W) (hr : r ∈ L) (hs : RSl zsc lo hi w v zs) (hh : hi ≤ w.heap.size) : RF r.foot W v zs :=
  ⟨lo, hi, hs.below h.b hh, Nat.le_trans hh h.size, fun k hk => .inr (Nat.le_trans hh ((h.new r hr k hk).elim (fun e => (List.not_mem_nil e).elim) id))⟩
/-- A block of one's own that holds one of them. -/
theorem RF.blk {F : List Nat} {W : World} {N : Nat} {T : TypeId} {z : Zs} (h : Blk W N T (zsc z)) (hF : ∀ k ∈ F, k ≠ N) : RF F W (.slice (some ⟨N, 0, none⟩) 1 1) [z] := by
  refine ⟨N, N + 1, ⟨_, 1, rfl, Nat.le_refl _, by decide, .inr ⟨N, 0, rfl, Nat.le_refl _, Nat.lt_succ_self _, fun j u hj => ?_⟩⟩, h.lt, fun k hk => by have := hF k hk; omega⟩
  rw [flat_one] at hj
  rw [Nat.zero_add]
  exact (h.cell j).trans hj
/-- Their octets, as parts of memory. -/
def Res.octs (zs : List Zs) : Res where
  foot := zs.flatMap fun z => (Res.oct z.v z.l).foot
  holds := fun W => ∀ z ∈ zs, (Res.oct z.v z.l).holds W
  stab := fun h hl z hz => (Res.oct z.v z.l).stab (fun k hk => h k (List.mem_flatMap.2 ⟨z, hz, hk⟩)) (hl z hz)
theorem ROk.hold {W : World} {zs : List Zs} (h : ROk (.octs zs) W) : Holds W.heap.size W zs := fun z hz =>
  ROk.octs ⟨h.h z hz, fun k hk => h.lt k (List.mem_flatMap.2 ⟨z, hz, hk⟩)⟩
theorem Sep.octs0 {w W : World} {F : List Nat} {l : List Res} (h : Sep w F l W) : Sep w F (.octs [] :: l) W :=
  h.add (Below.refl _ W) ⟨fun _ hz => (List.not_mem_nil hz).elim, fun _ hk => (List.not_mem_nil hk).elim⟩ (fun _ hk => (List.not_mem_nil hk).elim)
theorem Sep.octs1 {w W : World} {F : List Nat} {l : List Res} {zs : List Zs} {v : Value} {x : List UInt8} (z : Zs) (hv : v = z.v) (hx : x = z.l) (h : Sep w F (.oct v x :: .octs zs :: l) W) : Sep w F (.octs (zs ++ [z]) :: l) W := by
  subst hv hx
  have h1 : Sep w F (.join [.oct z.v z.l, .octs zs] :: l) W := h.close (ps := [.oct z.v z.l, .octs zs])
  refine h1.conv (fun hh y hy => ?_) (fun k hk => ?_)
  · rcases List.mem_append.1 hy with hy | hy
    · exact hh.1 (.octs zs) (by simp) y hy
    · obtain rfl := List.mem_singleton.1 hy
      exact hh.1 _ (List.mem_cons_self ..)
  · obtain ⟨y, hy, hq⟩ := List.mem_flatMap.1 hk
    clear hk
    rcases List.mem_append.1 hy with hy | hy
    · exact join_mem (r := .octs zs) (by simp) (List.mem_flatMap.2 ⟨y, hy, hq⟩)
    · obtain rfl := List.mem_singleton.1 hy
      exact join_mem (List.mem_cons_self ..) hq
theorem flatZ (zs : List Zs) : flatR zsc zs = zs.map Zs.v := by
  induction zs with
  | nil => rfl
  | cons z zs ih => rw [flat_cons, ih]; rfl
/-- An argument of slices of octets. -/
theorem ssl_rsl {o n m : Nat} {w W : World} {sv : Value} {xs : List (SX o n w)} (h : SSl m W sv xs) (hc : xs.length ≤ 1048576) (hw : ∀ a len cap, sv = .slice a len cap → len ≤ cap ∧ cap ≤ maxLen) : ∃ zs : List Zs, zs.length = xs.length ∧ textsZ zs = xs.map (fun x => x.1.2) ∧ RSl zsc 0 m W sv zs ∧ Holds n w zs := by
  have key : ∀ xs : List (SX o n w), ∃ zs : List Zs, zs.map Zs.v = xs.map (fun x => x.1.1) ∧ textsZ zs = xs.map (fun x => x.1.2) ∧ Holds n w zs := by
    intro xs
    induction xs with
    | nil => exact ⟨[], rfl, rfl, Holds.nil _ _⟩
    | cons x xs ih =>
      obtain ⟨zs, h1, h2, h3⟩ := ih
      obtain ⟨a, c, e, _⟩ := x.2.1
      have hb := x.2.1
      refine ⟨⟨a, c, x.1.2⟩ :: zs, ?_, ?_, fun z hz => ?_⟩
      · rw [List.map_cons, List.map_cons, h1, e]
      · show _ :: textsZ zs = _
        rw [h2]
        rfl
      · rcases List.mem_cons.1 hz with rfl | hz
        · rw [e] at hb
          exact hb
        · exact h3 z hz
  obtain ⟨zs, h1, h2, h3⟩ := key xs
  have hl : zs.length = xs.length := by have := congrArg List.length h1; simpa using this
  refine ⟨zs, hl, h2, ?_, h3⟩
  obtain ⟨a, cap, e, h0⟩ := h
  obtain ⟨hc1, hc2⟩ := hw _ _ _ e
  refine ⟨a, cap, by rw [hl]; exact e, by rw [hl]; exact hc1, hc2, ?_⟩
  rcases h0 with rfl | ⟨b, off, ha, hm, hr⟩
  · exact .inl (List.length_eq_zero_iff.1 hl)
  · refine .inr ⟨b, off, ha, Nat.zero_le _, hm, fun j u hj => ?_⟩
    rw [flatZ, h1, List.getElem?_map] at hj
    obtain ⟨x, hx, rfl⟩ := Option.map_eq_some_iff.1 hj
    exact hr j x hx
-- ---- slices of octets
theorem elemB : Try.prog.elem 23 = 5 := by kernel_rfl
theorem undB : Try.prog.underlying 23 = some (.slice (Try.prog.elem 23)) := by rw [elemB]; exact Try.underlying23
theorem sizeB (W : World) : (sizeOf (Try.prog.elem 23)).run Try.prog W = .ok 1 W := by rw [elemB]; kernel_rfl
theorem sliced_bsl {W : World} {lo hi : Nat} {a : Option Addr} {c : Nat} {l : List UInt8} (h : BSl lo hi W (.slice a l.length c) l) {i j : Nat} (hij : i ≤ j) (hj : j ≤ l.length) :
    ∃ a' c', sliced a i j c 1 = .slice a' ((l.drop i).take (j - i)).length c' ∧ (∀ lo hi W, BSl lo hi W (.slice a l.length c) l → BSl lo hi W (.slice a' ((l.drop i).take (j - i)).length c') ((l.drop i).take (j - i))) ∧
      ∀ k ∈ (Res.oct (.slice a' ((l.drop i).take (j - i)).length c') ((l.drop i).take (j - i))).foot, k ∈ (Res.oct (.slice a l.length c) l).foot := by
  obtain ⟨_, _, e', hc0, _⟩ := h
  cases e'
  have hl : ((l.drop i).take (j - i)).length = j - i := by rw [List.length_take, List.length_drop]; omega
  refine ⟨if c = i then a else a.map (·.add (i * 1)), c - i, by unfold sliced; rw [hl], fun lo hi W h => ?bs, fun k hk => ?ft⟩
  case ft =>
    unfold Res.oct at hk ⊢
    dsimp only at hk ⊢
    cases hq : (l.drop i).take (j - i) with
    | nil => rw [hq] at hk; exact (List.not_mem_nil hk).elim
    | cons x q =>
      cases l with
      | nil => rw [List.drop_nil, List.take_nil] at hq; cases hq
      | cons y l =>
        rw [hq] at hk
        simp only [List.isEmpty_cons, Bool.false_eq_true, if_false] at hk ⊢
        cases a with
        | none => split at hk <;> exact (List.not_mem_nil hk).elim
        | some ad =>
          have e : (Value.slice (if c = i then some ad else (some ad).map (·.add (i * 1))) (x :: q).length (c - i)).ownBlock = (Value.slice (some ad) (y :: l).length c).ownBlock := by
            split
            · rfl
            · cases ad; simp only [Option.map_some, Value.ownBlock, Addr.add]; try (split <;> rfl)
          rw [← e]
          exact hk
  case bs =>
    obtain ⟨_, _, e', hc, h0⟩ := h
    cases e'
    refine ⟨_, _, rfl, by rw [hl]; omega, ?_⟩
    by_cases hd : (l.drop i).take (j - i) = []
    · exact .inl hd
    · rcases h0 with h0 | ⟨b, off, ha, h1, h2, h3⟩
      · exact .inl (by rw [h0, List.drop_nil, List.take_nil])
      · subst ha
        have hne : c ≠ i := fun e => hd (by rw [List.drop_eq_nil_of_le (by omega), List.take_nil])
        refine .inr ⟨b, off + i * 1, by rw [if_neg hne]; simp [Addr.add], h1, h2, fun k x hk => ?_⟩
        have hlt := (List.getElem?_eq_some_iff.1 hk).1
        rw [List.getElem?_take_of_lt (by rw [hl] at hlt; exact hlt), List.getElem?_drop] at hk
        rw [Nat.mul_one, Nat.add_assoc]
        exact h3 _ x hk
/-- From i to j. -/
theorem cutLH {W : World} {lo hi : Nat} {a : Option Addr} {c : Nat} {l : List UInt8} (h : BSl lo hi W (.slice a l.length c) l) {zi zj : Int} {i j : Nat} (hi' : zi = (i : Int)) (hj' : zj = (j : Int)) (hij : i ≤ j) (hj : j ≤ l.length) :
    ∃ a' c', (∀ W', (Instr.sliceAt 23 (.slice a l.length c) (some (.int .i64 zi)) (some (.int .i64 zj)) none).run Try.prog W' = .ok (.slice a' ((l.drop i).take (j - i)).length c') W') ∧ (∀ lo hi W, BSl lo hi W (.slice a l.length c) l → BSl lo hi W (.slice a' ((l.drop i).take (j - i)).length c') ((l.drop i).take (j - i))) ∧ (∀ k ∈ (Res.oct (.slice a' ((l.drop i).take (j - i)).length c') ((l.drop i).take (j - i))).foot, k ∈ (Res.oct (.slice a l.length c) l).foot) := by
  subst hi' hj'
  have hcap : l.length ≤ c := by obtain ⟨_, _, e, hc, _⟩ := h; cases e; exact hc
  obtain ⟨a', c', h1, h2, h3⟩ := sliced_bsl h hij hj
  refine ⟨a', c', fun W' => ?_, h2, h3⟩
  rw [run_sliceAt_slice W' 23 _ _ _ _ undB, run_slice_lh W' 23 a l.length c undB .i64 .i64 (i : Int) (j : Int) (by omega) (by omega) (by omega), sizeB, ← h1]
  rfl
/-- Up to j. -/
theorem cutH {W : World} {lo hi : Nat} {a : Option Addr} {c : Nat} {l : List UInt8} (h : BSl lo hi W (.slice a l.length c) l) {zj : Int} {j : Nat} (hj' : zj = (j : Int)) (hj : j ≤ l.length) :
    ∃ a' c', (∀ W', (Instr.sliceAt 23 (.slice a l.length c) none (some (.int .i64 zj)) none).run Try.prog W' = .ok (.slice a' (l.take j).length c') W') ∧ (∀ lo hi W, BSl lo hi W (.slice a l.length c) l → BSl lo hi W (.slice a' (l.take j).length c') (l.take j)) ∧ (∀ k ∈ (Res.oct (.slice a' (l.take j).length c') (l.take j)).foot, k ∈ (Res.oct (.slice a l.length c) l).foot) := by
  subst hj'
  have hcap : l.length ≤ c := by obtain ⟨_, _, e, hc, _⟩ := h; cases e; exact hc
  obtain ⟨a', c', h1, h2, h3⟩ := sliced_bsl h (Nat.zero_le j) hj
  rw [List.drop_zero, Nat.sub_zero] at h1 h2 h3
  refine ⟨a', c', fun W' => ?_, h2, h3⟩
  rw [run_sliceAt_slice W' 23 _ _ _ _ undB, run_slice_h W' 23 a l.length c undB .i64 (j : Int) (by omega) (by omega), sizeB, ← h1]
  rfl
/-- From i on. -/
theorem cutL {W : World} {lo hi : Nat} {a : Option Addr} {c : Nat} {l : List UInt8} (h : BSl lo hi W (.slice a l.length c) l) {zi : Int} {i : Nat} (hi' : zi = (i : Int)) (hi1 : i ≤ l.length) :
    ∃ a' c', (∀ W', (Instr.sliceAt 23 (.slice a l.length c) (some (.int .i64 zi)) none none).run Try.prog W' = .ok (.slice a' (l.drop i).length c') W') ∧ (∀ lo hi W, BSl lo hi W (.slice a l.length c) l → BSl lo hi W (.slice a' (l.drop i).length c') (l.drop i)) ∧ (∀ k ∈ (Res.oct (.slice a' (l.drop i).length c') (l.drop i)).foot, k ∈ (Res.oct (.slice a l.length c) l).foot) := by
  subst hi'
  obtain ⟨a', c', h1, h2, h3⟩ := sliced_bsl h hi1 (Nat.le_refl _)
  rw [List.take_of_length_le (by rw [List.length_drop]; exact Nat.le_refl _)] at h1 h2 h3
  refine ⟨a', c', fun W' => ?_, h2, h3⟩
  rw [run_sliceAt_slice W' 23 _ _ _ _ undB, run_slice_l W' 23 a l.length c undB .i64 (i : Int) (by omega) (by omega), sizeB, ← h1]
  rfl
/-- A part that is cut. -/
theorem turn_cut {W : World} {v v' : Value} {l l' : List UInt8} (_h : ROk (.oct v l) W) (hb : BSl 0 W.heap.size W v' l') (hf : ∀ k ∈ (Res.oct v' l').foot, k ∈ (Res.oct v l).foot) : RTurn (.oct v l) (.oct v' l') W W :=
  ⟨.of_bsl hb (Nat.le_refl _), Out.refl _ _, fun k hk => .inl (hf k hk)⟩
/-- A row of slices up to k. -/
theorem elemZ : Try.prog.elem 55 = 23 := by kernel_rfl
theorem undZ : Try.prog.underlying 55 = some (.slice (Try.prog.elem 55)) := by rw [elemZ]; exact Try.underlying55
theorem sizeZ (W : World) : (sizeOf (Try.prog.elem 55)).run Try.prog W = .ok 1 W := by rw [elemZ]; kernel_rfl
theorem RSl.upto {lo hi : Nat} {W : World} {a : Option Addr} {cap : Nat} {l : List Zs} (h : RSl zsc lo hi W (.slice a l.length cap) l) {zk : Int} {k : Nat} (hk' : zk = (k : Int)) (hk : k ≤ l.length) :
    ∃ c, (∀ W', (Instr.sliceAt 55 (.slice a l.length cap) none (some (.int .i64 zk)) none).run Try.prog W' = .ok (.slice a (l.take k).length c) W') ∧ ∀ lo hi W, RSl zsc lo hi W (.slice a l.length cap) l → RSl zsc lo hi W (.slice a (l.take k).length c) (l.take k) := by
  subst hk'
  obtain ⟨_, _, e', hc0, _, _⟩ := h
  cases e'
  have hl : (l.take k).length = k := List.length_take_of_le hk
  refine ⟨cap, fun W' => ?_, fun lo hi W h => ?_⟩
  · rw [run_sliceAt_slice W' 55 _ _ _ _ undZ, run_slice_h W' 55 a l.length cap undZ .i64 (k : Int) (by omega) (by omega), sizeZ W', hl]
    show Result.ok (sliced a 0 k cap 1) W' = _
    unfold sliced
    rw [Nat.sub_zero, Nat.sub_zero]
    split
    · rfl
    · cases a with
      | none => rfl
      | some ad => simp [Addr.add]
  · obtain ⟨_, _, e', hc, hm, h0⟩ := h
    cases e'
    refine ⟨_, cap, rfl, by omega, hm, ?_⟩
    rcases h0 with h0 | ⟨b, off, ha, h1, h2, h3⟩
    · exact .inl (by rw [h0, List.take_nil])
    · refine .inr ⟨b, off, ha, h1, h2, fun j u hj => h3 j u ?_⟩
      have e : flatR zsc l = flatR zsc (l.take k) ++ flatR zsc (l.drop k) := by rw [← flat_app, List.take_append_drop]
      rw [e, List.getElem?_append_left (List.getElem?_eq_some_iff.1 hj).1]
      exact hj
/-- Two texts are one. -/
theorem txEq (a b : List UInt8) : ((txB a).toList == (txB b).toList) = decide (a = b) := by
  rw [beqB]
  have e : (txB a = txB b) ↔ a = b := ⟨fun h => by have := congrArg (fun x : ByteArray => x.data.toList) h; exact this, fun h => by rw [h]⟩
  by_cases h : a = b
  · rw [decide_eq_true h, decide_eq_true (e.2 h)]
  · rw [decide_eq_false h, decide_eq_false (fun x => h (e.1 x))]
theorem Sep.begin1 {r : Res} {w : World} (h : ROk r w) : Sep w r.foot [r] w :=
  ⟨fun s hs => by obtain rfl := List.mem_singleton.1 hs; exact h, fun s hs k hk => by obtain rfl := List.mem_singleton.1 hs; exact .inl hk, List.pairwise_singleton .., Out.refl _ _⟩
theorem Sep.fin1 {r r' : Res} {w W : World} {l : List Res} (h : Sep w r.foot (r' :: l) W) : RTurn r r' w W :=
  ⟨h.ok _ (List.mem_cons_self ..), h.out, fun k hk => h.new _ (List.mem_cons_self ..) k hk⟩
theorem Sep.far {w W : World} {F : List Nat} {L : List Res} (h : Sep w F L W) {i j : Nat} {r s : Res} (hi : L[i]? = some r) (hj : L[j]? = some s) (hij : i ≠ j) : ∀ k ∈ r.foot, k ∉ s.foot := by
  obtain ⟨hil, rfl⟩ := List.getElem?_eq_some_iff.1 hi
  obtain ⟨hjl, rfl⟩ := List.getElem?_eq_some_iff.1 hj
  rcases Nat.lt_or_gt_of_ne hij with hl | hl
  · exact List.pairwise_iff_getElem.1 h.apart i j hil hjl hl
  · have := List.pairwise_iff_getElem.1 h.apart j i hjl hil hl
    exact fun k hk hks => this k hks hk
/-- Octets of one's own lie apart from another part. -/
theorem BF.mine {w W : World} {F : List Nat} {L : List Res} (h : Sep w F L W) {i j : Nat} {v : Value} {l : List UInt8} {s : Res} (hi : L[i]? = some (.oct v l)) (hj : L[j]? = some s) (hij : i ≠ j) : BF s.foot W v l := by
  have hf := h.far hi hj hij
  obtain ⟨hi', a, cap, e, hc, h0⟩ := (h.oka i hi).h
  have hlt := (h.oka i hi).lt
  subst e
  cases l with
  | nil => exact ⟨0, 0, ⟨a, cap, rfl, hc, .inl rfl⟩, Nat.zero_le _, fun _ _ => .inr (Nat.zero_le _)⟩
  | cons x l =>
    rcases h0 with h0 | ⟨b, off, ha, _, _, ho⟩
    · cases h0
    · subst ha
      have hb : b ∈ (Res.oct (.slice (some ⟨b, off, none⟩) (x :: l).length cap) (x :: l)).foot := by simp [Res.oct, Value.ownBlock]
      refine ⟨b, b + 1, ⟨_, cap, rfl, hc, .inr ⟨b, off, rfl, Nat.le_refl _, Nat.lt_succ_self _, ho⟩⟩, hlt b hb, fun k hk => ?_⟩
      have : k ≠ b := fun e => hf b hb (e ▸ hk)
      omega
/-- So does a block with one slice. -/
theorem RF.mine {w W : World} {F : List Nat} {L : List Res} (h : Sep w F L W) {i j : Nat} {N : Nat} {T : TypeId} {z : Zs} {s : Res} (hi : L[i]? = some (.blk N T (zsc z))) (hj : L[j]? = some s) (hij : i ≠ j) : RF s.foot W (.slice (some ⟨N, 0, none⟩) 1 1) [z] :=
  RF.blk (h.at i hi) fun _ hk e => h.far hi hj hij N (List.mem_singleton.2 rfl) (e ▸ hk)
theorem RF.nil (F : List Nat) (W : World) : RF F W (.slice none 0 0) [] := ⟨0, 0, RSl.nil _ _ _, Nat.zero_le _, fun _ _ => .inr (Nat.zero_le _)⟩
theorem BF.nil (F : List Nat) (W : World) : BF F W (.slice none 0 0) [] := ⟨0, 0, BSl.nil _ _ _, Nat.zero_le _, fun _ _ => .inr (Nat.zero_le _)⟩
-- HERE
end Go.Proofs.Ytakeickgjplahaa
