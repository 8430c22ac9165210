/-
  MssBack answers true at every input, and leaves its arguments as they are.
  The walk of MssBack: a key signs eight texts, each with a leaf of its own, each verified by its root; a ninth it does not.
  A list of texts among the arguments, each as long as reach.
  A list of texts among the arguments; its bulk.
  A key among the arguments is a text and a number; sizes within an argument.
-/
import Derived.ChangeMaps5
import Derived.Lib.SmallJoins
import Derived.JoinedCond
import Derived.Outline
import Derived.Test.YtalmoaggancdjaaK14
namespace Go.Proofs.Ytalmoaggancdjaa
open Go.ChangeShapes Go.WideShapes Go.ChangeAt Go.RowKit Go.Deep

theorem sized_in {H : Type} {P : Program} {ts : List TypeId} {ds : List (DataW H)} (h : (DataW.weightsEach P ts ds).all (· ≤ reachBytes) = true) {j : Nat} {t : TypeId} {d : DataW H} (ht : ts[j]? = some t) (hd : ds[j]? = some d) (n : Nat) (hn : n ∈ d.weights P t) : n ≤ 140737488351232 := by
  have := List.all_eq_true.1 h _ (DataW.weights_mem_each ht hd n hn)
  have h2 := of_decide_eq_true this
  simp only [reachBytes] at h2
  exact h2
theorem weightsAll_mem {H : Type} {P : Program} {e : TypeId} : ∀ {l : List (DataW H)} {d : DataW H}, d ∈ l → ∀ n ∈ d.weights P e, n ∈ DataW.weightsAll P e l
  | [], _, h, _, _ => by cases h
  | x :: l, d, h, n, hn => by
    simp only [DataW.weightsAll, List.mem_append]
    rcases List.mem_cons.1 h with rfl | h
    · exact .inl hn
    · exact .inr (weightsAll_mem h n hn)

theorem Try.cellsKey : Try.prog.cellsOf 23 = 2 := by kernel_rfl
set_option maxRecDepth 100000 in
theorem open_key {H : Type} {enc : TypeId × Value → H} {r : Reach} {w : World} {b0 base : Nat} {spare : Nat → Bool} {held : Bool} {v : Value} {d : DataW H} {p : List MemPlace}
    (hv : Value.okWide Try.prog w r b0 23 v) (h : DataW.Trod enc Try.prog w base spare held 23 v d p) :
    ∃ (s : ByteArray) (z : Int) (d1 : DataW H), v = .agg #[.string s, .int .i64 z] ∧ d = .agg [.lit (.string s.data.toList), d1] ∧ s.data.toList.length ∈ d.weights Try.prog 23 := by
  obtain ⟨v0, v1, y0, y1, n, rfl, rfl, _, h0, h1⟩ := Joins.open_agg2 Try.underlying23 (by kernel_rfl) Try.cellsKey hv h
  obtain ⟨s, e0, hx0, _⟩ := DataW.trod_string Try.underlying9 h0
  obtain ⟨z, e1, hx1, _⟩ := DataW.trod_int Try.underlying3 h1
  simp at e0 e1
  subst e0 e1
  refine ⟨s, z, y1.1, rfl, by rw [hx0], ?_⟩
  rw [hx0]
  simp [DataW.weights, DataW.weightsEach, Try.underlying23]
end Go.Proofs.Ytalmoaggancdjaa

namespace Go.Proofs.Ytalmoaggancdjaa
open Go.ChangeShapes Go.WideShapes Go.ChangeAt Go.RowKit Go.Deep

theorem bulk_pos {H : Type} (d : DataW H) : 0 < Rows.uptoBulk d := by
  cases d with
  | lit l => cases l <;> simp [Rows.uptoBulk]
  | _ => simp [Rows.uptoBulk]
theorem bulk_len {H : Type} : ∀ l : List (DataW H), l.length ≤ Rows.uptoBulkAll l
  | [] => Nat.zero_le _
  | d :: l => by have h1 := bulk_pos d; have h2 := bulk_len l; simp only [Rows.uptoBulkAll, List.length_cons]; omega
theorem Try.cellsB : Try.prog.cellsOf 24 = 1 := by kernel_rfl

theorem open_bytes1 {H : Type} {enc : TypeId × Value → H} {W : World} {base : Nat} {spare : Nat → Bool} {held : Bool} {fuel : Nat} {v : Value} {d : DataW H} {p : List MemPlace}
    (hf : DataW.trod enc Try.prog W base spare held fuel 24 [v] = some (d, p)) : ∃ zs : List UInt8, BSl 0 W.heap.size W v zs ∧ zs.length ≤ Rows.uptoBulk d := by
  rcases open_slice1 Try.underlying24 Try.cells8 hf with h0 | ⟨ad, len, cap, m, n, V, D, Pl, hcs, hb, hl, hm, hmm, hx, hi⟩
  · obtain ⟨hcs, _⟩ := h0
    cases hcs
    exact ⟨[], BSl.nil _ _ _, Nat.zero_le _⟩
  · cases hcs
    have hlm : len ≤ m := by rw [hmm]; split <;> omega
    have key : ∀ i, i < len → ∃ x : UInt8, W.cell? (ad.add i) = some (bv x) := fun i hil => by
      obtain ⟨hc, ht⟩ := hi i (by omega)
      obtain ⟨x, e, _, w0⟩ := DataW.trod_int Try.underlying5 ht
      simp at e
      obtain ⟨b, rfl⟩ := wf_u8 w0
      exact ⟨b, by rw [hc, e]⟩
    obtain ⟨zs, hz, hq⟩ := list_of key
    have hd : d = .slice ((List.range len).map D) ((List.range (m - len)).map fun j => D (len + j)) := (Prod.mk.inj hx).1
    refine ⟨zs, ⟨some ad, cap, by rw [hz], by rw [hz]; exact hl, ?_⟩, ?_⟩
    · by_cases hlen : len = 0
      · exact .inl (List.length_eq_zero_iff.1 (by omega))
      · obtain ⟨x, h0⟩ := key 0 (by omega)
        obtain ⟨b, off, sp⟩ := ad
        have hsp : sp = none := by
          cases sp with
          | none => rfl
          | some _ => simp [Addr.add, World.cell?] at h0; split at h0 <;> simp at h0
        subst hsp
        refine .inr ⟨b, off, rfl, Nat.zero_le _, World.block_lt_of_cell? W _ h0, fun k x hx => ?_⟩
        have := hq k x hx
        rwa [add_plain] at this
    · rw [hd]
      have := bulk_len ((List.range len).map D)
      simp only [Rows.uptoBulk]
      simp at this
      omega

theorem bulk_flat {H : Type} {o n : Nat} {w : World} (D : Nat → DataW H) : ∀ (zs : List (SX o n w)) (i : Nat), (∀ k x, zs[k]? = some x → x.1.2.length ≤ Rows.uptoBulk (D (i + k))) → (flat zs).length ≤ Rows.uptoBulkAll ((List.range' i zs.length).map D)
  | [], _, _ => by simp [flat]
  | x :: zs, i, h => by
    have h0 := h 0 x rfl
    have ih := bulk_flat D zs (i + 1) (fun k y hy => by have := h (k + 1) y (by simpa using hy); rwa [show i + (k + 1) = i + 1 + k by omega] at this)
    have e : flat (x :: zs) = x.1.2 ++ flat zs := by simp [flat]
    rw [e, List.length_append, List.length_cons, List.range'_succ, List.map_cons]
    simp only [Rows.uptoBulkAll]
    simp only [Nat.add_zero] at h0
    omega

theorem open_bytess {H : Type} {enc : TypeId × Value → H} {W : World} {base : Nat} {spare : Nat → Bool} {held : Bool} {a : Option Addr} {len cap : Nat} {d : DataW H} {p : List MemPlace}
    (h : DataW.Trod enc Try.prog W base spare held 39 (.slice a len cap) d p) (hk : Rows.uptoBulk d ≤ 1048576) :
    ∃ zs : List (SX 1048576 W.heap.size W), SSl W.heap.size W (.slice a len cap) zs ∧ zs.length ≤ 1048576 ∧ (flat zs).length ≤ 1048576 := by
  obtain ⟨fuel, hf⟩ := h
  rcases open_slice1 Try.underlying39 Try.cellsB hf with h0 | ⟨ad, l, c, m, n, V, D, Pl, hcs, hb, hl, hm, hmm, hx, hi⟩
  · obtain ⟨hcs, _⟩ := h0
    simp [Value.cells] at hcs
    obtain ⟨rfl, rfl, rfl⟩ := hcs
    exact ⟨[], ⟨none, 0, rfl, .inl rfl⟩, by simp, by simp [flat]⟩
  · simp [Value.cells] at hcs
    obtain ⟨rfl, rfl, rfl⟩ := hcs
    have hlm : len ≤ m := by rw [hmm]; split <;> omega
    have hd : d = .slice ((List.range len).map D) ((List.range (m - len)).map fun j => D (len + j)) := (Prod.mk.inj hx).1
    have hall : Rows.uptoBulkAll ((List.range len).map D) ≤ 1048576 := by
      rw [hd] at hk
      simp only [Rows.uptoBulk] at hk
      omega
    have hone : ∀ (l : List (DataW H)) (x : DataW H), x ∈ l → Rows.uptoBulk x ≤ Rows.uptoBulkAll l := fun l => by
      induction l with
      | nil => intro x hx; cases hx
      | cons y l ih =>
        intro x hx
        simp only [Rows.uptoBulkAll]
        rcases List.mem_cons.1 hx with rfl | hx
        · omega
        · have := ih x hx; omega
    have key : ∀ i, i < len → ∃ x : SX 1048576 W.heap.size W, W.cell? (ad.add i) = some x.1.1 ∧ x.1.2.length ≤ Rows.uptoBulk (D i) := fun i hil => by
      obtain ⟨hc, ht⟩ := hi i (by omega)
      obtain ⟨zs, hz, hzl⟩ := open_bytes1 ht
      have hle := hone _ (D i) (List.mem_map.2 ⟨i, List.mem_range.2 hil, rfl⟩)
      exact ⟨⟨(V i, zs), hz, by dsimp only; omega⟩, hc, hzl⟩
    obtain ⟨zs, hz, hq⟩ := list_of key
    have hlen : zs.length ≤ 1048576 := by
      have := bulk_len ((List.range len).map D)
      simp at this
      omega
    have hfl := bulk_flat D zs 0 (fun k x hx => by rw [Nat.zero_add]; exact (hq k x hx).2)
    rw [hz, ← List.range_eq_range'] at hfl
    refine ⟨zs, ⟨some ad, cap, by rw [hz], ?_⟩, hlen, by omega⟩
    by_cases hl0 : len = 0
    · exact .inl (List.length_eq_zero_iff.1 (by omega))
    · obtain ⟨x, h0, _⟩ := key 0 (by omega)
      obtain ⟨b, off, sp⟩ := ad
      have hsp : sp = none := by
        cases sp with
        | none => rfl
        | some _ => simp [Addr.add, World.cell?] at h0; split at h0 <;> simp at h0
      subst hsp
      refine .inr ⟨b, off, rfl, World.block_lt_of_cell? W _ h0, fun k x hx => ?_⟩
      have := (hq k x hx).1
      rwa [add_plain] at this
end Go.Proofs.Ytalmoaggancdjaa

namespace Go.Proofs.Ytalmoaggancdjaa
open Go.ChangeShapes Go.WideShapes Go.ChangeAt Go.RowKit Go.Deep

theorem open_bytess_wide {H : Type} {enc : TypeId × Value → H} {W : World} {base : Nat} {spare : Nat → Bool} {held : Bool} {a : Option Addr} {len cap : Nat} {d : DataW H} {p : List MemPlace}
    (h : DataW.Trod enc Try.prog W base spare held 39 (.slice a len cap) d p) (hw : ∀ n ∈ d.weights Try.prog 39, n ≤ 140737488351232) :
    ∃ zs : List (SX 140737488351232 W.heap.size W), SSl W.heap.size W (.slice a len cap) zs ∧ zs.length ≤ 140737488351232 := by
  obtain ⟨fuel, hf⟩ := h
  rcases open_slice1 Try.underlying39 Try.cellsB hf with h0 | ⟨ad, l, c, m, n, V, D, Pl, hcs, hb, hl, hm, hmm, hx, hi⟩
  · obtain ⟨hcs, _⟩ := h0
    simp [Value.cells] at hcs
    obtain ⟨rfl, rfl, rfl⟩ := hcs
    exact ⟨[], ⟨none, 0, rfl, .inl rfl⟩, by simp⟩
  · simp [Value.cells] at hcs
    obtain ⟨rfl, rfl, rfl⟩ := hcs
    have hlm : len ≤ m := by rw [hmm]; split <;> omega
    have hd : d = .slice ((List.range len).map D) ((List.range (m - len)).map fun j => D (len + j)) := (Prod.mk.inj hx).1
    have hwe : ∀ i, i < len → ∀ n ∈ (D i).weights Try.prog 24, n ≤ 140737488351232 := fun i hil n hn => by
      refine hw n ?_
      rw [hd]
      simp only [DataW.weights, Try.underlying39, List.mem_cons, List.mem_append]
      exact .inr (.inl (weightsAll_mem (List.mem_map.2 ⟨i, List.mem_range.2 hil, rfl⟩) n hn))
    have key : ∀ i, i < len → ∃ x : SX 140737488351232 W.heap.size W, W.cell? (ad.add i) = some x.1.1 := fun i hil => by
      obtain ⟨hc, ht⟩ := hi i (by omega)
      obtain ⟨a', l', c', e'⟩ := Joins.slice_form Try.underlying24 ht
      have hv : V i = .slice a' l' c' := by simpa using e'
      rw [hv] at ht
      obtain ⟨zs, hl', hz, hq⟩ := open_bytes (a := a') (len := l') (cap := c') ⟨_, by simpa [Value.cells] using ht⟩
      have hlen : zs.length ≤ 140737488351232 := by
        rcases hq with rfl | ⟨el, sp, e2, hel⟩
        · simp
        · have := hwe i hil ((el.length + sp.length) * Try.prog.bytesOf 5) (by rw [e2]; simp [DataW.weights, Try.underlying24])
          rw [Try.bytes8] at this
          omega
      exact ⟨⟨(V i, zs), by rw [hv]; exact hz, hlen⟩, hc⟩
    obtain ⟨zs, hz, hq⟩ := list_of key
    refine ⟨zs, ⟨some ad, cap, by rw [hz], ?_⟩, ?_⟩
    · by_cases hl0 : len = 0
      · exact .inl (List.length_eq_zero_iff.1 (by omega))
      · obtain ⟨x, h0⟩ := key 0 (by omega)
        obtain ⟨b, off, sp⟩ := ad
        have hsp : sp = none := by
          cases sp with
          | none => rfl
          | some _ => simp [Addr.add, World.cell?] at h0; split at h0 <;> simp at h0
        subst hsp
        refine .inr ⟨b, off, rfl, World.block_lt_of_cell? W _ h0, fun k x hx => ?_⟩
        have := hq k x hx
        rwa [add_plain] at this
    · have := hw (((List.range len).map D).length * Try.prog.bytesOf 24 + ((List.range (m - len)).map fun j => D (len + j)).length * Try.prog.bytesOf 24) (by rw [hd]; simp [DataW.weights, Try.underlying39, Nat.add_mul])
      have hb24 : Try.prog.bytesOf 24 = 24 := by kernel_rfl
      rw [hb24, List.length_map, List.length_range] at this
      omega
end Go.Proofs.Ytalmoaggancdjaa

namespace Go.Proofs.Ytalmoaggancdjaa
open Go.RowKit Go.Shelf

set_option maxRecDepth 100000 in
set_option maxHeartbeats 8000000 in
theorem mssBack_any {o : Nat} (ho : o ≤ 140737488351232) (s : ByteArray) (hs : s.size ≤ 140737488352000) (sv : Value) (w : World) (zs : List (SX o w.heap.size w)) (hlen : zs.length ≤ 140737488351232) (hsv : SSl w.heap.size w sv zs) :
    Calls Try.prog 5 #[.string s, sv] w fun e W' => e = .returned (.bool true) ∧ Below w.heap.size w W' := by
  have hmx : Try.prog.follows .mixedOrders = true := by kernel_rfl
  obtain ⟨a, cap, rfl, hcs⟩ := hsv
  have HR := Lib.hid (show ∀ k x, zs[k]? = some x → ∃ b off, a = some ⟨b, off, none⟩ ∧ b < w.heap.size ∧ w.cell? ⟨b, off + k, none⟩ = some x.1.1 from fun k x hx => by
    rcases hcs with rfl | ⟨b, off, ha, hb, hr⟩
    · simp at hx
    · exact ⟨b, off, ha, hb, hr k x hx⟩)
  clear hcs
  have HRT := Lib.hid (rootB_size s)
  have HSG := Lib.hid (fun k (hk : k < 8) l tx w hl h => mssSign_any s hs k hk l tx w hl h)
  have HTOP := Lib.hid (fun n l (h : n < 8) => sigB_top (s := s) (n := n) (l := l) h)
  have HROOT := Lib.hid (fun w => root_any s hs w)
  generalize rootB s = rb at *
  go_enter Try.func5, Try.ntmps5
  go_wp2_with fail
  refine (mssAlive_any _).mono ?_
  rintro e w1 ⟨rfl, hb1⟩
  go_wp2_with fail
  refine (HROOT.out _).mono ?_
  rintro e w2 ⟨rfl, hb2⟩
  go_wp2_with fail
  have hB0 : Below w.heap.size w (w2.alloc (.cells #[.string s, .int .i64 0] 23)) := chainA (chain hb1 hb2) _
  have kb0 : Blk (w2.alloc (.cells #[.string s, .int .i64 0] 23)) w2.heap.size 23 [.string s, .int .i64 0] := Blk.new w2 _ _
  have hB2 : w.heap.size ≤ w2.heap.size := (chain hb1 hb2).size
  generalize w2.alloc (.cells #[.string s, .int .i64 0] 23) = w3 at *
  clear hb1 hb2
  generalize w2.heap.size = B at *
  go_loopw [7] (fun i wr => ∃ k : Nat, k ≤ zs.length ∧ k ≤ 8 ∧ i = .int .i64 (k : Nat) ∧ Blk wr B 23 [.string s, .int .i64 (k : Int)] ∧ Below w.heap.size w wr) (fun i _ => 9 - (intOf i).toNat)
  case atStart => exact ⟨0, by omega, by omega, rfl, kb0, hB0⟩
  clear kb0 hB0
  case round =>
    obtain ⟨k, hk, hk8, rfl, kb, hB⟩ := hrel
    have hNW : w.heap.size ≤ wr.heap.size := hB.size
    by_cases hlt : k < zs.length
    · obtain ⟨x, hx⟩ : ∃ x, zs[k]? = some x := ⟨_, List.getElem?_eq_getElem hlt⟩
      obtain ⟨b, off, rfl, hb, ct⟩ := HR.out k x hx
      replace ct := (hB.cell (p := ⟨b, off + k, none⟩) hb).trans ct
      have hxs := x.2.1.below hB (Nat.le_refl _)
      have hxl := x.2.2
      obtain ⟨⟨xv, xl⟩, hxp⟩ := x
      dsimp only at ct hxs hxl
      obtain ⟨xa, xc, rfl⟩ := bsl_slice hxs
      have hlt' : (k : Int) < (zs.length : Int) := by omega
      have hk10 : (k : Int) < 10 := by omega
      have HLT := Lib.hid hlt
      have c0 : wr.cell? ⟨B, 0, none⟩ = some (.string s) := kb.cell 0
      have c1 : wr.cell? ⟨B, 1, none⟩ = some (.int .i64 (k : Int)) := kb.cell 1
      have hBw := kb.lt
      have hbw : b < wr.heap.size := Nat.lt_of_lt_of_le hb hNW
      have hxs' := hxs.mono (Nat.le_refl _) hNW
      clear hx hxp hxs hlt
      generalize hL : zs.length = len at *
      have HL := Lib.hid hL
      clear hL
      by_cases hlt8 : k < 8
      · have hlt8' : (k : Int) < 8 := by omega
        have H8 := Lib.hid hlt8
        have hk8' : ¬ 8 ≤ (k : Int) := by omega
        clear hk hk8 hlt8
        go_wp2_with fail
        refine wp_region_held_drew (S := fun W => Below wr.heap.size wr W) hmx (Below.refl _ wr).drew ?_
        intro hS
        generalize wr.drew = Y at *
        refine' wpAnyH_take (i := 0) (oi := _) (v := _) ?hi1 (by kernel_rfl) (by kernel_rfl) (by kernel_rfl) ?hQ1 (Or.inl ⟨?hw1, ?hy1⟩) hS ?rest1
        case hi1 => simp only [List.getElem?_toArray, List.getElem?_cons_zero]; rfl
        case hQ1 => exact fun _ _ _ h => h
        case hw1 => rfl
        case hy1 => intro W' hS'; have hc0 := (hS'.cell (p := ⟨B, 0, none⟩) hBw).trans c0; have hc1 := (hS'.cell (p := ⟨B, 1, none⟩) hBw).trans c1; go_simp; with_reducible rfl
        try simp only [Act.put, List.setIfInBounds_toArray, List.set_cons_zero, List.set_cons_succ]
        refine' wpAnyH_take (i := 1) (oi := _) (v := _) ?hi2 (by kernel_rfl) (by kernel_rfl) (by kernel_rfl) ?hQ2 (Or.inl ⟨?hw2, ?hy2⟩) hS ?rest2
        case hi2 => simp only [List.getElem?_toArray, List.getElem?_cons_succ, List.getElem?_cons_zero]; rfl
        case hQ2 => exact fun _ _ _ h => h
        case hw2 => rfl
        case hy2 => intro W' hS'; go_simp; with_reducible rfl
        try simp only [Act.put, List.setIfInBounds_toArray, List.set_cons_zero, List.set_cons_succ]
        refine' wpAnyH_take (i := 2) (oi := _) (v := _) ?hi3 (by kernel_rfl) (by kernel_rfl) (by kernel_rfl) ?hQ3 (Or.inl ⟨?hw3, ?hy3⟩) hS ?rest3
        case hi3 => simp only [List.getElem?_toArray, List.getElem?_cons_succ, List.getElem?_cons_zero]; rfl
        case hQ3 => exact fun _ _ _ h => h
        case hw3 => rfl
        case hy3 => intro W' hS'; go_simp; with_reducible rfl
        try simp only [Act.put, List.setIfInBounds_toArray, List.set_cons_zero, List.set_cons_succ]
        refine' wpAnyH_take (i := 3) (oi := _) (v := _) ?hi4 (by kernel_rfl) (by kernel_rfl) (by kernel_rfl) ?hQ4 (Or.inl ⟨?hw4, ?hy4⟩) hS ?rest4
        case hi4 => simp only [List.getElem?_toArray, List.getElem?_cons_succ, List.getElem?_cons_zero]; rfl
        case hQ4 => exact fun _ _ _ h => h
        case hw4 => rfl
        case hy4 => intro W' hS'; go_simp; with_reducible rfl
        try simp only [Act.put, List.setIfInBounds_toArray, List.set_cons_zero, List.set_cons_succ]
        refine' wpAnyH_take (i := 4) (oi := _) (v := _) ?hi5 (by kernel_rfl) (by kernel_rfl) (by kernel_rfl) ?hQ5 (Or.inl ⟨?hw5, ?hy5⟩) hS ?rest5
        case hi5 => simp only [List.getElem?_toArray, List.getElem?_cons_succ, List.getElem?_cons_zero]; rfl
        case hQ5 => exact fun _ _ _ h => h
        case hw5 => rfl
        case hy5 => intro W' hS'; have hc := (hS'.cell (p := ⟨b, off + k, none⟩) hbw).trans ct; go_simp; with_reducible rfl
        try simp only [Act.put, List.setIfInBounds_toArray, List.set_cons_zero, List.set_cons_succ]
        refine wpAnyH_ready (rs := [5, 10]) (by kernel_rfl) (by simp) ?_
        refine' AllReadyH.cons (o := _) ?ho6 (fun K hK => ?st6) (AllReadyH.cons (o := _) ?ho7 (fun K hK => ?st7) AllReadyH.nil)
        case ho6 => simp only [List.getElem?_toArray, List.getElem?_cons_succ, List.getElem?_cons_zero]; rfl
        case ho7 => simp only [List.getElem?_toArray, List.getElem?_cons_succ, List.getElem?_cons_zero]; rfl
        case st6 =>
          go_simp
          refine (HSG.out k H8.out xl _ _ (by omega) ((hxs'.below hS (Nat.le_refl _)).mono (Nat.le_refl _) hS.size)).mono ?_
          rintro e Y1 ⟨rfl, hb1⟩
          refine hK.out _ _ (hS.trans (hb1.mono hS.size)) (fun hS => ?_)
          clear hK K
          try simp only [Act.put, List.setIfInBounds_toArray, List.set_cons_zero, List.set_cons_succ]
          clear hb1
          refine' wpAnyH_take (i := 6) (oi := _) (v := _) ?hi8 (by kernel_rfl) (by kernel_rfl) (by kernel_rfl) ?hQ8 (Or.inl ⟨?hw8, ?hy8⟩) hS ?rest8
          case hi8 => simp only [List.getElem?_toArray, List.getElem?_cons_succ, List.getElem?_cons_zero]; rfl
          case hQ8 => exact fun _ _ _ h => h
          case hw8 => rfl
          case hy8 => intro W' hS'; go_simp; with_reducible rfl
          try simp only [Act.put, List.setIfInBounds_toArray, List.set_cons_zero, List.set_cons_succ]
          refine' wpAnyH_take (i := 7) (oi := _) (v := _) ?hi9 (by kernel_rfl) (by kernel_rfl) (by kernel_rfl) ?hQ9 (Or.inl ⟨?hw9, ?hy9⟩) hS ?rest9
          case hi9 => simp only [List.getElem?_toArray, List.getElem?_cons_succ, List.getElem?_cons_zero]; rfl
          case hQ9 => exact fun _ _ _ h => h
          case hw9 => rfl
          case hy9 => intro W' hS'; go_simp; with_reducible rfl
          try simp only [Act.put, List.setIfInBounds_toArray, List.set_cons_zero, List.set_cons_succ]
          refine' wpAnyH_take (i := 8) (oi := _) (v := _) ?hi10 (by kernel_rfl) (by kernel_rfl) (by kernel_rfl) ?hQ10 (Or.inl ⟨?hw10, ?hy10⟩) hS ?rest10
          case hi10 => simp only [List.getElem?_toArray, List.getElem?_cons_succ, List.getElem?_cons_zero]; rfl
          case hQ10 => exact fun _ _ _ h => h
          case hw10 => rfl
          case hy10 => intro W' hS'; go_simp; with_reducible rfl
          try simp only [Act.put, List.setIfInBounds_toArray, List.set_cons_zero, List.set_cons_succ]
          refine' wpAnyH_take (i := 9) (oi := _) (v := _) ?hi11 (by kernel_rfl) (by kernel_rfl) (by kernel_rfl) ?hQ11 (Or.inl ⟨?hw11, ?hy11⟩) hS ?rest11
          case hi11 => simp only [List.getElem?_toArray, List.getElem?_cons_succ, List.getElem?_cons_zero]; rfl
          case hQ11 => exact fun _ _ _ h => h
          case hw11 => rfl
          case hy11 => intro W' hS'; go_simp; with_reducible rfl
          try simp only [Act.put, List.setIfInBounds_toArray, List.set_cons_zero, List.set_cons_succ]
          refine wpAnyH_ready (rs := [10]) (by kernel_rfl) (by simp) ?_
          refine' AllReadyH.cons (o := _) ?ho12 (fun K hK => ?st12) AllReadyH.nil
          case ho12 => simp only [List.getElem?_toArray, List.getElem?_cons_succ, List.getElem?_cons_zero]; rfl
          case st12 =>
            go_simp
            have hN : wr.heap.size ≤ Y1.heap.size := hS.size
            refine hK.out _ _ (hS.alloc hS.size _) (fun hS => ?_)
            clear hK K
            try simp only [Act.put, List.setIfInBounds_toArray, List.set_cons_zero, List.set_cons_succ]
            have kN : Blk (Y1.alloc (.cells #[.string ⟨#[]⟩, .int .i64 0] 23)) Y1.heap.size 23 [.string ⟨#[]⟩, .int .i64 0] := Blk.new Y1 _ _
            generalize Y1.alloc (.cells #[.string ⟨#[]⟩, .int .i64 0] 23) = U at *
            generalize Y1.heap.size = N at *
            refine wpAnyH_ready (rs := [11]) (by kernel_rfl) (by simp) ?_
            refine' AllReadyH.cons (o := _) ?ho13 (fun K hK => ?st13) AllReadyH.nil
            case ho13 => simp only [List.getElem?_toArray, List.getElem?_cons_succ, List.getElem?_cons_zero]; rfl
            case st13 =>
              go_simp
              refine hK.out _ _ hS (fun hS => ?_)
              clear hK K
              try simp only [Act.put, List.setIfInBounds_toArray, List.set_cons_zero, List.set_cons_succ]
              refine wpAnyH_ready (rs := [12]) (by kernel_rfl) (by simp) ?_
              refine' AllReadyH.cons (o := _) ?ho14 (fun K hK => ?st14) AllReadyH.nil
              case ho14 => simp only [List.getElem?_toArray, List.getElem?_cons_succ, List.getElem?_cons_zero]; rfl
              case st14 =>
                have k0 : U.cell? ⟨N, 0, none⟩ = some (.string ⟨#[]⟩) := kN.cell 0
                have k1 : U.cell? ⟨N, 1, none⟩ = some (.int .i64 0) := kN.cell 1
                have f0 := kN.frozen 0
                have f1 := kN.frozen 1
                go_simp
                have kN' : Blk ((U.setCell ⟨N, 0, none⟩ (.string s)).setCell ⟨N, 1, none⟩ (.int .i64 ((k : Int) + 1))) N 23 [.string s, .int .i64 ((k : Int) + 1)] := (kN.set 0 (.string s)).set 1 (.int .i64 ((k : Int) + 1))
                have hS1 : Below wr.heap.size wr ((U.setCell ⟨N, 0, none⟩ (.string s)).setCell ⟨N, 1, none⟩ (.int .i64 ((k : Int) + 1))) := (hS.setCell (p := ⟨N, 0, none⟩) hN _).setCell (p := ⟨N, 1, none⟩) hN _
                refine hK.out _ _ hS1 (fun hS => ?_)
                clear hK K hS1 k0 k1 f0 f1 kN
                try simp only [Act.put, List.setIfInBounds_toArray, List.set_cons_zero, List.set_cons_succ]
                generalize World.setCell (World.setCell U ⟨N, 0, none⟩ (.string s)) ⟨N, 1, none⟩ (.int .i64 ((k : Int) + 1)) = U2 at *
                refine wpAnyH_ready (rs := [13]) (by kernel_rfl) (by simp) ?_
                refine' AllReadyH.cons (o := _) ?ho15 (fun K hK => ?st15) AllReadyH.nil
                case ho15 => simp only [List.getElem?_toArray, List.getElem?_cons_succ, List.getElem?_cons_zero]; rfl
                case st15 =>
                  go_simp
                  refine hK.out _ _ hS (fun hS => ?_)
                  clear hK K
                  try simp only [Act.put, List.setIfInBounds_toArray, List.set_cons_zero, List.set_cons_succ]
                  refine wpAnyH_done (by kernel_rfl) ?_ _
                  have kb2 := kb.below hS hBw
                  have ct2 := (hS.cell (p := ⟨b, off + k, none⟩) hbw).trans ct
                  have hxs2 := (hxs'.below hS (Nat.le_refl _)).mono (Nat.le_refl _) hS.size
                  have hB2' := hB.trans (hS.mono hNW)
                  have hBN : B ≠ N := by omega
                  have HBN := Lib.hid hBN
                  have hsz := sigB_size (s := s) (l := xl) H8.out
                  have hlf := sigB_leaf (s := s) (l := xl) H8.out
                  have htp := HTOP.out k xl H8.out
                  have hvn : verN (sigB s k xl) true = (k : Int) := by unfold verN; rw [if_pos rfl, hlf]
                  have HVN := Lib.hid hvn
                  have HVT := Lib.hid (fun w h => verify_top rb xl (.slice xa xl.length xc) (sigB s k xl) hsz (by rw [hlf]; exact H8.out) w (by omega) h true ⟨fun _ => htp, fun _ => rfl⟩)
                  clear hsz hlf htp hvn hS c0 c1 kb ct hxs' hB hBN hBw
                  generalize sigB s k xl = sg at *
                  go_wp2_with fail
                  refine (HVT.out _ hxs2).mono ?_
                  rw [HVN.out]
                  rintro e U3 ⟨rfl, hb3⟩
                  have kb3 := kb2.below hb3 kb2.lt
                  have kN3 := kN'.below hb3 kN'.lt
                  have hB3 := hB2'.trans (hb3.mono hB2'.size)
                  have n0 : U3.cell? ⟨N, 0, none⟩ = some (.string s) := kN3.cell 0
                  have n1 : U3.cell? ⟨N, 1, none⟩ = some (.int .i64 ((k : Int) + 1)) := kN3.cell 1
                  have b0 : U3.cell? ⟨B, 0, none⟩ = some (.string s) := kb3.cell 0
                  have b1 : U3.cell? ⟨B, 1, none⟩ = some (.int .i64 (k : Int)) := kb3.cell 1
                  have fb0 := kb3.frozen 0
                  have fb1 := kb3.frozen 1
                  clear kb2 kN' hb3 hB2' ct2 hxs2
                  go_wp2_with fail
                  go_roundw
                  case rel => exact ⟨k + 1, by have := HLT.out; have := HL.out; omega, H8.out, by simp, by have h := (kb3.set 0 (.string s)).set 1 (.int .i64 ((k : Int) + 1)); simpa using h, (hB3.setCell (p := ⟨B, 0, none⟩) hB2 _).setCell (p := ⟨B, 1, none⟩) hB2 _⟩
                  case measure => have := H8.out; simp [intOf]; omega
        case st7 =>
          go_simp
          have hN : wr.heap.size ≤ Y.heap.size := hS.size
          refine hK.out _ _ (hS.alloc hS.size _) (fun hS => ?_)
          clear hK K
          try simp only [Act.put, List.setIfInBounds_toArray, List.set_cons_zero, List.set_cons_succ]
          have kN0 : Blk (Y.alloc (.cells #[.string ⟨#[]⟩, .int .i64 0] 23)) Y.heap.size 23 [.string ⟨#[]⟩, .int .i64 0] := Blk.new Y _ _
          generalize Y.alloc (.cells #[.string ⟨#[]⟩, .int .i64 0] 23) = Y1 at *
          generalize Y.heap.size = N at *
          refine wpAnyH_ready (rs := [5]) (by kernel_rfl) (by simp) ?_
          refine' AllReadyH.cons (o := _) ?ho16 (fun K hK => ?st16) AllReadyH.nil
          case ho16 => simp only [List.getElem?_toArray, List.getElem?_cons_succ, List.getElem?_cons_zero]; rfl
          case st16 =>
            go_simp
            refine (HSG.out k H8.out xl _ _ (by omega) ((hxs'.below hS (Nat.le_refl _)).mono (Nat.le_refl _) hS.size)).mono ?_
            rintro e U ⟨rfl, hb1⟩
            refine hK.out _ _ (hS.trans (hb1.mono hS.size)) (fun hS => ?_)
            clear hK K
            try simp only [Act.put, List.setIfInBounds_toArray, List.set_cons_zero, List.set_cons_succ]
            have kN := kN0.below hb1 kN0.lt
            clear hb1 kN0
            refine' wpAnyH_take (i := 6) (oi := _) (v := _) ?hi17 (by kernel_rfl) (by kernel_rfl) (by kernel_rfl) ?hQ17 (Or.inl ⟨?hw17, ?hy17⟩) hS ?rest17
            case hi17 => simp only [List.getElem?_toArray, List.getElem?_cons_succ, List.getElem?_cons_zero]; rfl
            case hQ17 => exact fun _ _ _ h => h
            case hw17 => rfl
            case hy17 => intro W' hS'; go_simp; with_reducible rfl
            try simp only [Act.put, List.setIfInBounds_toArray, List.set_cons_zero, List.set_cons_succ]
            refine' wpAnyH_take (i := 7) (oi := _) (v := _) ?hi18 (by kernel_rfl) (by kernel_rfl) (by kernel_rfl) ?hQ18 (Or.inl ⟨?hw18, ?hy18⟩) hS ?rest18
            case hi18 => simp only [List.getElem?_toArray, List.getElem?_cons_succ, List.getElem?_cons_zero]; rfl
            case hQ18 => exact fun _ _ _ h => h
            case hw18 => rfl
            case hy18 => intro W' hS'; go_simp; with_reducible rfl
            try simp only [Act.put, List.setIfInBounds_toArray, List.set_cons_zero, List.set_cons_succ]
            refine' wpAnyH_take (i := 8) (oi := _) (v := _) ?hi19 (by kernel_rfl) (by kernel_rfl) (by kernel_rfl) ?hQ19 (Or.inl ⟨?hw19, ?hy19⟩) hS ?rest19
            case hi19 => simp only [List.getElem?_toArray, List.getElem?_cons_succ, List.getElem?_cons_zero]; rfl
            case hQ19 => exact fun _ _ _ h => h
            case hw19 => rfl
            case hy19 => intro W' hS'; go_simp; with_reducible rfl
            try simp only [Act.put, List.setIfInBounds_toArray, List.set_cons_zero, List.set_cons_succ]
            refine' wpAnyH_take (i := 9) (oi := _) (v := _) ?hi20 (by kernel_rfl) (by kernel_rfl) (by kernel_rfl) ?hQ20 (Or.inl ⟨?hw20, ?hy20⟩) hS ?rest20
            case hi20 => simp only [List.getElem?_toArray, List.getElem?_cons_succ, List.getElem?_cons_zero]; rfl
            case hQ20 => exact fun _ _ _ h => h
            case hw20 => rfl
            case hy20 => intro W' hS'; go_simp; with_reducible rfl
            try simp only [Act.put, List.setIfInBounds_toArray, List.set_cons_zero, List.set_cons_succ]
            refine wpAnyH_ready (rs := [11]) (by kernel_rfl) (by simp) ?_
            refine' AllReadyH.cons (o := _) ?ho21 (fun K hK => ?st21) AllReadyH.nil
            case ho21 => simp only [List.getElem?_toArray, List.getElem?_cons_succ, List.getElem?_cons_zero]; rfl
            case st21 =>
              go_simp
              refine hK.out _ _ hS (fun hS => ?_)
              clear hK K
              try simp only [Act.put, List.setIfInBounds_toArray, List.set_cons_zero, List.set_cons_succ]
              refine wpAnyH_ready (rs := [12]) (by kernel_rfl) (by simp) ?_
              refine' AllReadyH.cons (o := _) ?ho22 (fun K hK => ?st22) AllReadyH.nil
              case ho22 => simp only [List.getElem?_toArray, List.getElem?_cons_succ, List.getElem?_cons_zero]; rfl
              case st22 =>
                have k0 : U.cell? ⟨N, 0, none⟩ = some (.string ⟨#[]⟩) := kN.cell 0
                have k1 : U.cell? ⟨N, 1, none⟩ = some (.int .i64 0) := kN.cell 1
                have f0 := kN.frozen 0
                have f1 := kN.frozen 1
                go_simp
                have kN' : Blk ((U.setCell ⟨N, 0, none⟩ (.string s)).setCell ⟨N, 1, none⟩ (.int .i64 ((k : Int) + 1))) N 23 [.string s, .int .i64 ((k : Int) + 1)] := (kN.set 0 (.string s)).set 1 (.int .i64 ((k : Int) + 1))
                have hS1 : Below wr.heap.size wr ((U.setCell ⟨N, 0, none⟩ (.string s)).setCell ⟨N, 1, none⟩ (.int .i64 ((k : Int) + 1))) := (hS.setCell (p := ⟨N, 0, none⟩) hN _).setCell (p := ⟨N, 1, none⟩) hN _
                refine hK.out _ _ hS1 (fun hS => ?_)
                clear hK K hS1 k0 k1 f0 f1 kN
                try simp only [Act.put, List.setIfInBounds_toArray, List.set_cons_zero, List.set_cons_succ]
                generalize World.setCell (World.setCell U ⟨N, 0, none⟩ (.string s)) ⟨N, 1, none⟩ (.int .i64 ((k : Int) + 1)) = U2 at *
                refine wpAnyH_ready (rs := [13]) (by kernel_rfl) (by simp) ?_
                refine' AllReadyH.cons (o := _) ?ho23 (fun K hK => ?st23) AllReadyH.nil
                case ho23 => simp only [List.getElem?_toArray, List.getElem?_cons_succ, List.getElem?_cons_zero]; rfl
                case st23 =>
                  go_simp
                  refine hK.out _ _ hS (fun hS => ?_)
                  clear hK K
                  try simp only [Act.put, List.setIfInBounds_toArray, List.set_cons_zero, List.set_cons_succ]
                  refine wpAnyH_done (by kernel_rfl) ?_ _
                  have kb2 := kb.below hS hBw
                  have ct2 := (hS.cell (p := ⟨b, off + k, none⟩) hbw).trans ct
                  have hxs2 := (hxs'.below hS (Nat.le_refl _)).mono (Nat.le_refl _) hS.size
                  have hB2' := hB.trans (hS.mono hNW)
                  have hBN : B ≠ N := by omega
                  have HBN := Lib.hid hBN
                  have hsz := sigB_size (s := s) (l := xl) H8.out
                  have hlf := sigB_leaf (s := s) (l := xl) H8.out
                  have htp := HTOP.out k xl H8.out
                  have hvn : verN (sigB s k xl) true = (k : Int) := by unfold verN; rw [if_pos rfl, hlf]
                  have HVN := Lib.hid hvn
                  have HVT := Lib.hid (fun w h => verify_top rb xl (.slice xa xl.length xc) (sigB s k xl) hsz (by rw [hlf]; exact H8.out) w (by omega) h true ⟨fun _ => htp, fun _ => rfl⟩)
                  clear hsz hlf htp hvn hS c0 c1 kb ct hxs' hB hBN hBw
                  generalize sigB s k xl = sg at *
                  go_wp2_with fail
                  refine (HVT.out _ hxs2).mono ?_
                  rw [HVN.out]
                  rintro e U3 ⟨rfl, hb3⟩
                  have kb3 := kb2.below hb3 kb2.lt
                  have kN3 := kN'.below hb3 kN'.lt
                  have hB3 := hB2'.trans (hb3.mono hB2'.size)
                  have n0 : U3.cell? ⟨N, 0, none⟩ = some (.string s) := kN3.cell 0
                  have n1 : U3.cell? ⟨N, 1, none⟩ = some (.int .i64 ((k : Int) + 1)) := kN3.cell 1
                  have b0 : U3.cell? ⟨B, 0, none⟩ = some (.string s) := kb3.cell 0
                  have b1 : U3.cell? ⟨B, 1, none⟩ = some (.int .i64 (k : Int)) := kb3.cell 1
                  have fb0 := kb3.frozen 0
                  have fb1 := kb3.frozen 1
                  clear kb2 kN' hb3 hB2' ct2 hxs2
                  go_wp2_with fail
                  go_roundw
                  case rel => exact ⟨k + 1, by have := HLT.out; have := HL.out; omega, H8.out, by simp, by have h := (kb3.set 0 (.string s)).set 1 (.int .i64 ((k : Int) + 1)); simpa using h, (hB3.setCell (p := ⟨B, 0, none⟩) hB2 _).setCell (p := ⟨B, 1, none⟩) hB2 _⟩
                  case measure => have := H8.out; simp [intOf]; omega
      · obtain rfl : k = 8 := by omega
        have h8i : ((8 : Nat) : Int) = 8 := rfl
        rw [h8i] at c1 hlt' hk10 ⊢
        clear hk hk8 hlt8 h8i
        go_wp2_with fail
        refine wp_region_held_drew (S := fun W => Below wr.heap.size wr W) hmx (Below.refl _ wr).drew ?_
        intro hS
        generalize wr.drew = Y at *
        refine' wpAnyH_take (i := 0) (oi := _) (v := _) ?hi24 (by kernel_rfl) (by kernel_rfl) (by kernel_rfl) ?hQ24 (Or.inl ⟨?hw24, ?hy24⟩) hS ?rest24
        case hi24 => simp only [List.getElem?_toArray, List.getElem?_cons_zero]; rfl
        case hQ24 => exact fun _ _ _ h => h
        case hw24 => rfl
        case hy24 => intro W' hS'; have hc0 := (hS'.cell (p := ⟨B, 0, none⟩) hBw).trans c0; have hc1 := (hS'.cell (p := ⟨B, 1, none⟩) hBw).trans c1; go_simp; with_reducible rfl
        try simp only [Act.put, List.setIfInBounds_toArray, List.set_cons_zero, List.set_cons_succ]
        refine' wpAnyH_take (i := 1) (oi := _) (v := _) ?hi25 (by kernel_rfl) (by kernel_rfl) (by kernel_rfl) ?hQ25 (Or.inl ⟨?hw25, ?hy25⟩) hS ?rest25
        case hi25 => simp only [List.getElem?_toArray, List.getElem?_cons_succ, List.getElem?_cons_zero]; rfl
        case hQ25 => exact fun _ _ _ h => h
        case hw25 => rfl
        case hy25 => intro W' hS'; go_simp; with_reducible rfl
        try simp only [Act.put, List.setIfInBounds_toArray, List.set_cons_zero, List.set_cons_succ]
        refine' wpAnyH_take (i := 2) (oi := _) (v := _) ?hi26 (by kernel_rfl) (by kernel_rfl) (by kernel_rfl) ?hQ26 (Or.inl ⟨?hw26, ?hy26⟩) hS ?rest26
        case hi26 => simp only [List.getElem?_toArray, List.getElem?_cons_succ, List.getElem?_cons_zero]; rfl
        case hQ26 => exact fun _ _ _ h => h
        case hw26 => rfl
        case hy26 => intro W' hS'; go_simp; with_reducible rfl
        try simp only [Act.put, List.setIfInBounds_toArray, List.set_cons_zero, List.set_cons_succ]
        refine' wpAnyH_take (i := 3) (oi := _) (v := _) ?hi27 (by kernel_rfl) (by kernel_rfl) (by kernel_rfl) ?hQ27 (Or.inl ⟨?hw27, ?hy27⟩) hS ?rest27
        case hi27 => simp only [List.getElem?_toArray, List.getElem?_cons_succ, List.getElem?_cons_zero]; rfl
        case hQ27 => exact fun _ _ _ h => h
        case hw27 => rfl
        case hy27 => intro W' hS'; go_simp; with_reducible rfl
        try simp only [Act.put, List.setIfInBounds_toArray, List.set_cons_zero, List.set_cons_succ]
        refine' wpAnyH_take (i := 4) (oi := _) (v := _) ?hi28 (by kernel_rfl) (by kernel_rfl) (by kernel_rfl) ?hQ28 (Or.inl ⟨?hw28, ?hy28⟩) hS ?rest28
        case hi28 => simp only [List.getElem?_toArray, List.getElem?_cons_succ, List.getElem?_cons_zero]; rfl
        case hQ28 => exact fun _ _ _ h => h
        case hw28 => rfl
        case hy28 => intro W' hS'; have hc := (hS'.cell (p := ⟨b, off + 8, none⟩) hbw).trans ct; go_simp; with_reducible rfl
        try simp only [Act.put, List.setIfInBounds_toArray, List.set_cons_zero, List.set_cons_succ]
        refine wpAnyH_ready (rs := [5, 10]) (by kernel_rfl) (by simp) ?_
        refine' AllReadyH.cons (o := _) ?ho29 (fun K hK => ?st29) (AllReadyH.cons (o := _) ?ho30 (fun K hK => ?st30) AllReadyH.nil)
        case ho29 => simp only [List.getElem?_toArray, List.getElem?_cons_succ, List.getElem?_cons_zero]; rfl
        case ho30 => simp only [List.getElem?_toArray, List.getElem?_cons_succ, List.getElem?_cons_zero]; rfl
        case st29 =>
          go_simp
          refine (mssSign_full s _ _).mono ?_
          rintro e Y1 ⟨rfl, hb1⟩
          refine hK.out _ _ (hS.trans (hb1.mono hS.size)) (fun hS => ?_)
          clear hK K
          try simp only [Act.put, List.setIfInBounds_toArray, List.set_cons_zero, List.set_cons_succ]
          clear hb1
          refine' wpAnyH_take (i := 6) (oi := _) (v := _) ?hi31 (by kernel_rfl) (by kernel_rfl) (by kernel_rfl) ?hQ31 (Or.inl ⟨?hw31, ?hy31⟩) hS ?rest31
          case hi31 => simp only [List.getElem?_toArray, List.getElem?_cons_succ, List.getElem?_cons_zero]; rfl
          case hQ31 => exact fun _ _ _ h => h
          case hw31 => rfl
          case hy31 => intro W' hS'; go_simp; with_reducible rfl
          try simp only [Act.put, List.setIfInBounds_toArray, List.set_cons_zero, List.set_cons_succ]
          refine' wpAnyH_take (i := 7) (oi := _) (v := _) ?hi32 (by kernel_rfl) (by kernel_rfl) (by kernel_rfl) ?hQ32 (Or.inl ⟨?hw32, ?hy32⟩) hS ?rest32
          case hi32 => simp only [List.getElem?_toArray, List.getElem?_cons_succ, List.getElem?_cons_zero]; rfl
          case hQ32 => exact fun _ _ _ h => h
          case hw32 => rfl
          case hy32 => intro W' hS'; go_simp; with_reducible rfl
          try simp only [Act.put, List.setIfInBounds_toArray, List.set_cons_zero, List.set_cons_succ]
          refine' wpAnyH_take (i := 8) (oi := _) (v := _) ?hi33 (by kernel_rfl) (by kernel_rfl) (by kernel_rfl) ?hQ33 (Or.inl ⟨?hw33, ?hy33⟩) hS ?rest33
          case hi33 => simp only [List.getElem?_toArray, List.getElem?_cons_succ, List.getElem?_cons_zero]; rfl
          case hQ33 => exact fun _ _ _ h => h
          case hw33 => rfl
          case hy33 => intro W' hS'; go_simp; with_reducible rfl
          try simp only [Act.put, List.setIfInBounds_toArray, List.set_cons_zero, List.set_cons_succ]
          refine' wpAnyH_take (i := 9) (oi := _) (v := _) ?hi34 (by kernel_rfl) (by kernel_rfl) (by kernel_rfl) ?hQ34 (Or.inl ⟨?hw34, ?hy34⟩) hS ?rest34
          case hi34 => simp only [List.getElem?_toArray, List.getElem?_cons_succ, List.getElem?_cons_zero]; rfl
          case hQ34 => exact fun _ _ _ h => h
          case hw34 => rfl
          case hy34 => intro W' hS'; go_simp; with_reducible rfl
          try simp only [Act.put, List.setIfInBounds_toArray, List.set_cons_zero, List.set_cons_succ]
          refine wpAnyH_ready (rs := [10]) (by kernel_rfl) (by simp) ?_
          refine' AllReadyH.cons (o := _) ?ho35 (fun K hK => ?st35) AllReadyH.nil
          case ho35 => simp only [List.getElem?_toArray, List.getElem?_cons_succ, List.getElem?_cons_zero]; rfl
          case st35 =>
            go_simp
            have hN : wr.heap.size ≤ Y1.heap.size := hS.size
            refine hK.out _ _ (hS.alloc hS.size _) (fun hS => ?_)
            clear hK K
            try simp only [Act.put, List.setIfInBounds_toArray, List.set_cons_zero, List.set_cons_succ]
            have kN : Blk (Y1.alloc (.cells #[.string ⟨#[]⟩, .int .i64 0] 23)) Y1.heap.size 23 [.string ⟨#[]⟩, .int .i64 0] := Blk.new Y1 _ _
            generalize Y1.alloc (.cells #[.string ⟨#[]⟩, .int .i64 0] 23) = U at *
            generalize Y1.heap.size = N at *
            refine wpAnyH_ready (rs := [11]) (by kernel_rfl) (by simp) ?_
            refine' AllReadyH.cons (o := _) ?ho36 (fun K hK => ?st36) AllReadyH.nil
            case ho36 => simp only [List.getElem?_toArray, List.getElem?_cons_succ, List.getElem?_cons_zero]; rfl
            case st36 =>
              go_simp
              refine hK.out _ _ hS (fun hS => ?_)
              clear hK K
              try simp only [Act.put, List.setIfInBounds_toArray, List.set_cons_zero, List.set_cons_succ]
              refine wpAnyH_ready (rs := [12]) (by kernel_rfl) (by simp) ?_
              refine' AllReadyH.cons (o := _) ?ho37 (fun K hK => ?st37) AllReadyH.nil
              case ho37 => simp only [List.getElem?_toArray, List.getElem?_cons_succ, List.getElem?_cons_zero]; rfl
              case st37 =>
                have k0 : U.cell? ⟨N, 0, none⟩ = some (.string ⟨#[]⟩) := kN.cell 0
                have k1 : U.cell? ⟨N, 1, none⟩ = some (.int .i64 0) := kN.cell 1
                have f0 := kN.frozen 0
                have f1 := kN.frozen 1
                go_simp
                have kN' : Blk ((U.setCell ⟨N, 0, none⟩ (.string ⟨#[]⟩)).setCell ⟨N, 1, none⟩ (.int .i64 0)) N 23 [.string ⟨#[]⟩, .int .i64 0] := (kN.set 0 (.string ⟨#[]⟩)).set 1 (.int .i64 0)
                have hS1 : Below wr.heap.size wr ((U.setCell ⟨N, 0, none⟩ (.string ⟨#[]⟩)).setCell ⟨N, 1, none⟩ (.int .i64 0)) := (hS.setCell (p := ⟨N, 0, none⟩) hN _).setCell (p := ⟨N, 1, none⟩) hN _
                refine hK.out _ _ hS1 (fun hS => ?_)
                clear hK K hS1 k0 k1 f0 f1 kN
                try simp only [Act.put, List.setIfInBounds_toArray, List.set_cons_zero, List.set_cons_succ]
                generalize World.setCell (World.setCell U ⟨N, 0, none⟩ (.string ⟨#[]⟩)) ⟨N, 1, none⟩ (.int .i64 0) = U2 at *
                refine wpAnyH_ready (rs := [13]) (by kernel_rfl) (by simp) ?_
                refine' AllReadyH.cons (o := _) ?ho38 (fun K hK => ?st38) AllReadyH.nil
                case ho38 => simp only [List.getElem?_toArray, List.getElem?_cons_succ, List.getElem?_cons_zero]; rfl
                case st38 =>
                  go_simp
                  refine hK.out _ _ hS (fun hS => ?_)
                  clear hK K
                  try simp only [Act.put, List.setIfInBounds_toArray, List.set_cons_zero, List.set_cons_succ]
                  refine wpAnyH_done (by kernel_rfl) ?_ _
                  go_wp2_with fail
                  go_ret
                  exact ⟨rfl, hB.trans (hS.mono hNW)⟩
        case st30 =>
          go_simp
          have hN : wr.heap.size ≤ Y.heap.size := hS.size
          refine hK.out _ _ (hS.alloc hS.size _) (fun hS => ?_)
          clear hK K
          try simp only [Act.put, List.setIfInBounds_toArray, List.set_cons_zero, List.set_cons_succ]
          have kN0 : Blk (Y.alloc (.cells #[.string ⟨#[]⟩, .int .i64 0] 23)) Y.heap.size 23 [.string ⟨#[]⟩, .int .i64 0] := Blk.new Y _ _
          generalize Y.alloc (.cells #[.string ⟨#[]⟩, .int .i64 0] 23) = Y1 at *
          generalize Y.heap.size = N at *
          refine wpAnyH_ready (rs := [5]) (by kernel_rfl) (by simp) ?_
          refine' AllReadyH.cons (o := _) ?ho39 (fun K hK => ?st39) AllReadyH.nil
          case ho39 => simp only [List.getElem?_toArray, List.getElem?_cons_succ, List.getElem?_cons_zero]; rfl
          case st39 =>
            go_simp
            refine (mssSign_full s _ _).mono ?_
            rintro e U ⟨rfl, hb1⟩
            refine hK.out _ _ (hS.trans (hb1.mono hS.size)) (fun hS => ?_)
            clear hK K
            try simp only [Act.put, List.setIfInBounds_toArray, List.set_cons_zero, List.set_cons_succ]
            have kN := kN0.below hb1 kN0.lt
            clear hb1 kN0
            refine' wpAnyH_take (i := 6) (oi := _) (v := _) ?hi40 (by kernel_rfl) (by kernel_rfl) (by kernel_rfl) ?hQ40 (Or.inl ⟨?hw40, ?hy40⟩) hS ?rest40
            case hi40 => simp only [List.getElem?_toArray, List.getElem?_cons_succ, List.getElem?_cons_zero]; rfl
            case hQ40 => exact fun _ _ _ h => h
            case hw40 => rfl
            case hy40 => intro W' hS'; go_simp; with_reducible rfl
            try simp only [Act.put, List.setIfInBounds_toArray, List.set_cons_zero, List.set_cons_succ]
            refine' wpAnyH_take (i := 7) (oi := _) (v := _) ?hi41 (by kernel_rfl) (by kernel_rfl) (by kernel_rfl) ?hQ41 (Or.inl ⟨?hw41, ?hy41⟩) hS ?rest41
            case hi41 => simp only [List.getElem?_toArray, List.getElem?_cons_succ, List.getElem?_cons_zero]; rfl
            case hQ41 => exact fun _ _ _ h => h
            case hw41 => rfl
            case hy41 => intro W' hS'; go_simp; with_reducible rfl
            try simp only [Act.put, List.setIfInBounds_toArray, List.set_cons_zero, List.set_cons_succ]
            refine' wpAnyH_take (i := 8) (oi := _) (v := _) ?hi42 (by kernel_rfl) (by kernel_rfl) (by kernel_rfl) ?hQ42 (Or.inl ⟨?hw42, ?hy42⟩) hS ?rest42
            case hi42 => simp only [List.getElem?_toArray, List.getElem?_cons_succ, List.getElem?_cons_zero]; rfl
            case hQ42 => exact fun _ _ _ h => h
            case hw42 => rfl
            case hy42 => intro W' hS'; go_simp; with_reducible rfl
            try simp only [Act.put, List.setIfInBounds_toArray, List.set_cons_zero, List.set_cons_succ]
            refine' wpAnyH_take (i := 9) (oi := _) (v := _) ?hi43 (by kernel_rfl) (by kernel_rfl) (by kernel_rfl) ?hQ43 (Or.inl ⟨?hw43, ?hy43⟩) hS ?rest43
            case hi43 => simp only [List.getElem?_toArray, List.getElem?_cons_succ, List.getElem?_cons_zero]; rfl
            case hQ43 => exact fun _ _ _ h => h
            case hw43 => rfl
            case hy43 => intro W' hS'; go_simp; with_reducible rfl
            try simp only [Act.put, List.setIfInBounds_toArray, List.set_cons_zero, List.set_cons_succ]
            refine wpAnyH_ready (rs := [11]) (by kernel_rfl) (by simp) ?_
            refine' AllReadyH.cons (o := _) ?ho44 (fun K hK => ?st44) AllReadyH.nil
            case ho44 => simp only [List.getElem?_toArray, List.getElem?_cons_succ, List.getElem?_cons_zero]; rfl
            case st44 =>
              go_simp
              refine hK.out _ _ hS (fun hS => ?_)
              clear hK K
              try simp only [Act.put, List.setIfInBounds_toArray, List.set_cons_zero, List.set_cons_succ]
              refine wpAnyH_ready (rs := [12]) (by kernel_rfl) (by simp) ?_
              refine' AllReadyH.cons (o := _) ?ho45 (fun K hK => ?st45) AllReadyH.nil
              case ho45 => simp only [List.getElem?_toArray, List.getElem?_cons_succ, List.getElem?_cons_zero]; rfl
              case st45 =>
                have k0 : U.cell? ⟨N, 0, none⟩ = some (.string ⟨#[]⟩) := kN.cell 0
                have k1 : U.cell? ⟨N, 1, none⟩ = some (.int .i64 0) := kN.cell 1
                have f0 := kN.frozen 0
                have f1 := kN.frozen 1
                go_simp
                have kN' : Blk ((U.setCell ⟨N, 0, none⟩ (.string ⟨#[]⟩)).setCell ⟨N, 1, none⟩ (.int .i64 0)) N 23 [.string ⟨#[]⟩, .int .i64 0] := (kN.set 0 (.string ⟨#[]⟩)).set 1 (.int .i64 0)
                have hS1 : Below wr.heap.size wr ((U.setCell ⟨N, 0, none⟩ (.string ⟨#[]⟩)).setCell ⟨N, 1, none⟩ (.int .i64 0)) := (hS.setCell (p := ⟨N, 0, none⟩) hN _).setCell (p := ⟨N, 1, none⟩) hN _
                refine hK.out _ _ hS1 (fun hS => ?_)
                clear hK K hS1 k0 k1 f0 f1 kN
                try simp only [Act.put, List.setIfInBounds_toArray, List.set_cons_zero, List.set_cons_succ]
                generalize World.setCell (World.setCell U ⟨N, 0, none⟩ (.string ⟨#[]⟩)) ⟨N, 1, none⟩ (.int .i64 0) = U2 at *
                refine wpAnyH_ready (rs := [13]) (by kernel_rfl) (by simp) ?_
                refine' AllReadyH.cons (o := _) ?ho46 (fun K hK => ?st46) AllReadyH.nil
                case ho46 => simp only [List.getElem?_toArray, List.getElem?_cons_succ, List.getElem?_cons_zero]; rfl
                case st46 =>
                  go_simp
                  refine hK.out _ _ hS (fun hS => ?_)
                  clear hK K
                  try simp only [Act.put, List.setIfInBounds_toArray, List.set_cons_zero, List.set_cons_succ]
                  refine wpAnyH_done (by kernel_rfl) ?_ _
                  go_wp2_with fail
                  go_ret
                  exact ⟨rfl, hB.trans (hS.mono hNW)⟩
    · have hnl : ¬ (k : Int) < (zs.length : Int) := by omega
      go_wp2_with fail
      go_ret
      exact ⟨rfl, hB⟩
end Go.Proofs.Ytalmoaggancdjaa

namespace Go.Proofs.Ytalmoaggancdjaa
open Go.ChangeShapes Go.WideShapes Go.ChangeAt Go.RowKit Go.Deep
open Go.ChangeMaps (open_string)

set_option maxRecDepth 100000 in
theorem mssBack_lifted (os : Os) (started : os.Started) (H : Type) (enc : TypeId × Value → H) :
    ReturnsInHanded {} Try.checked os 5 .any (Rows.mssBackSpec.pre6 enc Try.prog Try.f5 Rows.mssBackRow.domain false) (Rows.mssBackSpec.post enc Try.prog Try.f5 false true false false) := by
  refine returnsInHanded_of_change_sized (C := Try.checked) Try.own started (by kernel_rfl) Try.func5
    (ChangeSpec.witness6 (enc := enc) (C := Try.checked) false ⟨#[], #[.string ⟨#[]⟩, .slice none 0 0], []⟩ 8 (by kernel_rfl) (by kernel_rfl) (by kernel_rfl) (by kernel_rfl)) ?_
  intro W base args ds gs before hval0 hW hcnd hsz0 _
  have hval : ∀ (j : Nat) t v, Try.f5.params[j]? = some t → args[j]? = some v → Value.okWide Try.prog W .any base t v := hval0
  have hW' := hW
  obtain ⟨p, q, hA0, hV, rfl, hfz, hnd⟩ := hW
  have hA : DataW.TrodAll enc Try.prog W 0 (fun _ => true) true Try.f5.params.toList args.toList ds p := hA0
  have hsz : (DataW.weightsEach Try.prog (Try.f5.params.toList ++ Rows.mssBackSpec.plain.varTypes Try.prog) (ds ++ gs)).all (· ≤ reachBytes) = true := hsz0
  rw [Try.params5] at hA hval hsz
  obtain ⟨v0, v1, d0, d1, p0, p1, rfl, rfl, rfl, h0, h1⟩ := trodAll_two hA
  obtain ⟨rfl, rfl⟩ := trodVars_none hV
  obtain ⟨a1, len1, cap1, rfl⟩ := okWide_slice Try.underlying39 (hval 1 39 v1 rfl rfl)
  have k0 := h0
  have k1 := h1
  have lt0 : ∀ x ∈ p0, x.block < W.heap.size := by obtain ⟨m, hm⟩ := k0; exact DataW.trod_lt m _ _ _ hm
  have lt1 : ∀ x ∈ p1, x.block < W.heap.size := by obtain ⟨m, hm⟩ := k1; exact DataW.trod_lt m _ _ _ hm
  obtain ⟨s0, rfl, ds0, _, _⟩ := open_string Try.underlying9 (hval 0 9 v0 rfl rfl) h0
  have hs0 : s0.size ≤ 140737488351232 := by
    have := sized_string hsz (j := 0) (t := 9) (bytes := s0.data.toList) rfl (by rw [ds0]; rfl)
    simp only [reachBytes] at this
    exact this
  obtain ⟨l1, hsl1, hm1⟩ := open_bytess_wide h1 (fun n hn => sized_in hsz (j := 1) (t := 39) rfl rfl n hn)
  clear hA0 hval0
  refine (mssBack_any (Nat.le_refl _) s0 (by omega) _ W l1 hm1 hsl1).mono fun e W' ⟨he, bel⟩ => ?_
  subst he
  exact ⟨_, rfl, _, _, _, [], _, [], hW', trodAll_mk1 (shut_bool Try.underlying4 _), (trodAll_mk2 (Below.trod Try.laidOut (by kernel_rfl) (of_decide_eq_true (by kernel_rfl)) k0 bel lt0) (Below.trod Try.laidOut (by kernel_rfl) (of_decide_eq_true (by kernel_rfl)) k1 bel lt1)), rfl, bel.frame _, fun h => by cases h⟩

theorem mssBack_over : Rows.mssBackRow.holds Try.pinned (OpenSpec.ofChange Rows.mssBackSpec) :=
  OpenClaim.holds_of_wide 5 Try.f5 rfl rfl rfl rfl rfl rfl rfl ⟨rfl, rfl, rfl, rfl, rfl⟩ rfl rfl rfl rfl rfl (by kernel_rfl) Try.func5 (by kernel_rfl)
    (of_decide_eq_true (by kernel_rfl)) (by unfold Func.isWrapper; first | (rw [if_pos (by decide +kernel)]; kernel_rfl) | (rw [if_neg (by decide +kernel)]; exact ⟨rfl, rfl⟩))
    (fun os started H enc _ => mssBack_lifted os started H enc)

/-- The statement. -/
theorem mssBack_proved : Rows.MssBackSaid := mssBack_over
end Go.Proofs.Ytalmoaggancdjaa
