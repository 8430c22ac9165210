/-
  A side's state, a transaction in memory: loads and stores as facts; how a part of the contract ends; Locks: the first one with a key; what stays of them; Slices of values of one cell each that are read; Slices of elements of n cells each: what is read of them, what the call's own are; Locks in memory: an element's place, its parts; strings are compared; escrow: what is held grows, or shrinks; purs
-/
import Derived.Deep.Cut
import Derived.Deep.CutRange
import Derived.Deep.DeepCutAuto
import Derived.Deep.CutBlock
import Derived.Laws.OwnMore
import Derived.Outline
import Derived.Test.YthhmdgmmeedhdaaGreatR03
namespace Go.Proofs.YthhmdgmmeedhdaaGreat
open Go.RowKit Go.Shelf
theorem Mem.sub {w W : World} {row : Option Nat} {l l' : List MB} (h : Mem w row l W) (hs : l'.Sublist l) : Mem w row l' W := ⟨fun x hx => h.1 x (hs.mem hx), h.2.1.sublist hs, h.2.2⟩
section
variable {W : World} {B : Nat} {T : TypeId} {s : Es} {v : Value}
theorem ld_no (h : Blk W B T (stc s v)) {i : Nat} (hi : i < 8) : (Instr.loadAt 3 (.pointer (some ⟨B, 130 + i, none⟩))).run Tryz.prog W = .ok (.int .i64 (s.no i)) W := ld_int h (130 + i) (st_noS s v hi)
theorem ld_heO (h : Blk W B T (stc s v)) {a : Nat} (ha : a < 2) : (Instr.loadAt 27 (.pointer (some ⟨B, 138 + a * 4, none⟩))).run Tryz.prog W = .ok (wn (s.he a)) W := ld_he h ha (by omega)
theorem sto_part {vs : List Value} (us : List Value) (h : Blk W B T vs) (o : Nat) (ty : TypeId) (x : Value) (ns : List Value) (hx : x.cells.toList = ns) (hi : (Tryz.prog.info? ty).map (·.size) = some ns.length) (hle : o + ns.length ≤ vs.length) (h1 : ns.all (·.oneCell') = true) (hl : laid vs o ns = us) :
  (Instr.storeAt ty (.pointer (some ⟨B, o, none⟩)) x).run Tryz.prog W = .ok () (W.setRow B us.toArray) := by
 subst hx; subst hl
 exact run_store_part h o x ty (by simpa using hi) (by simpa using hle) (by rw [← Array.all_toList]; exact h1)
theorem laid_one (vs : List Value) (o : Nat) (v : Value) (h : o < vs.length) : laid vs o [v] = vs.set o v := by
 unfold laid
 rw [List.set_eq_take_append_cons_drop, if_pos h, List.length_singleton, List.append_assoc]
 rfl
theorem sto_pu (h : Blk W B T (stc s v)) (b : Bk) : (Instr.storeAt 30 (.pointer (some ⟨B, 2, none⟩)) (bkv b)).run Tryz.prog W = .ok () (W.setRow B (stc { s with pu := b } v).toArray) :=
 sto_part _ h 2 _ _ (bkc b) rfl (by rw [bkc_len]; exact info_book) (by rw [bkc_len, stc_len]; omega) (one_book b) (set_pu s v b)
theorem sto_va (h : Blk W B T (stc s v)) (b : Bk) : (Instr.storeAt 30 (.pointer (some ⟨B, 66, none⟩)) (bkv b)).run Tryz.prog W = .ok () (W.setRow B (stc { s with va := b } v).toArray) :=
 sto_part _ h 66 _ _ (bkc b) rfl (by rw [bkc_len]; exact info_book) (by rw [bkc_len, stc_len]; omega) (one_book b) (set_va s v b)
theorem sto_he (h : Blk W B T (stc s v)) {a : Nat} (ha : a < 2) (n : Nat) : (Instr.storeAt 27 (.pointer (some ⟨B, 138 + a * 4, none⟩)) (wn n)).run Tryz.prog W = .ok () (W.setRow B (stc { s with he := updB s.he a n } v).toArray) :=
 sto_part _ h (138 + a * 4) _ _ (ws (nw n)) rfl (by rw [ws_len]; exact info_wide) (by rw [ws_len, stc_len]; omega) rfl (set_heO s v n ha (by omega))
theorem sto_bu (h : Blk W B T (stc s v)) (n : Nat) : (Instr.storeAt 27 (.pointer (some ⟨B, 146, none⟩)) (wn n)).run Tryz.prog W = .ok () (W.setRow B (stc { s with bu := n } v).toArray) :=
 sto_part _ h 146 _ _ (ws (nw n)) rfl (by rw [ws_len]; exact info_wide) (by rw [ws_len, stc_len]; omega) rfl (set_bu s v n)
theorem sto_no (h : Blk W B T (stc s v)) {i : Nat} (hi : i < 8) (z : Int) : (Instr.storeAt 3 (.pointer (some ⟨B, 130 + i, none⟩)) (.int .i64 z)).run Tryz.prog W = .ok () (W.setRow B (stc { s with no := updNo s.no i z } v).toArray) :=
 sto_part _ h (130 + i) _ _ [.int .i64 z] rfl (by kernel_rfl) (by rw [stc_len]; simp; omega) rfl (by rw [laid_one _ _ _ (by rw [stc_len]; omega)]; exact set_noS s v z hi)
theorem sto_tm (h : Blk W B T (stc s v)) (z : Int) : (Instr.storeAt 3 (.pointer (some ⟨B, 1, none⟩)) (.int .i64 z)).run Tryz.prog W = .ok () (W.setRow B (stc { s with tm := z } v).toArray) :=
 sto_part _ h 1 _ _ [.int .i64 z] rfl (by kernel_rfl) (by rw [stc_len]; simp) rfl (by rw [laid_one _ _ _ (by rw [stc_len]; omega)]; exact set_tm s v z)
theorem sto_lk (h : Blk W B T (stc s v)) {u : Value} (hu : u.oneCell' = true) (hc : u.cells.toList = [u]) : (Instr.storeAt 32 (.pointer (some ⟨B, 150, none⟩)) u).run Tryz.prog W = .ok () (W.setRow B (stc s u).toArray) :=
 sto_part _ h 150 _ _ [u] hc (by kernel_rfl) (by rw [stc_len]; simp) (by simp [hu]) (by rw [laid_one _ _ _ (by rw [stc_len]; omega)]; exact set_lk s v u)
theorem sto_st {vs : List Value} (h : Blk W B T vs) (hv : vs.length = 151) (s : Es) {u : Value} (hu : u.oneCell' = true) : (Instr.storeAt 34 (.pointer (some ⟨B, 0, none⟩)) (stv s u)).run Tryz.prog W = .ok () (W.setRow B (stc s u).toArray) :=
 sto_part _ h 0 _ _ (stc s u) rfl (by rw [stc_len]; exact info_st) (by rw [stc_len, hv]; exact Nat.le_refl _) (stc_one s u hu) (by unfold laid; rw [List.take_zero, List.nil_append, List.drop_of_length_le (by rw [stc_len, hv]; exact Nat.le_refl _), List.append_nil])
theorem sto_wn {m : Nat} (h : Blk W B T (ws (nw m))) (n : Nat) : (Instr.storeAt 27 (.pointer (some ⟨B, 0, none⟩)) (wn n)).run Tryz.prog W = .ok () (W.setRow B (ws (nw n)).toArray) :=
 sto_part _ h 0 _ _ (ws (nw n)) rfl (by rw [ws_len]; exact info_wide) (Nat.le_refl _) rfl (row_wn n m)
theorem sto_bk {c : Bk} (h : Blk W B T (bkc c)) (b : Bk) : (Instr.storeAt 30 (.pointer (some ⟨B, 0, none⟩)) (bkv b)).run Tryz.prog W = .ok () (W.setRow B (bkc b).toArray) :=
 sto_part _ h 0 _ _ (bkc b) rfl (by rw [bkc_len]; exact info_book) (by rw [bkc_len, bkc_len]; exact Nat.le_refl _) (one_book b) (row_book b (bkc_len c))
end
section
variable {W : World} {B : Nat} {T : TypeId} {t : Tr}
theorem wn_am (h : OkT t) : wv t.a0 t.a1 t.a2 t.a3 = wn (amT t) := wn_of h.a rfl
theorem wn_av (h : OkT t) : wv t.vr.a0 t.vr.a1 t.vr.a2 t.vr.a3 = wn (amV t) := wn_of h.v rfl
theorem wn_fe (h : OkT t) : wv t.f0 t.f1 t.f2 t.f3 = wn (feT t) := wn_of h.f rfl
theorem ld_am (h : Blk W B T (txc t)) (ht : OkT t) : (Instr.loadAt 27 (.pointer (some ⟨B, 4, none⟩))).run Tryz.prog W = .ok (wn (amT t)) W := by
 rw [← wn_am ht]; exact load_part h 4 [.int .u64 (t.a0 : Nat), .int .u64 (t.a1 : Nat), .int .u64 (t.a2 : Nat), .int .u64 (t.a3 : Nat)] rfl _ _ Tryz.underlying27 rfl (by kernel_rfl)
theorem ld_av (h : Blk W B T (txc t)) (ht : OkT t) : (Instr.loadAt 27 (.pointer (some ⟨B, 15, none⟩))).run Tryz.prog W = .ok (wn (amV t)) W := by
 rw [← wn_av ht]; exact load_part h 15 [.int .u64 (t.vr.a0 : Nat), .int .u64 (t.vr.a1 : Nat), .int .u64 (t.vr.a2 : Nat), .int .u64 (t.vr.a3 : Nat)] rfl _ _ Tryz.underlying27 rfl (by kernel_rfl)
theorem ld_fe (h : Blk W B T (txc t)) (ht : OkT t) : (Instr.loadAt 27 (.pointer (some ⟨B, 20, none⟩))).run Tryz.prog W = .ok (wn (feT t)) W := by
 rw [← wn_fe ht]; exact load_part h 20 [.int .u64 (t.f0 : Nat), .int .u64 (t.f1 : Nat), .int .u64 (t.f2 : Nat), .int .u64 (t.f3 : Nat)] rfl _ _ Tryz.underlying27 rfl (by kernel_rfl)
theorem ld_iv (h : Blk W B T (txc t)) : (Instr.loadAt 46 (.pointer (some ⟨B, 8, none⟩))).run Tryz.prog W = .ok (ivv t.iv) W := load_part h 8 (ivc t.iv) rfl _ _ Tryz.underlying46 rfl (by kernel_rfl)
theorem ld_vr (h : Blk W B T (txc t)) : (Instr.loadAt 48 (.pointer (some ⟨B, 15, none⟩))).run Tryz.prog W = .ok (svv t.vr) W := load_part h 15 (svc t.vr) rfl _ _ Tryz.underlying48 rfl (by kernel_rfl)
theorem ld_tx (h : Blk W B T (txc t)) : (Instr.loadAt 50 (.pointer (some ⟨B, 0, none⟩))).run Tryz.prog W = .ok (txv t) W := load_part h 0 (txc t) rfl _ _ Tryz.underlying50 rfl (by kernel_rfl)
end
theorem idx_arr {W : World} {ty : TypeId} {n e c : Nat} (hu : Tryz.prog.underlying ty = some (.array n e)) (hs : (sizeOf e).run Tryz.prog W = .ok c W) {B o : Nat} {k : Nat} (hk : k < n) :
  (Instr.indexAt ty (.pointer (some ⟨B, o, none⟩)) (.int .i64 (k : Int))).run Tryz.prog W = .ok (.pointer (some ⟨B, o + k * c, none⟩)) W := by
 have h1 : (0 : Int) ≤ (k : Int) ∧ (k : Int) < n := ⟨by omega, by omega⟩
 simp [Instr.indexAt, run_underlying hu, asIntOf, h1, hs, go_sem]
 intro h
 omega
theorem idx_no {W : World} {B o k : Nat} (hk : k < 8) : (Instr.indexAt 31 (.pointer (some ⟨B, o, none⟩)) (.int .i64 (k : Int))).run Tryz.prog W = .ok (.pointer (some ⟨B, o + k, none⟩)) W := by
 have h := idx_arr (W := W) (B := B) (o := o) (c := 1) Tryz.underlying31 (by kernel_rfl) hk
 rw [Nat.mul_one] at h; exact h
theorem idx_he {W : World} {B o k : Nat} (hk : k < 2) : (Instr.indexAt 28 (.pointer (some ⟨B, o, none⟩)) (.int .i64 (k : Int))).run Tryz.prog W = .ok (.pointer (some ⟨B, o + k * 4, none⟩)) W :=
 idx_arr Tryz.underlying28 (by kernel_rfl) hk
theorem idx_noI {W : World} {B o : Nat} {z : Int} (h : 0 ≤ z ∧ z ≤ 7) : (Instr.indexAt 31 (.pointer (some ⟨B, o, none⟩)) (.int .i64 z)).run Tryz.prog W = .ok (.pointer (some ⟨B, o + z.toNat, none⟩)) W := by
 obtain ⟨k, rfl⟩ : ∃ k : Nat, z = k := ⟨z.toNat, by omega⟩
 exact idx_no (by omega)
def BlkN (W : World) (B : Nat) : Prop := ∃ vs : List Value, vs.length = 151 ∧ Blk W B 34 vs
theorem BlkN.of {W : World} {B : Nat} {s : Es} {v : Value} (h : Blk W B 34 (stc s v)) : BlkN W B := ⟨_, stc_len s v, h⟩
def EndE (w : World) (B : Nat) (v : Value) (p : Es × Int) (e : Ending) (W' : World) : Prop :=
 w.grownBy W' (some B) ∧ ((p.2 = 0 ∧ e = .returned (.tuple #[]) ∧ Blk W' B 34 (stc p.1 v)) ∨ (p.2 ≠ 0 ∧ Pan p.2 e ∧ BlkN W' B))
theorem grownBy_trans {w W W' : World} {row : Option Nat} (h : w.grownBy W row) (h' : W.grownBy W' row) : w.grownBy W' row :=
 ⟨h'.os.trans h.os, h'.tape.trans h.tape, h'.output.trans h.output, Nat.le_trans h.size h'.size, fun k hk hr => (h'.block k (Nat.lt_of_lt_of_le hk h.size) hr).trans (h.block k hk hr)⟩
theorem EndE.fail {w W W' : World} {B : Nat} {v : Value} {p q : Es × Int} {e : Ending} (hg : w.grownBy W (some B)) (h : EndE W B v q e W') (hq : q.2 ≠ 0) (hp : p.2 = q.2) : EndE w B v p e W' := by
 obtain ⟨h1, h2⟩ := h
 refine ⟨grownBy_trans hg h1, .inr ?_⟩
 rw [hp]
 rcases h2 with ⟨h0, _⟩ | h2
 ·
  exact absurd h0 hq
 ·
  exact h2
theorem EndE.last {w W W' : World} {B : Nat} {v : Value} {p q : Es × Int} {e : Ending} (hg : w.grownBy W (some B)) (h : EndE W B v q e W') (hp : p = q) : EndE w B v p e W' := by
 subst hp
 exact ⟨grownBy_trans hg h.1, h.2⟩
theorem EndE.pan {w W : World} {B : Nat} {v : Value} {p : Es × Int} {e : Ending} {c : Int} (hg : w.grownBy W (some B)) (hc : c ≠ 0) (hp : p.2 = c) (he : Pan c e) (hB : BlkN W B) : EndE w B v p e W := ⟨hg, .inr ⟨by rw [hp]; exact hc, by rw [hp]; exact he, hB⟩⟩
theorem EndE.ok {w W : World} {B : Nat} {v : Value} {p : Es × Int} {s : Es} (hg : w.grownBy W (some B)) (hp : p = (s, 0)) (hB : Blk W B 34 (stc s v)) : EndE w B v p (.returned (.tuple #[])) W := by
 subst hp
 exact ⟨hg, .inl ⟨rfl, rfl, hB⟩⟩
theorem EndE.two {w W : World} {B : Nat} {v : Value} {p : Es × Int} {e : Ending} (h : EndE w B v p e W) : (p.2 = 0 ∧ e = .returned (.tuple #[]) ∧ w.grownBy W (some B) ∧ Blk W B 34 (stc p.1 v)) ∨ (p.2 ≠ 0 ∧ e = .panicked [{ v := .iface 106 (.int .i64 p.2), recovered := false }] ∧ EndE w B v p e W) := by
 rcases h.2 with ⟨h0, he, hB⟩ | ⟨h0, he, _⟩
 ·
  exact .inl ⟨h0, he, h.1, hB⟩
 ·
  exact .inr ⟨h0, he, h⟩
theorem must_two (b : Bk) (c : Int) (w : World) : Calls Tryz.prog 62 #[bkv b, .int .i64 c] w fun e W' => (c = 0 ∧ e = .returned (bkv b) ∧ Below w.heap.size w W') ∨ (c ≠ 0 ∧ e = .panicked [{ v := .iface 106 (.int .i64 c), recovered := false }] ∧ Below w.heap.size w W') :=
 (must_any b c w).mono fun e W' h => by
  rcases h with ⟨⟨h1, h2⟩ | ⟨h1, h2⟩, h3⟩
  ·
   exact .inl ⟨h1, h2, h3⟩
  ·
   exact .inr ⟨h1, h2, h3⟩
theorem demand_any (b : Bool) (c : Int) (w : World) : Calls Tryz.prog 59 #[.bool b, .int .i64 c] w fun e W' => (b = true ∧ e = .returned (.tuple #[]) ∧ W' = w) ∨ (b = false ∧ e = .panicked [{ v := .iface 106 (.int .i64 c), recovered := false }] ∧ W' = w) := by
 cases b
 ·
  exact (demand_no c w).mono fun e W' h => .inr ⟨rfl, h.1, h.2⟩
 ·
  exact (demand_yes c w).mono fun e W' h => .inl ⟨rfl, h.1, h.2⟩
end Go.Proofs.YthhmdgmmeedhdaaGreat
namespace Go.Proofs.YthhmdgmmeedhdaaGreat
open Go.RowKit Go.Shelf
theorem place_some {l : List Lk} {k : ByteArray} {i : Nat} (h : placeE l k = some i) : i < l.length ∧ (∃ x : Lk, l[i]? = some x ∧ x.ke = k) ∧ ∀ (j : Nat) (y : Lk), j < i → l[j]? = some y → y.ke ≠ k := by
 unfold placeE at h
 obtain ⟨hi, h1, h2⟩ := List.findIdx?_eq_some_iff_getElem.1 h
 refine ⟨hi, ⟨_, List.getElem?_eq_getElem hi, of_decide_eq_true h1⟩, fun j y hj hy => ?_⟩
 obtain ⟨hjl, rfl⟩ := List.getElem?_eq_some_iff.1 hy
 have := h2 j hj
 exact fun e => this (decide_eq_true e)
theorem place_none {l : List Lk} {k : ByteArray} (h : placeE l k = none) : ∀ (j : Nat) (y : Lk), l[j]? = some y → y.ke ≠ k := by
 unfold placeE at h
 intro j y hy
 have := List.findIdx?_eq_none_iff.1 h y (List.mem_of_getElem? hy)
 exact of_decide_eq_false this
theorem place_at {l : List Lk} {k : ByteArray} {i : Nat} {x : Lk} (hx : l[i]? = some x) (hk : x.ke = k) (h : ∀ (j : Nat) (y : Lk), j < i → l[j]? = some y → y.ke ≠ k) : placeE l k = some i := by
 cases hp : placeE l k with
 | none => exact absurd hk (place_none hp i x hx)
 | some j =>
  obtain ⟨_, ⟨y, hy, hky⟩, hl⟩ := place_some hp
  rcases Nat.lt_trichotomy j i with hlt | heq | hgt
  ·
   exact absurd hky (h j y hlt hy)
  ·
   rw [heq]
  ·
   exact absurd hk (hl i x hgt hx)
theorem place_not {l : List Lk} {k : ByteArray} (h : ∀ (j : Nat) (y : Lk), l[j]? = some y → y.ke ≠ k) : placeE l k = none := by
 cases hp : placeE l k with
 | none => rfl
 | some i =>
  obtain ⟨_, ⟨y, hy, hky⟩, _⟩ := place_some hp
  exact absurd hky (h i y hy)
theorem end_len (l : List Lk) (i : Nat) (st : Int) : (endE l i st).length = l.length := by unfold endE; rw [List.length_modify]
theorem end_at {l : List Lk} {i : Nat} {x : Lk} (h : l[i]? = some x) (st : Int) : endE l i st = l.set i { x with st := st } := by
 unfold endE
 apply List.ext_getElem?
 intro j
 rw [List.getElem?_modify, List.getElem?_set]
 by_cases e : i = j
 ·
  subst e
  obtain ⟨hl, rfl⟩ := List.getElem?_eq_some_iff.1 h
  simp [hl]
 ·
  simp [e]
theorem lk_stays {l l' : List Lk} (h : LkE l l') : l.length ≤ l'.length ∧ l'.length ≤ l.length + 1 ∧ ∀ (i : Nat) (x : Lk), l[i]? = some x → ∃ y : Lk, l'[i]? = some y ∧ y.ke = x.ke ∧ y.dg = x.dg ∧ (y.st = x.st ∨ x.st = 1) := by
 rcases h with rfl | ⟨z, _, rfl⟩ | ⟨j, z, st, hz, hz1, _, rfl⟩
 ·
  exact ⟨Nat.le_refl _, Nat.le_add_right _ _, fun i x hx => ⟨x, hx, rfl, rfl, .inl rfl⟩⟩
 ·
  refine ⟨by simp, by simp, fun i x hx => ⟨x, ?_, rfl, rfl, .inl rfl⟩⟩
  rw [List.getElem?_append_left (List.getElem?_eq_some_iff.1 hx).1]
  exact hx
 ·
  refine ⟨by rw [end_len]; exact Nat.le_refl _, by rw [end_len]; omega, fun i x hx => ?_⟩
  rw [end_at hz]
  by_cases e : j = i
  ·
   subst e
   obtain rfl : z = x := by rw [hz] at hx; exact Option.some.inj hx
   exact ⟨{ z with st := st }, by rw [List.getElem?_set_self (List.getElem?_eq_some_iff.1 hx).1], rfl, rfl, .inr hz1⟩
  ·
   exact ⟨x, by rw [List.getElem?_set_ne e]; exact hx, rfl, rfl, .inl rfl⟩
end Go.Proofs.YthhmdgmmeedhdaaGreat
namespace Go.Proofs.YthhmdgmmeedhdaaGreat
open Go.RowKit Go.Shelf
abbrev iv (x : Int) : Value := .int .i64 x
abbrev tv (s : ByteArray) : Value := .string s
def Row (W : World) (b off : Nat) (vs : List Value) : Prop := ∀ k v, vs[k]? = some v → W.cell? ⟨b, off + k, none⟩ = some v
theorem Row.below {W W' : World} {n b off : Nat} {vs : List Value} (h : Row W b off vs) (hb : Below n W W') (hlt : b < n) : Row W' b off vs := fun k x hx => (hb.cell (p := ⟨b, _, none⟩) hlt).trans (h k x hx)
theorem Row.kept {W W' : World} {row : Option Nat} {b off : Nat} {vs : List Value} (h : Row W b off vs) (hb : b < W.heap.size) (hg : W.grownBy W' row) (hne : some b ≠ row) : Row W' b off vs := fun k x hx =>
 (World.cell?_of_block (a := ⟨b, _, none⟩) (hg.block b hb hne)).trans (h k x hx)
theorem Row.own {W W' : World} {row : Option Nat} {b off : Nat} {vs : List Value} (h : Row W b off vs) (hb : b < W.heap.size) (hg : W.grownBy W' row) (hr : ∀ r, row = some r → ∃ o : Obj, W.heap[r]? = some o ∧ o.isCells = false) : Row W' b off vs := fun k x hx => by
 have hc := h k x hx
 refine (World.cell?_of_block (a := ⟨b, _, none⟩) (hg.block b hb (fun e => ?_))).trans hc
 obtain ⟨o, ho, hoc⟩ := hr b e.symm
 simp only [World.cell?, ho] at hc
 cases o <;> first | (cases hoc; done) | (simp at hc)
def VSl (lo hi : Nat) (W : World) (sv : Value) (vs : List Value) : Prop :=
 ∃ a cap, sv = .slice a vs.length cap ∧ vs.length ≤ cap ∧ (vs = [] ∨ ∃ b off, a = some ⟨b, off, none⟩ ∧ lo ≤ b ∧ b < hi ∧ Row W b off vs)
theorem VSl.mono {lo hi lo' hi' : Nat} {W : World} {sv : Value} {vs : List Value} (h : VSl lo hi W sv vs) (h1 : lo' ≤ lo) (h2 : hi ≤ hi') : VSl lo' hi' W sv vs := by
 obtain ⟨a, cap, e, hc, h0 | ⟨b, off, ha, hl, hh, ho⟩⟩ := h
 ·
  exact ⟨a, cap, e, hc, .inl h0⟩
 ·
  exact ⟨a, cap, e, hc, .inr ⟨b, off, ha, by omega, by omega, ho⟩⟩
theorem VSl.below {lo hi m : Nat} {W W' : World} {sv : Value} {vs : List Value} (h : VSl lo hi W sv vs) (hb : Below m W W') (hm : hi ≤ m) : VSl lo hi W' sv vs := by
 obtain ⟨a, cap, e, hc, h0 | ⟨b, off, ha, hl, hh, ho⟩⟩ := h
 ·
  exact ⟨a, cap, e, hc, .inl h0⟩
 ·
  exact ⟨a, cap, e, hc, .inr ⟨b, off, ha, hl, hh, ho.below hb (by omega)⟩⟩
theorem VSl.nil (lo hi : Nat) (W : World) : VSl lo hi W (.slice none 0 0) [] := ⟨none, 0, rfl, Nat.le_refl _, .inl rfl⟩
theorem VSl.of_own {W : World} {lo : Nat} {e : TypeId} {v : Value} {vs : List Value} (h : W.ownsRow lo e 1 v vs.length vs) : VSl lo W.heap.size W v vs := by
 rcases Nat.eq_zero_or_pos vs.length with h0 | h0
 ·
  have hl : vs = [] := List.eq_nil_of_length_eq_zero h0
  subst hl
  rcases h.2 with ⟨rfl, _⟩ | ⟨g, cap, cur, rfl, _, _, hnc, _⟩
  ·
   exact VSl.nil _ _ _
  ·
   exact ⟨_, cap, rfl, hnc, .inl rfl⟩
 ·
  obtain ⟨hl, ⟨_, h1⟩ | ⟨g, cap, cur, rfl, hg, hb, hnc, hcm, hsz, htake⟩⟩ := h
  ·
   omega
  ·
   refine ⟨_, cap, rfl, hnc, .inr ⟨g, 0, rfl, hg, (Array.getElem?_eq_some_iff.1 hb).1, fun k x hk => ?_⟩⟩
   have hkl : k < vs.length := (List.getElem?_eq_some_iff.1 hk).1
   have e' : cur[k]? = (cur.toList.take (vs.length * 1))[k]? := by
    rw [List.getElem?_take_of_lt (by omega)]
    simp
   simp only [World.cell?, hb, Nat.zero_add]
   rw [show (if (none : Option Nat).isSome = true then (none : Option Value) else cur[k]?) = cur[k]? from rfl, e', htake]
   exact hk
theorem VSl.slice {lo hi : Nat} {W : World} {sv : Value} {vs : List Value} (h : VSl lo hi W sv vs) : ∃ a c, sv = .slice a vs.length c := by
 obtain ⟨a, c, e, _⟩ := h
 exact ⟨a, c, e⟩
theorem own_ne {W : World} {base : Nat} {e t : TypeId} {v x : Value} {n : Nat} {xs : List Value} {B : Nat} (h : W.ownsRow base e 1 v n xs) (hb : Boxed W B t x) (hne : B < base ∨ 2 ≤ n) : some B ≠ v.ownBlock := fun e' => by
 rcases h.2 with ⟨rfl, _⟩ | ⟨g, cap, cur, rfl, hg, hc, hnc, _, hsz, _⟩
 ·
  simp [Value.ownBlock] at e'
 ·
  obtain rfl : B = g := by simpa [Value.ownBlock] using e'
  rw [show W.heap[B]? = _ from hb] at hc
  cases hc
  simp at hsz
  omega
end Go.Proofs.YthhmdgmmeedhdaaGreat
namespace Go.Proofs.YthhmdgmmeedhdaaGreat
open Go.RowKit Go.Shelf
section
variable {α : Type} {f : α → List Value} {n : Nat}
def flatR (f : α → List Value) (l : List α) : List Value := l.flatMap f
theorem flat_nil : flatR f [] = [] := rfl
theorem flat_cons (x : α) (l : List α) : flatR f (x :: l) = f x ++ flatR f l := rfl
theorem flat_app (l m : List α) : flatR f (l ++ m) = flatR f l ++ flatR f m := List.flatMap_append
theorem flat_one (x : α) : flatR f [x] = f x := by rw [flat_cons, flat_nil, List.append_nil]
theorem flat_len (hn : ∀ x, (f x).length = n) (l : List α) : (flatR f l).length = l.length * n := by
 induction l with
 | nil => simp [flatR]
 | cons x l ih => rw [flat_cons, List.length_append, ih, hn, List.length_cons, Nat.succ_mul]; omega
theorem flat_drop (hn : ∀ x, (f x).length = n) (l : List α) (k : Nat) : (flatR f l).drop (k * n) = flatR f (l.drop k) := by
 induction l generalizing k with
 | nil => simp [flatR]
 | cons x l ih =>
  cases k with
  | zero => simp
  | succ k => rw [flat_cons, Nat.succ_mul, Nat.add_comm, ← List.drop_drop, List.drop_left' (hn x), ih, List.drop_succ_cons]
theorem flat_at (hn : ∀ x, (f x).length = n) {l : List α} {k : Nat} {x : α} (hx : l[k]? = some x) : ((flatR f l).drop (k * n)).take n = f x := by
 obtain ⟨hk, rfl⟩ := List.getElem?_eq_some_iff.1 hx
 rw [flat_drop hn, ← List.getElem_cons_drop hk, flat_cons, List.take_left' (hn _)]
theorem flat_cell (hn : ∀ x, (f x).length = n) {l : List α} {k j : Nat} {x : α} (hx : l[k]? = some x) (hj : j < n) : (flatR f l)[k * n + j]? = (f x)[j]? := by
 rw [← flat_at hn hx, List.getElem?_take_of_lt hj, List.getElem?_drop]
theorem flat_set (hn : ∀ x, (f x).length = n) {l : List α} {k j : Nat} {x y : α} {v : Value} (hx : l[k]? = some x) (hj : j < n) (hy : f y = (f x).set j v) : (flatR f l).set (k * n + j) v = flatR f (l.set k y) := by
 induction l generalizing k with
 | nil => simp at hx
 | cons z l ih =>
  cases k with
  | zero =>
   obtain rfl : z = x := by simpa using hx
   rw [Nat.zero_mul, Nat.zero_add, flat_cons, List.set_cons_zero, flat_cons, hy, List.set_append_left _ _ (by rw [hn]; exact hj)]
  | succ k =>
   rw [flat_cons, List.set_cons_succ, flat_cons, ← ih (by simpa using hx), List.set_append_right _ _ (by rw [hn, Nat.succ_mul]; omega), hn]
   congr 2
   rw [Nat.succ_mul]
   omega
def RSl (f : α → List Value) (lo hi : Nat) (W : World) (sv : Value) (l : List α) : Prop :=
 ∃ a cap, sv = .slice a l.length cap ∧ l.length ≤ cap ∧ cap ≤ maxLen ∧ (l = [] ∨ ∃ b off, a = some ⟨b, off, none⟩ ∧ lo ≤ b ∧ b < hi ∧ Row W b off (flatR f l))
theorem RSl.mono {lo hi lo' hi' : Nat} {W : World} {sv : Value} {l : List α} (h : RSl f lo hi W sv l) (h1 : lo' ≤ lo) (h2 : hi ≤ hi') : RSl f lo' hi' W sv l := by
 obtain ⟨a, cap, e, hc, hm, h0 | ⟨b, off, ha, hl, hh, ho⟩⟩ := h
 ·
  exact ⟨a, cap, e, hc, hm, .inl h0⟩
 ·
  exact ⟨a, cap, e, hc, hm, .inr ⟨b, off, ha, by omega, by omega, ho⟩⟩
theorem RSl.below {lo hi m : Nat} {W W' : World} {sv : Value} {l : List α} (h : RSl f lo hi W sv l) (hb : Below m W W') (hm : hi ≤ m) : RSl f lo hi W' sv l := by
 obtain ⟨a, cap, e, hc, hx, h0 | ⟨b, off, ha, hl, hh, ho⟩⟩ := h
 ·
  exact ⟨a, cap, e, hc, hx, .inl h0⟩
 ·
  exact ⟨a, cap, e, hc, hx, .inr ⟨b, off, ha, hl, hh, ho.below hb (by omega)⟩⟩
theorem RSl.up {W W' : World} {sv : Value} {l : List α} (h : RSl f 0 W.heap.size W sv l) (hb : Below W.heap.size W W') : RSl f 0 W'.heap.size W' sv l := (h.below hb (Nat.le_refl _)).mono (Nat.le_refl _) hb.size
theorem RSl.kept {lo hi : Nat} {W W' : World} {row : Option Nat} {sv : Value} {l : List α} (h : RSl f lo hi W sv l) (hi' : hi ≤ W.heap.size) (hg : W.grownBy W' row) (hne : ∀ r, row = some r → r < lo ∨ hi ≤ r) : RSl f lo hi W' sv l := by
 obtain ⟨a, cap, e, hc, hx, h0 | ⟨b, off, ha, hl, hh, ho⟩⟩ := h
 ·
  exact ⟨a, cap, e, hc, hx, .inl h0⟩
 ·
  exact ⟨a, cap, e, hc, hx, .inr ⟨b, off, ha, hl, hh, ho.kept (by omega) hg (fun e => by have := hne b e.symm; omega)⟩⟩
theorem RSl.nil (lo hi : Nat) (W : World) : RSl f lo hi W (.slice none 0 0) [] := ⟨none, 0, rfl, Nat.le_refl _, Nat.zero_le _, .inl rfl⟩
theorem RSl.slice {lo hi : Nat} {W : World} {sv : Value} {l : List α} (h : RSl f lo hi W sv l) : ∃ a c, sv = .slice a l.length c := by
 obtain ⟨a, c, e, _⟩ := h
 exact ⟨a, c, e⟩
theorem RSl.len {lo hi : Nat} {W : World} {sv : Value} {l : List α} (h : RSl f lo hi W sv l) : l.length ≤ maxLen := by
 obtain ⟨a, c, _, h1, h2, _⟩ := h
 exact Nat.le_trans h1 h2
theorem RSl.at {lo hi : Nat} {W : World} {a : Option Addr} {len cap : Nat} {l : List α} (h : RSl f lo hi W (.slice a len cap) l) (hl : l ≠ []) : len = l.length ∧ len ≤ cap ∧ ∃ b off, a = some ⟨b, off, none⟩ ∧ lo ≤ b ∧ b < hi ∧ Row W b off (flatR f l) := by
 obtain ⟨a', c', e, hc, _, h0 | ⟨b, off, ha, h1, h2, h3⟩⟩ := h
 ·
  exact absurd h0 hl
 ·
  cases e
  exact ⟨rfl, hc, b, off, ha, h1, h2, h3⟩
theorem Row.elem {W : World} {b off : Nat} {l : List α} (h : Row W b off (flatR f l)) (hn : ∀ x, (f x).length = n) {k j : Nat} {x : α} (hx : l[k]? = some x) (hj : j < n) : W.cell? ⟨b, off + k * n + j, none⟩ = (f x)[j]? := by
 have hl : j < (f x).length := by rw [hn]; exact hj
 have h1 := flat_cell hn hx hj
 rw [List.getElem?_eq_getElem hl] at h1 ⊢
 rw [Nat.add_assoc]
 exact h _ _ h1
theorem load_elem {W : World} {b off : Nat} {l : List α} (h : Row W b off (flatR f l)) (hn : ∀ x, (f x).length = n) {k : Nat} {x : α} (hx : l[k]? = some x) (ty : TypeId) (d : TypeDesc) (hu : Tryz.prog.underlying ty = some d)
  (hd : (match d with | .struct _ | .array _ _ => true | _ => false) = true) (hi : (Tryz.prog.info? ty).map (·.size) = some n) :
  (Instr.loadAt ty (.pointer (some ⟨b, off + k * n, none⟩))).run Tryz.prog W = .ok (.agg (f x).toArray) W := by
 have hl : (loadCells ⟨b, off + k * n, none⟩ (f x).length).run Tryz.prog W = .ok (f x).toArray W :=
  run_loadCells_list (P := Tryz.prog) W ⟨b, off + k * n, none⟩ (f x) (fun j v hv => by
   have hj : j < n := by have := (List.getElem?_eq_some_iff.1 hv).1; rwa [hn] at this
   rw [addr_add, h.elem hn hx hj]
   exact hv)
 cases hq : Tryz.prog.info? ty with
 | none => simp [hq] at hi
 | some i =>
  have hs : i.size = (f x).length := by rw [hn]; simpa [hq] using hi
  have hagg : (isAgg ty).run Tryz.prog W = .ok true W := by
   unfold isAgg
   rw [Sem.run_bind, run_underlying hu W]
   cases d <;> simp_all
  simp [Instr.loadAt, Instr.sureAddr, loadVar, Sem.run_bind, hagg, sizeOf, typeInfo, hq, hs, hl]
theorem RSl.of_own {W : World} {lo : Nat} {e : TypeId} {v : Value} {l : List α} (hn : ∀ x, (f x).length = n) (h : W.ownsRow lo e n v l.length (flatR f l)) : RSl f lo W.heap.size W v l := by
 rcases h.2 with ⟨rfl, h0⟩ | ⟨g, cap, cur, rfl, hg, hb, hnc, hcm, hsz, htake⟩
 ·
  have hl : l = [] := List.eq_nil_of_length_eq_zero h0
  subst hl
  exact RSl.nil _ _ _
 ·
  refine ⟨_, cap, rfl, hnc, hcm, .inr ⟨g, 0, rfl, hg, (Array.getElem?_eq_some_iff.1 hb).1, fun k x hk => ?_⟩⟩
  have hkl : k < (flatR f l).length := (List.getElem?_eq_some_iff.1 hk).1
  rw [flat_len hn] at hkl
  have e' : cur[k]? = (cur.toList.take (l.length * n))[k]? := by
   rw [List.getElem?_take_of_lt hkl]
   simp
  simp only [World.cell?, hb, Nat.zero_add]
  rw [show (if (none : Option Nat).isSome = true then (none : Option Value) else cur[k]?) = cur[k]? from rfl, e', htake]
  exact hk
theorem RSl.cells {lo hi : Nat} {W : World} {a : Addr} {len cap : Nat} {l : List α} (h : RSl f lo hi W (.slice (some a) len cap) l) : ∀ j u, (flatR f l)[j]? = some u → W.cell? (a.add j) = some u := by
 obtain ⟨a', c', e, _, _, h0 | ⟨b, off, ha, _, _, hr⟩⟩ := h
 ·
  subst h0; intro j u hj; simp [flatR] at hj
 ·
  cases e
  obtain rfl := Option.some.inj ha
  intro j u hj
  rw [addr_add]
  exact hr j u hj
end
end Go.Proofs.YthhmdgmmeedhdaaGreat
namespace Go.Proofs.YthhmdgmmeedhdaaGreat
open Go.RowKit Go.Shelf
def lkc (x : Lk) : List Value := [.string x.ke, .string x.dg, .int .i64 x.st]
abbrev lkv (x : Lk) : Value := .agg (lkc x).toArray
theorem lkc_len (x : Lk) : (lkc x).length = 3 := rfl
theorem idx_sl {W : World} {ty e c : Nat} (hu : Tryz.prog.underlying ty = some (.slice e)) (hs : (sizeOf e).run Tryz.prog W = .ok c W) {b off len cap : Nat} {k : Nat} (hk : k < len) :
  (Instr.indexAt ty (.slice (some ⟨b, off, none⟩) len cap) (.int .i64 (k : Int))).run Tryz.prog W = .ok (.pointer (some ⟨b, off + k * c, none⟩)) W := by
 have h1 : (0 : Int) ≤ (k : Int) ∧ (k : Int) < len := ⟨by omega, by omega⟩
 simp [Instr.indexAt, run_underlying hu, asIntOf, h1, hs, go_sem]
 intro h
 omega
theorem beqB (a b : ByteArray) : (a.toList == b.toList) = decide (a = b) := by
 by_cases h : a = b
 ·
  subst h; simp
 ·
  rw [decide_eq_false h]
  have h1 : ¬ a.toList = b.toList := fun e => h (by
   rw [ByteArray.toList_eq, ByteArray.toList_eq] at e
   exact ByteArray.ext (Array.toList_inj.1 e))
  simpa using h1
theorem RSl.elem {α : Type} {f : α → List Value} {n lo hi : Nat} {W : World} {v : Value} {l : List α} (h : RSl f lo hi W v l) (hn : ∀ x, (f x).length = n) {k : Nat} {x : α} (hx : l[k]? = some x) {ty e : TypeId} (hu : Tryz.prog.underlying ty = some (.slice e)) (hs : ∀ W, (sizeOf e).run Tryz.prog W = .ok n W) :
  ∃ b o, lo ≤ b ∧ b < hi ∧ (∀ W', (Instr.indexAt ty v (.int .i64 (k : Int))).run Tryz.prog W' = .ok (.pointer (some ⟨b, o, none⟩)) W') ∧ ∀ W', RSl f lo hi W' v l → ∀ j u, (f x)[j]? = some u → W'.cell? ⟨b, o + j, none⟩ = some u := by
 have hk : k < l.length := (List.getElem?_eq_some_iff.1 hx).1
 have hne : l ≠ [] := fun e => by subst e; simp at hk
 obtain ⟨a, cap, rfl, _, _, h0 | ⟨b, off, rfl, h1, h2, h3⟩⟩ := h
 ·
  exact absurd h0 hne
 ·
  refine ⟨b, off + k * n, h1, h2, fun W' => idx_sl hu (hs W') hk, fun W' h' j u hj => ?_⟩
  obtain ⟨_, _, b', off', e, _, _, hr⟩ := h'.at hne
  cases e
  have hj' : j < n := by have := (List.getElem?_eq_some_iff.1 hj).1; rwa [hn] at this
  rw [hr.elem hn hx hj', hj]
theorem ld_cell {W : World} {b o : Nat} (ty : TypeId) (d : TypeDesc) (hu : Tryz.prog.underlying ty = some d) (hd : (match d with | .struct _ | .array _ _ => false | _ => true) = true) {v : Value} (hc : W.cell? ⟨b, o, none⟩ = some v) :
  (Instr.loadAt ty (.pointer (some ⟨b, o, none⟩))).run Tryz.prog W = .ok v W := by
 have hagg : (isAgg ty).run Tryz.prog W = .ok false W := by
  unfold isAgg
  rw [Sem.run_bind, run_underlying hu W]
  cases d <;> simp_all
 simp [Instr.loadAt, Instr.sureAddr, loadVar, Sem.run_bind, hagg, hc]
theorem ld_cells {W : World} {b o : Nat} (ns : List Value) (ty : TypeId) (d : TypeDesc) (hu : Tryz.prog.underlying ty = some d) (hd : (match d with | .struct _ | .array _ _ => true | _ => false) = true) (hi : (Tryz.prog.info? ty).map (·.size) = some ns.length) (hc : ∀ j u, ns[j]? = some u → W.cell? ⟨b, o + j, none⟩ = some u) :
  (Instr.loadAt ty (.pointer (some ⟨b, o, none⟩))).run Tryz.prog W = .ok (.agg ns.toArray) W := by
 have hl : (loadCells ⟨b, o, none⟩ ns.length).run Tryz.prog W = .ok ns.toArray W :=
  run_loadCells_list (P := Tryz.prog) W ⟨b, o, none⟩ ns (fun j v hv => by rw [addr_add]; exact hc j v hv)
 cases hq : Tryz.prog.info? ty with
 | none => simp [hq] at hi
 | some i =>
  have hs : i.size = ns.length := by simpa [hq] using hi
  have hagg : (isAgg ty).run Tryz.prog W = .ok true W := by
   unfold isAgg
   rw [Sem.run_bind, run_underlying hu W]
   cases d <;> simp_all
  simp [Instr.loadAt, Instr.sureAddr, loadVar, Sem.run_bind, hagg, sizeOf, typeInfo, hq, hs, hl]
theorem RSl.wide {α : Type} {f : α → List Value} {lo hi : Nat} {W : World} {v : Value} {l : List α} (h : RSl f lo hi W v l) (hi' : hi ≤ W.heap.size) : RSl f lo W.heap.size W v l := h.mono (Nat.le_refl _) hi'
end Go.Proofs.YthhmdgmmeedhdaaGreat
namespace Go.Proofs.YthhmdgmmeedhdaaGreat
open Go.RowKit Go.Shelf
def growE (s : Es) (a n : Nat) : Es × Int := if s.he a + n < M4 then ({ s with he := updB s.he a (s.he a + n) }, 0) else (s, 38)
def shrinkE (s : Es) (a n : Nat) : Es × Int := if n ≤ s.he a then ({ s with he := updB s.he a (s.he a - n) }, 0) else (s, 38)
set_option maxRecDepth 100000 in
set_option maxHeartbeats 4000000 in
theorem esc_grow_any (s : Es) (v : Value) {a : Nat} (ha : a < 2) (hh : s.he a < M4) {n : Nat} (hn : n < M4) {B : Nat} (w : World) (hB : Blk w B 34 (stc s v)) :
  Calls Tryz.prog 97 #[.pointer (some ⟨B, 0, none⟩), .int .i64 (a : Int), wn n] w (EndE w B v (growE s a n)) := by
 have hmx : Tryz.prog.follows .mixedOrders = true := by kernel_rfl
 have hM := (Mem.startB hB).allocN rfl 27 (ws (nw n))
 have HC := Lib.hid (fun W => addN_any hh hn W)
 clear hh hB
 go_enter Tryz.func97, Tryz.ntmps97
 go_upto_region 1 with fail
 go_cut [6, 7] (fun p f wc => ∃ N, p = .pointer (some ⟨N, 0, none⟩) ∧ f = .bool (fitB (s.he a) n) ∧ Mem w (some B) [(N, 27, ws (nw (addN (s.he a) n))), (w.heap.size, 27, ws (nw n)), (B, 34, stc s v)] wc)
 case first =>
  refine wp_region_M (fun W => Mem w (some B) [(w.heap.size, 27, ws (nw n)), (B, 34, stc s v)] W) (fun W => Mem w (some B) [(w.heap.size, 27, ws (nw n)), (B, 34, stc s v)] W) hmx hM.drew ?_
  clear hM
  rintro Y1 hM
  have hS := hM.sub (.cons_cons _ (.cons_cons _ .slnil))
  refine tD 7 [.v 0 9 (pt B 0), .v 1 10 (.int .i64 (a : Int)), .v 2 11 (pt B 0), .v 3 12 (pt B 138), .x 4 13 28 (pt B 138) (.int .i64 (a : Int)) (pt B (138 + a * 4)), .l 5 14 27 (pt B (138 + a * 4)) (wn (s.he a)), .l 6 15 27 (pt w.heap.size 0) (wn (n))] ⟨fun W h => idx_he (by omega), fun W h => ld_heO (s := s) h.a1 (by omega), fun W h => load_wn h.a0, trivial⟩ hS ?_
  refine oT 7 11 6 ?_ ?_
  ·
   refine cD (some 16) _ _ ((HC.out _).mono ?_)
   rintro e W1 ⟨rfl, hb⟩
   refine And.intro (hS.below hb) ?_
   replace hS := hS.below hb
   replace hM := hM.below hb
   clear hb
   refine tD 3 [.v 8 8 (.tuple #[wn (addN (s.he a) n), .bool (fitB (s.he a) n)]), .v 9 17 (wn (addN (s.he a) n)), .v 10 18 (.bool (fitB (s.he a) n))] trivial hS ?_
   refine oD 11 2 (rD (some 6) (pt W1.heap.size 0) (W1.alloc (.cells (ws (nw 0)).toArray 27)) (hS.other _) ?_)
   replace hS := hS.other (.cells (ws (nw 0)).toArray 27)
   replace hM := hM.alloc 27 (ws (nw 0))
   generalize World.alloc _ _ = Z at *
   generalize W1.heap.size = N at *
   have hM1 := hM.set 0 (cs' := ws (nw (addN (s.he a) n))) rfl rfl
   refine oD 12 1 (sD _ _ (wn (addN (s.he a) n)) (sto_wn hM.a0 _) (hM1.sub (.cons _ (.cons_cons _ (.cons_cons _ .slnil)))) ?_)
   replace hS := hM1.sub (.cons _ (.cons_cons _ (.cons_cons _ .slnil)))
   replace hM := hM1
   clear hM1
   generalize World.setRow _ _ _ = Y2 at *
   refine tD 0 [.v 13 7 (.bool (fitB (s.he a) n))] trivial hS ?_
   refine eD ?_
   clear hS
   go_wp2_with fail
   go_meet
   exact ⟨_, rfl, rfl, hM⟩
  ·
   refine rD (some 6) (pt Y1.heap.size 0) (Y1.alloc (.cells (ws (nw 0)).toArray 27)) (hS.other _) ?_
   replace hS := hS.other (.cells (ws (nw 0)).toArray 27)
   replace hM := hM.alloc 27 (ws (nw 0))
   generalize World.alloc _ _ = Z at *
   generalize Y1.heap.size = N at *
   refine oD 7 5 (cD (some 16) _ _ ((HC.out _).mono ?_))
   rintro e W1 ⟨rfl, hb⟩
   refine And.intro (hS.below hb) ?_
   replace hS := hS.below hb
   replace hM := hM.below hb
   clear hb
   refine tD 2 [.v 8 8 (.tuple #[wn (addN (s.he a) n), .bool (fitB (s.he a) n)]), .v 9 17 (wn (addN (s.he a) n)), .v 10 18 (.bool (fitB (s.he a) n))] trivial hS ?_
   have hM1 := hM.set 0 (cs' := ws (nw (addN (s.he a) n))) rfl rfl
   refine oD 12 1 (sD _ _ (wn (addN (s.he a) n)) (sto_wn hM.a0 _) (hM1.sub (.cons _ (.cons_cons _ (.cons_cons _ .slnil)))) ?_)
   replace hS := hM1.sub (.cons _ (.cons_cons _ (.cons_cons _ .slnil)))
   replace hM := hM1
   clear hM1
   generalize World.setRow _ _ _ = Y3 at *
   refine tD 0 [.v 13 7 (.bool (fitB (s.he a) n))] trivial hS ?_
   refine eD ?_
   clear hS
   go_wp2_with fail
   go_meet
   exact ⟨_, rfl, rfl, hM⟩
 case rest =>
  obtain ⟨N, rfl, rfl, hM⟩ := hcut
  go_upto_region 2 with fail
  refine wp_region_fromM _ hM ?_
  clear hM
  rintro Y4 hM
  refine tF 1 [.v 0 19 (.bool (fitB (s.he a) n))] trivial ?_
  refine cF (some 20) 59 #[.bool (fitB (s.he a) n), .int .i64 38] ((demand_any _ _ _).mono ?_)
  rintro e W1 (⟨h, rfl, rfl⟩ | ⟨h, rfl, rfl⟩)
  case inr =>
   have hE : growE s a n = (s, 38) := if_neg (of_decide_eq_false h)
   refine And.intro rfl ?_
   rw [hE]
   exact ⟨hM.g, .inr ⟨(by decide : (38 : Int) ≠ 0), rfl, BlkN.of hM.a2⟩⟩
  have h := of_decide_eq_true h
  rw [show addN (s.he a) n = s.he a + n from if_pos h] at hM
  refine eF ?_
  go_upto_region 3 with fail
  refine wp_region_M (fun W => Mem w (some B) [(N, 27, ws (nw (s.he a + n))), (w.heap.size, 27, ws (nw n))] W) (fun W => Mem w (some B) [(N, 27, ws (nw (s.he a + n))), (w.heap.size, 27, ws (nw n)), (B, 34, stc s v)] W) hmx hM.drew ?_
  clear hM
  rintro Y5 hM
  have hS := hM.sub (.cons_cons _ (.cons_cons _ (.cons _ .slnil)))
  refine tD 1 [.v 0 21 (pt B 0), .v 1 22 (.int .i64 (a : Int)), .l 2 23 27 (pt N 0) (wn (s.he a + n)), .v 3 24 (pt B 0), .v 4 25 (pt B 138), .x 5 26 28 (pt B 138) (.int .i64 (a : Int)) (pt B (138 + a * 4))] ⟨fun W h => load_wn h.a0, fun W h => idx_he (by omega), trivial⟩ hS ?_
  have hM1 := hM.set 2 (cs' := stc { s with he := updB s.he a (s.he a + n) } v) rfl rfl
  refine oD 6 0 (sD _ _ (wn (s.he a + n)) (sto_he hM.a2 ha _) (hM1.sub (.cons_cons _ (.cons_cons _ (.cons _ .slnil)))) ?_)
  replace hS := hM1.sub (.cons_cons _ (.cons_cons _ (.cons _ .slnil)))
  replace hM := hM1
  clear hM1
  generalize World.setRow _ _ _ = Y6 at *
  refine eD ?_
  clear hS
  go_wp2_with fail
  go_end0
  refine ⟨hM.g, .inl ?_⟩
  rw [show growE s a n = ({ s with he := updB s.he a (s.he a + n) }, 0) from if_pos h]
  exact ⟨rfl, rfl, hM.at 2 rfl⟩
set_option maxRecDepth 100000 in
set_option maxHeartbeats 4000000 in
theorem esc_shrink_any (s : Es) (v : Value) {a : Nat} (ha : a < 2) (hh : s.he a < M4) {n : Nat} (hn : n < M4) {B : Nat} (w : World) (hB : Blk w B 34 (stc s v)) :
  Calls Tryz.prog 99 #[.pointer (some ⟨B, 0, none⟩), .int .i64 (a : Int), wn n] w (EndE w B v (shrinkE s a n)) := by
 have hmx : Tryz.prog.follows .mixedOrders = true := by kernel_rfl
 have hM := (Mem.startB hB).allocN rfl 27 (ws (nw n))
 have HC := Lib.hid (fun W => subN_any hh hn W)
 clear hh hB
 go_enter Tryz.func99, Tryz.ntmps99
 go_upto_region 1 with fail
 go_cut [6, 7] (fun p f wc => ∃ N, p = .pointer (some ⟨N, 0, none⟩) ∧ f = .bool (lessB (s.he a) n) ∧ Mem w (some B) [(N, 27, ws (nw (s.he a - n))), (w.heap.size, 27, ws (nw n)), (B, 34, stc s v)] wc)
 case first =>
  refine wp_region_M (fun W => Mem w (some B) [(w.heap.size, 27, ws (nw n)), (B, 34, stc s v)] W) (fun W => Mem w (some B) [(w.heap.size, 27, ws (nw n)), (B, 34, stc s v)] W) hmx hM.drew ?_
  clear hM
  rintro Y1 hM
  have hS := hM.sub (.cons_cons _ (.cons_cons _ .slnil))
  refine tD 7 [.v 0 9 (pt B 0), .v 1 10 (.int .i64 (a : Int)), .v 2 11 (pt B 0), .v 3 12 (pt B 138), .x 4 13 28 (pt B 138) (.int .i64 (a : Int)) (pt B (138 + a * 4)), .l 5 14 27 (pt B (138 + a * 4)) (wn (s.he a)), .l 6 15 27 (pt w.heap.size 0) (wn (n))] ⟨fun W h => idx_he (by omega), fun W h => ld_heO (s := s) h.a1 (by omega), fun W h => load_wn h.a0, trivial⟩ hS ?_
  refine oT 7 11 6 ?_ ?_
  ·
   refine cD (some 16) _ _ ((HC.out _).mono ?_)
   rintro e W1 ⟨rfl, hb⟩
   refine And.intro (hS.below hb) ?_
   replace hS := hS.below hb
   replace hM := hM.below hb
   clear hb
   refine tD 3 [.v 8 8 (.tuple #[wn (s.he a - n), .bool (lessB (s.he a) n)]), .v 9 17 (wn (s.he a - n)), .v 10 18 (.bool (lessB (s.he a) n))] trivial hS ?_
   refine oD 11 2 (rD (some 6) (pt W1.heap.size 0) (W1.alloc (.cells (ws (nw 0)).toArray 27)) (hS.other _) ?_)
   replace hS := hS.other (.cells (ws (nw 0)).toArray 27)
   replace hM := hM.alloc 27 (ws (nw 0))
   generalize World.alloc _ _ = Z at *
   generalize W1.heap.size = N at *
   have hM1 := hM.set 0 (cs' := ws (nw (s.he a - n))) rfl rfl
   refine oD 12 1 (sD _ _ (wn (s.he a - n)) (sto_wn hM.a0 _) (hM1.sub (.cons _ (.cons_cons _ (.cons_cons _ .slnil)))) ?_)
   replace hS := hM1.sub (.cons _ (.cons_cons _ (.cons_cons _ .slnil)))
   replace hM := hM1
   clear hM1
   generalize World.setRow _ _ _ = Y2 at *
   refine tD 0 [.v 13 7 (.bool (lessB (s.he a) n))] trivial hS ?_
   refine eD ?_
   clear hS
   go_wp2_with fail
   go_meet
   exact ⟨_, rfl, rfl, hM⟩
  ·
   refine rD (some 6) (pt Y1.heap.size 0) (Y1.alloc (.cells (ws (nw 0)).toArray 27)) (hS.other _) ?_
   replace hS := hS.other (.cells (ws (nw 0)).toArray 27)
   replace hM := hM.alloc 27 (ws (nw 0))
   generalize World.alloc _ _ = Z at *
   generalize Y1.heap.size = N at *
   refine oD 7 5 (cD (some 16) _ _ ((HC.out _).mono ?_))
   rintro e W1 ⟨rfl, hb⟩
   refine And.intro (hS.below hb) ?_
   replace hS := hS.below hb
   replace hM := hM.below hb
   clear hb
   refine tD 2 [.v 8 8 (.tuple #[wn (s.he a - n), .bool (lessB (s.he a) n)]), .v 9 17 (wn (s.he a - n)), .v 10 18 (.bool (lessB (s.he a) n))] trivial hS ?_
   have hM1 := hM.set 0 (cs' := ws (nw (s.he a - n))) rfl rfl
   refine oD 12 1 (sD _ _ (wn (s.he a - n)) (sto_wn hM.a0 _) (hM1.sub (.cons _ (.cons_cons _ (.cons_cons _ .slnil)))) ?_)
   replace hS := hM1.sub (.cons _ (.cons_cons _ (.cons_cons _ .slnil)))
   replace hM := hM1
   clear hM1
   generalize World.setRow _ _ _ = Y3 at *
   refine tD 0 [.v 13 7 (.bool (lessB (s.he a) n))] trivial hS ?_
   refine eD ?_
   clear hS
   go_wp2_with fail
   go_meet
   exact ⟨_, rfl, rfl, hM⟩
 case rest =>
  obtain ⟨N, rfl, rfl, hM⟩ := hcut
  go_upto_region 2 with fail
  refine wp_region_fromM _ hM ?_
  clear hM
  rintro Y4 hM
  refine tF 1 [.v 0 19 (.bool (lessB (s.he a) n))] trivial ?_
  refine cF (some 20) 59 #[.bool (lessB (s.he a) n), .int .i64 38] ((demand_any _ _ _).mono ?_)
  rintro e W1 (⟨h, rfl, rfl⟩ | ⟨h, rfl, rfl⟩)
  case inr =>
   have hE : shrinkE s a n = (s, 38) := if_neg (of_decide_eq_false h)
   refine And.intro rfl ?_
   rw [hE]
   exact ⟨hM.g, .inr ⟨(by decide : (38 : Int) ≠ 0), rfl, BlkN.of hM.a2⟩⟩
  have h := of_decide_eq_true h
  rw [show s.he a - n = s.he a - n from rfl] at hM
  refine eF ?_
  go_upto_region 3 with fail
  refine wp_region_M (fun W => Mem w (some B) [(N, 27, ws (nw (s.he a - n))), (w.heap.size, 27, ws (nw n))] W) (fun W => Mem w (some B) [(N, 27, ws (nw (s.he a - n))), (w.heap.size, 27, ws (nw n)), (B, 34, stc s v)] W) hmx hM.drew ?_
  clear hM
  rintro Y5 hM
  have hS := hM.sub (.cons_cons _ (.cons_cons _ (.cons _ .slnil)))
  refine tD 1 [.v 0 21 (pt B 0), .v 1 22 (.int .i64 (a : Int)), .l 2 23 27 (pt N 0) (wn (s.he a - n)), .v 3 24 (pt B 0), .v 4 25 (pt B 138), .x 5 26 28 (pt B 138) (.int .i64 (a : Int)) (pt B (138 + a * 4))] ⟨fun W h => load_wn h.a0, fun W h => idx_he (by omega), trivial⟩ hS ?_
  have hM1 := hM.set 2 (cs' := stc { s with he := updB s.he a (s.he a - n) } v) rfl rfl
  refine oD 6 0 (sD _ _ (wn (s.he a - n)) (sto_he hM.a2 ha _) (hM1.sub (.cons_cons _ (.cons_cons _ (.cons _ .slnil)))) ?_)
  replace hS := hM1.sub (.cons_cons _ (.cons_cons _ (.cons _ .slnil)))
  replace hM := hM1
  clear hM1
  generalize World.setRow _ _ _ = Y6 at *
  refine eD ?_
  clear hS
  go_wp2_with fail
  go_end0
  refine ⟨hM.g, .inl ?_⟩
  rw [show shrinkE s a n = ({ s with he := updB s.he a (s.he a - n) }, 0) from if_pos h]
  exact ⟨rfl, rfl, hM.at 2 rfl⟩
end Go.Proofs.YthhmdgmmeedhdaaGreat
namespace Go.Proofs.YthhmdgmmeedhdaaGreat
open Go.RowKit Go.Shelf
set_option maxRecDepth 100000 in
set_option maxHeartbeats 4000000 in
theorem bookTake_any (b : Bk) (hb : OkK b) (a s : Int) (n : Nat) (hn : n < M4) (w : World) :
    Calls Tryz.prog 60 #[bkv b, .int .i64 a, .int .i64 s, wn n] w fun e W' => e = .returned (.tuple #[bkv (takeB b a s n).1, .int .i64 (takeB b a s n).2]) ∧ Below w.heap.size w W' := by
  have hmx : Tryz.prog.follows .mixedOrders = true := by kernel_rfl
  have kB0 := ((Blk.new w 30 (bkc b)).alloc (.cells (ws (nw n)).toArray 27)).alloc (.cells (bkc noK).toArray 30)
  have kA0 : Blk (((w.alloc (.cells (bkc b).toArray 30)).alloc (.cells (ws (nw n)).toArray 27)).alloc (.cells (bkc noK).toArray 30)) (w.heap.size + 1) 27 (ws (nw n)) := (Blk.new' (by simp)).alloc _
  have kR0 : Blk (((w.alloc (.cells (bkc b).toArray 30)).alloc (.cells (ws (nw n)).toArray 27)).alloc (.cells (bkc noK).toArray 30)) (w.heap.size + 1 + 1) 30 (bkc noK) := Blk.new' (by simp)
  have hB0 := chainA (chainA (chain0 w (.cells (bkc b).toArray 30)) (.cells (ws (nw n)).toArray 27)) (.cells (bkc noK).toArray 30)
  rw [bkc_no] at kB0 kA0 hB0
  have kR1 : Blk (((w.alloc (.cells (bkc b).toArray 30)).alloc (.cells (ws (nw n)).toArray 27)).alloc (.cells (List.replicate 64 (Value.int .u64 0)).toArray 30)) (w.heap.size + 1 + 1) 30 (bkc noK) := by rw [bkc_no] at kR0 ⊢; exact kR0
  clear kR0
  by_cases h : atS a s
  · have HP : Hid (placeB a s = true) := Lib.hid (decide_eq_true h)
    have HY := Lib.hid (fun k => takeB_yes (b := b) (n := n) h k)
    have HN := Lib.hid (fun k => takeB_low (b := b) (n := n) h k)
    have hs16 := slot_lt h
    obtain ⟨⟨h1, h2⟩, h3, h4⟩ := h
    obtain ⟨i, rfl⟩ : ∃ i : Nat, a = i := ⟨a.toNat, by omega⟩
    obtain ⟨j, rfl⟩ : ∃ j : Nat, s = j := ⟨s.toNat, by omega⟩
    have hi : i < 8 := by omega
    have hj : j < 2 := by omega
    have hbs := hb (2 * i + j) (by omega)
    replace HY : Hid (_ → takeB b (i : Int) (j : Int) n = (updB b (2 * i + j) (b (2 * i + j) - n), 0)) := HY
    replace HN : Hid (_ → takeB b (i : Int) (j : Int) n = (b, 30)) := HN
    have HC := Lib.hid (subN_any hbs hn)
    clear hs16 hbs
    generalize hq : b (2 * i + j) = q at *
    have HQ := Lib.hid hq
    clear hq
    go_enter Tryz.func60, Tryz.ntmps60
    go_upto_region 3 with (go_at_call 55; refine (isPlace_any _ _ _).mono ?_; rw [HP.out]; rintro e w1 ⟨rfl, rfl⟩)
    generalize hX : World.alloc (World.alloc (World.alloc _ _) _) _ = X
    have kB : Blk X w.heap.size 30 (bkc b) := by rw [← hX]; exact kB0
    have kA : Blk X (w.heap.size + 1) 27 (ws (nw n)) := by rw [← hX]; exact kA0
    have kR : Blk X (w.heap.size + 1 + 1) 30 (bkc noK) := by rw [← hX]; exact kR1
    have hB : Below w.heap.size w X := by rw [← hX]; exact hB0
    clear hX kB0 kA0 kR1 hB0
    go_cut [10, 11] (fun p f wc => NewN X (q - n) p wc ∧ f = .bool (lessB q n))
    case first =>
      refine wp_region_held_drew (S := fun W => Below X.heap.size X W) hmx (Below.refl _ X).drew ?_
      intro hS
      have hl : ∀ W, Below X.heap.size X W → (Instr.loadAt 27 (.pointer (some ⟨w.heap.size, i * 8 + j * 4, none⟩))).run Tryz.prog W = .ok (wn q) W := fun W h => by have := load_slot (kB.below h kB.lt) hi hj; rw [HQ.out] at this; exact this
      have HL := Lib.hid hl
      clear hl
      generalize X.drew = Y at *
      refine' wpAnyH_take (i := 0) (oi := _) (v := _) ?hi27 (by kernel_rfl) (by kernel_rfl) (by kernel_rfl) ?hQ27 (Or.inl ⟨?hw27, ?hy27⟩) hS ?rest27
      case hi27 => simp only [List.getElem?_toArray, List.getElem?_cons_zero]; rfl
      case hQ27 => exact fun _ _ _ h => h
      case hw27 => rfl
      case hy27 => intro W' hS'; go_simp; with_reducible rfl
      try simp only [Act.put, List.setIfInBounds_toArray, List.set_cons_zero, List.set_cons_succ]
      refine' wpAnyH_take (i := 1) (oi := _) (v := _) ?hi28 (by kernel_rfl) (by kernel_rfl) (by kernel_rfl) ?hQ28 (Or.inl ⟨?hw28, ?hy28⟩) hS ?rest28
      case hi28 => simp only [List.getElem?_toArray, List.getElem?_cons_succ, List.getElem?_cons_zero]; rfl
      case hQ28 => exact fun _ _ _ h => h
      case hw28 => rfl
      case hy28 => intro W' hS'; go_simp; with_reducible rfl
      try simp only [Act.put, List.setIfInBounds_toArray, List.set_cons_zero, List.set_cons_succ]
      refine' wpAnyH_take (i := 2) (oi := _) (v := _) ?hi29 (by kernel_rfl) (by kernel_rfl) (by kernel_rfl) ?hQ29 (Or.inl ⟨?hw29, ?hy29⟩) hS ?rest29
      case hi29 => simp only [List.getElem?_toArray, List.getElem?_cons_succ, List.getElem?_cons_zero]; rfl
      case hQ29 => exact fun _ _ _ h => h
      case hw29 => rfl
      case hy29 => intro W' hS'; go_simp; with_reducible rfl
      try simp only [Act.put, List.setIfInBounds_toArray, List.set_cons_zero, List.set_cons_succ]
      refine' wpAnyH_take (i := 3) (oi := _) (v := _) ?hi30 (by kernel_rfl) (by kernel_rfl) (by kernel_rfl) ?hQ30 (Or.inl ⟨?hw30, ?hy30⟩) hS ?rest30
      case hi30 => simp only [List.getElem?_toArray, List.getElem?_cons_succ, List.getElem?_cons_zero]; rfl
      case hQ30 => exact fun _ _ _ h => h
      case hw30 => rfl
      case hy30 => intro W' hS'; go_simp; with_reducible rfl
      try simp only [Act.put, List.setIfInBounds_toArray, List.set_cons_zero, List.set_cons_succ]
      refine' wpAnyH_take (i := 4) (oi := _) (v := wn q) ?hi31 (by kernel_rfl) (by kernel_rfl) (by kernel_rfl) ?hQ31 (Or.inl ⟨?hw31, ?hy31⟩) hS ?rest31
      case hi31 => simp only [List.getElem?_toArray, List.getElem?_cons_succ, List.getElem?_cons_zero]; rfl
      case hQ31 => exact fun _ _ _ h => h
      case hw31 => rfl
      case hy31 => exact fun W' hS' => exec_load 27 (.tmp 21) rfl _ W' (HL.out W' hS')
      try simp only [Act.put, List.setIfInBounds_toArray, List.set_cons_zero, List.set_cons_succ]
      refine' wpAnyH_take (i := 5) (oi := _) (v := wn n) ?hi32 (by kernel_rfl) (by kernel_rfl) (by kernel_rfl) ?hQ32 (Or.inl ⟨?hw32, ?hy32⟩) hS ?rest32
      case hi32 => simp only [List.getElem?_toArray, List.getElem?_cons_succ, List.getElem?_cons_zero]; rfl
      case hQ32 => exact fun _ _ _ h => h
      case hw32 => rfl
      case hy32 => exact fun W' hS' => exec_load 27 (.tmp 7) rfl _ W' (load_wn (kA.below hS' kA.lt))
      try simp only [Act.put, List.setIfInBounds_toArray, List.set_cons_zero, List.set_cons_succ]
      refine wpAnyH_ready (rs := [6, 10]) (by kernel_rfl) (by simp) ?_
      refine' AllReadyH.cons (o := _) ?ho33 (fun K hK => ?st33) (AllReadyH.cons (o := _) ?ho34 (fun K hK => ?st34) AllReadyH.nil)
      case ho33 => simp only [List.getElem?_toArray, List.getElem?_cons_succ, List.getElem?_cons_zero]; rfl
      case ho34 => simp only [List.getElem?_toArray, List.getElem?_cons_succ, List.getElem?_cons_zero]; rfl
      case st33 =>
        go_simp
        refine (HC.out _).mono ?_
        rintro e Y1 ⟨rfl, hb1⟩
        refine hK.out _ _ (hS.trans (hb1.mono hS.size)) (fun hS => ?_)
        clear hK K
        try simp only [Act.put, List.setIfInBounds_toArray, List.set_cons_zero, List.set_cons_succ]
        refine' wpAnyH_take (i := 7) (oi := _) (v := _) ?hi35 (by kernel_rfl) (by kernel_rfl) (by kernel_rfl) ?hQ35 (Or.inl ⟨?hw35, ?hy35⟩) hS ?rest35
        case hi35 => simp only [List.getElem?_toArray, List.getElem?_cons_succ, List.getElem?_cons_zero]; rfl
        case hQ35 => exact fun _ _ _ h => h
        case hw35 => rfl
        case hy35 => intro W' hS'; go_simp; with_reducible rfl
        try simp only [Act.put, List.setIfInBounds_toArray, List.set_cons_zero, List.set_cons_succ]
        refine' wpAnyH_take (i := 8) (oi := _) (v := _) ?hi36 (by kernel_rfl) (by kernel_rfl) (by kernel_rfl) ?hQ36 (Or.inl ⟨?hw36, ?hy36⟩) hS ?rest36
        case hi36 => simp only [List.getElem?_toArray, List.getElem?_cons_succ, List.getElem?_cons_zero]; rfl
        case hQ36 => exact fun _ _ _ h => h
        case hw36 => rfl
        case hy36 => intro W' hS'; go_simp; with_reducible rfl
        try simp only [Act.put, List.setIfInBounds_toArray, List.set_cons_zero, List.set_cons_succ]
        refine' wpAnyH_take (i := 9) (oi := _) (v := _) ?hi37 (by kernel_rfl) (by kernel_rfl) (by kernel_rfl) ?hQ37 (Or.inl ⟨?hw37, ?hy37⟩) hS ?rest37
        case hi37 => simp only [List.getElem?_toArray, List.getElem?_cons_succ, List.getElem?_cons_zero]; rfl
        case hQ37 => exact fun _ _ _ h => h
        case hw37 => rfl
        case hy37 => intro W' hS'; go_simp; with_reducible rfl
        try simp only [Act.put, List.setIfInBounds_toArray, List.set_cons_zero, List.set_cons_succ]
        refine wpAnyH_ready (rs := [10]) (by kernel_rfl) (by simp) ?_
        refine' AllReadyH.cons (o := _) ?ho38 (fun K hK => ?st38) AllReadyH.nil
        case ho38 => simp only [List.getElem?_toArray, List.getElem?_cons_succ, List.getElem?_cons_zero]; rfl
        case st38 =>
          go_simp
          have hN : X.heap.size ≤ Y1.heap.size := hS.size
          refine hK.out _ _ (hS.alloc hS.size _) (fun hS => ?_)
          clear hK K
          try simp only [Act.put, List.setIfInBounds_toArray, List.set_cons_zero, List.set_cons_succ]
          have kN : Blk (Y1.alloc (.cells #[.int .u64 0, .int .u64 0, .int .u64 0, .int .u64 0] 27)) Y1.heap.size 27 (ws (nw 0)) := by rw [ws_no]; exact Blk.new _ _ _
          generalize Y1.alloc (.cells #[.int .u64 0, .int .u64 0, .int .u64 0, .int .u64 0] 27) = U at *
          generalize Y1.heap.size = BN at *
          refine wpAnyH_ready (rs := [11]) (by kernel_rfl) (by simp) ?_
          refine' AllReadyH.cons (o := _) ?ho39 (fun K hK => ?st39) AllReadyH.nil
          case ho39 => simp only [List.getElem?_toArray, List.getElem?_cons_succ, List.getElem?_cons_zero]; rfl
          case st39 =>
            refine wp_store_wn (.tmp 10) (.tmp 25) kN (q - n) rfl rfl rfl rfl ?_
            have hS1 := hS.grown (grownBy_row U BN (ws (nw (q - n))).toArray) hS.size (fun e he => by cases he; exact hN)
            have kN1 := kN.row (ws (nw (q - n)))
            refine hK.out _ _ hS1 (fun hS => ?_)
            clear hK K hS1
            try simp only [Act.put, List.setIfInBounds_toArray, List.set_cons_zero, List.set_cons_succ]
            refine' wpAnyH_take (i := 12) (oi := _) (v := _) ?hi40 (by kernel_rfl) (by kernel_rfl) (by kernel_rfl) ?hQ40 (Or.inl ⟨?hw40, ?hy40⟩) hS ?rest40
            case hi40 => simp only [List.getElem?_toArray, List.getElem?_cons_succ, List.getElem?_cons_zero]; rfl
            case hQ40 => exact fun _ _ _ h => h
            case hw40 => rfl
            case hy40 => intro W' hS'; go_simp; with_reducible rfl
            try simp only [Act.put, List.setIfInBounds_toArray, List.set_cons_zero, List.set_cons_succ]
            refine wpAnyH_done (by kernel_rfl) ?_ _
            go_wp2_with fail
            go_meet
            exact ⟨⟨_, rfl, kN1, hN, hS⟩, rfl⟩
      case st34 =>
        go_simp
        have hN : X.heap.size ≤ Y.heap.size := hS.size
        refine hK.out _ _ (hS.alloc hS.size _) (fun hS => ?_)
        clear hK K
        try simp only [Act.put, List.setIfInBounds_toArray, List.set_cons_zero, List.set_cons_succ]
        have kN : Blk (Y.alloc (.cells #[.int .u64 0, .int .u64 0, .int .u64 0, .int .u64 0] 27)) Y.heap.size 27 (ws (nw 0)) := by rw [ws_no]; exact Blk.new _ _ _
        generalize Y.alloc (.cells #[.int .u64 0, .int .u64 0, .int .u64 0, .int .u64 0] 27) = Y2 at *
        generalize Y.heap.size = BN at *
        refine wpAnyH_ready (rs := [6]) (by kernel_rfl) (by simp) ?_
        refine' AllReadyH.cons (o := _) ?ho41 (fun K hK => ?st41) AllReadyH.nil
        case ho41 => simp only [List.getElem?_toArray, List.getElem?_cons_succ, List.getElem?_cons_zero]; rfl
        case st41 =>
          go_simp
          refine (HC.out _).mono ?_
          rintro e U ⟨rfl, hb1⟩
          refine hK.out _ _ (hS.trans (hb1.mono hS.size)) (fun hS => ?_)
          clear hK K
          try simp only [Act.put, List.setIfInBounds_toArray, List.set_cons_zero, List.set_cons_succ]
          have kN := kN.below hb1 kN.lt
          clear hb1
          refine' wpAnyH_take (i := 7) (oi := _) (v := _) ?hi42 (by kernel_rfl) (by kernel_rfl) (by kernel_rfl) ?hQ42 (Or.inl ⟨?hw42, ?hy42⟩) hS ?rest42
          case hi42 => simp only [List.getElem?_toArray, List.getElem?_cons_succ, List.getElem?_cons_zero]; rfl
          case hQ42 => exact fun _ _ _ h => h
          case hw42 => rfl
          case hy42 => intro W' hS'; go_simp; with_reducible rfl
          try simp only [Act.put, List.setIfInBounds_toArray, List.set_cons_zero, List.set_cons_succ]
          refine' wpAnyH_take (i := 8) (oi := _) (v := _) ?hi43 (by kernel_rfl) (by kernel_rfl) (by kernel_rfl) ?hQ43 (Or.inl ⟨?hw43, ?hy43⟩) hS ?rest43
          case hi43 => simp only [List.getElem?_toArray, List.getElem?_cons_succ, List.getElem?_cons_zero]; rfl
          case hQ43 => exact fun _ _ _ h => h
          case hw43 => rfl
          case hy43 => intro W' hS'; go_simp; with_reducible rfl
          try simp only [Act.put, List.setIfInBounds_toArray, List.set_cons_zero, List.set_cons_succ]
          refine' wpAnyH_take (i := 9) (oi := _) (v := _) ?hi44 (by kernel_rfl) (by kernel_rfl) (by kernel_rfl) ?hQ44 (Or.inl ⟨?hw44, ?hy44⟩) hS ?rest44
          case hi44 => simp only [List.getElem?_toArray, List.getElem?_cons_succ, List.getElem?_cons_zero]; rfl
          case hQ44 => exact fun _ _ _ h => h
          case hw44 => rfl
          case hy44 => intro W' hS'; go_simp; with_reducible rfl
          try simp only [Act.put, List.setIfInBounds_toArray, List.set_cons_zero, List.set_cons_succ]
          refine wpAnyH_ready (rs := [11]) (by kernel_rfl) (by simp) ?_
          refine' AllReadyH.cons (o := _) ?ho45 (fun K hK => ?st45) AllReadyH.nil
          case ho45 => simp only [List.getElem?_toArray, List.getElem?_cons_succ, List.getElem?_cons_zero]; rfl
          case st45 =>
            refine wp_store_wn (.tmp 10) (.tmp 25) kN (q - n) rfl rfl rfl rfl ?_
            have hS1 := hS.grown (grownBy_row U BN (ws (nw (q - n))).toArray) hS.size (fun e he => by cases he; exact hN)
            have kN1 := kN.row (ws (nw (q - n)))
            refine hK.out _ _ hS1 (fun hS => ?_)
            clear hK K hS1
            try simp only [Act.put, List.setIfInBounds_toArray, List.set_cons_zero, List.set_cons_succ]
            refine' wpAnyH_take (i := 12) (oi := _) (v := _) ?hi46 (by kernel_rfl) (by kernel_rfl) (by kernel_rfl) ?hQ46 (Or.inl ⟨?hw46, ?hy46⟩) hS ?rest46
            case hi46 => simp only [List.getElem?_toArray, List.getElem?_cons_succ, List.getElem?_cons_zero]; rfl
            case hQ46 => exact fun _ _ _ h => h
            case hw46 => rfl
            case hy46 => intro W' hS'; go_simp; with_reducible rfl
            try simp only [Act.put, List.setIfInBounds_toArray, List.set_cons_zero, List.set_cons_succ]
            refine wpAnyH_done (by kernel_rfl) ?_ _
            go_wp2_with fail
            go_meet
            exact ⟨⟨_, rfl, kN1, hN, hS⟩, rfl⟩
    case rest =>
      obtain ⟨⟨B, rfl, kN, hN, hbx⟩, rfl⟩ := hcut
      have hBne : w.heap.size ≠ B := by have := kB.lt; omega
      replace kB := kB.below hbx kB.lt
      replace kR := kR.below hbx kR.lt
      replace hB := chain hB hbx
      have hzX : X.heap.size ≤ wc.heap.size := hbx.size
      have hxR : w.heap.size + 1 + 1 < wc.heap.size := kR.lt
      clear hbx kA hN hzX
      by_cases hf : n ≤ q
      · rw [show lessB q n = true from decide_eq_true hf]
        replace HY := Lib.hid (HY.out (by rw [← HQ.out] at hf; exact hf))
        clear hf HN HP HC HQ
        go_upto_region 6 with fail
        refine wp_region_held_drew (S := fun W => Blk W B 27 (ws (nw (q - n)))) hmx kN.drew ?_
        intro hS
        replace kB : Blk wc.drew _ _ _ := kB
        replace kR : Blk wc.drew _ _ _ := kR
        replace hB := hB.drew
        replace hxR : _ < wc.drew.heap.size := hxR
        clear kN
        generalize wc.drew = Y at *
        refine' wpAnyH_take (i := 0) (oi := _) (v := _) ?hi47 (by kernel_rfl) (by kernel_rfl) (by kernel_rfl) ?hQ47 (Or.inl ⟨?hw47, ?hy47⟩) hS ?rest47
        case hi47 => simp only [List.getElem?_toArray, List.getElem?_cons_zero]; rfl
        case hQ47 => exact fun _ _ _ h => h
        case hw47 => rfl
        case hy47 => intro W' hS'; go_simp; with_reducible rfl
        try simp only [Act.put, List.setIfInBounds_toArray, List.set_cons_zero, List.set_cons_succ]
        refine' wpAnyH_take (i := 1) (oi := _) (v := _) ?hi48 (by kernel_rfl) (by kernel_rfl) (by kernel_rfl) ?hQ48 (Or.inl ⟨?hw48, ?hy48⟩) hS ?rest48
        case hi48 => simp only [List.getElem?_toArray, List.getElem?_cons_succ, List.getElem?_cons_zero]; rfl
        case hQ48 => exact fun _ _ _ h => h
        case hw48 => rfl
        case hy48 => intro W' hS'; go_simp; with_reducible rfl
        try simp only [Act.put, List.setIfInBounds_toArray, List.set_cons_zero, List.set_cons_succ]
        refine' wpAnyH_take (i := 2) (oi := _) (v := wn (q - n)) ?hi49 (by kernel_rfl) (by kernel_rfl) (by kernel_rfl) ?hQ49 (Or.inl ⟨?hw49, ?hy49⟩) hS ?rest49
        case hi49 => simp only [List.getElem?_toArray, List.getElem?_cons_succ, List.getElem?_cons_zero]; rfl
        case hQ49 => exact fun _ _ _ h => h
        case hw49 => rfl
        case hy49 => exact fun W' hS' => exec_load 27 (.tmp 10) rfl _ W' (load_wn hS')
        try simp only [Act.put, List.setIfInBounds_toArray, List.set_cons_zero, List.set_cons_succ]
        refine' wpAnyH_take (i := 3) (oi := _) (v := _) ?hi50 (by kernel_rfl) (by kernel_rfl) (by kernel_rfl) ?hQ50 (Or.inl ⟨?hw50, ?hy50⟩) hS ?rest50
        case hi50 => simp only [List.getElem?_toArray, List.getElem?_cons_succ, List.getElem?_cons_zero]; rfl
        case hQ50 => exact fun _ _ _ h => h
        case hw50 => rfl
        case hy50 => intro W' hS'; go_simp; with_reducible rfl
        try simp only [Act.put, List.setIfInBounds_toArray, List.set_cons_zero, List.set_cons_succ]
        refine' wpAnyH_take (i := 4) (oi := _) (v := _) ?hi51 (by kernel_rfl) (by kernel_rfl) (by kernel_rfl) ?hQ51 (Or.inl ⟨?hw51, ?hy51⟩) hS ?rest51
        case hi51 => simp only [List.getElem?_toArray, List.getElem?_cons_succ, List.getElem?_cons_zero]; rfl
        case hQ51 => exact fun _ _ _ h => h
        case hw51 => rfl
        case hy51 => intro W' hS'; go_simp; with_reducible rfl
        try simp only [Act.put, List.setIfInBounds_toArray, List.set_cons_zero, List.set_cons_succ]
        refine wpAnyH_ready (rs := [5]) (by kernel_rfl) (by simp) ?_
        refine' AllReadyH.cons (o := _) ?ho52 (fun K hK => ?st52) AllReadyH.nil
        case ho52 => simp only [List.getElem?_toArray, List.getElem?_cons_succ, List.getElem?_cons_zero]; rfl
        case st52 =>
          refine wp_store_slot (.tmp 34) (.tmp 32) kB hi hj (q - n) rfl rfl rfl rfl ?_
          replace hB := hB.grown (grownBy_row Y w.heap.size (bkc (updB b (2 * i + j) (q - n))).toArray) hB.size (fun e he => by cases he; exact Nat.le_refl _)
          replace kR := kR.rowO (bkc (updB b (2 * i + j) (q - n))).toArray (show w.heap.size + 1 + 1 ≠ w.heap.size by omega)
          replace kB := kB.row (bkc (updB b (2 * i + j) (q - n)))
          refine hK.out _ _ (hS.rowO _ (fun e => hBne e.symm)) (fun _ => ?_)
          clear hK K hS
          generalize World.setRow _ _ _ = Z at *
          try simp only [Act.put, List.setIfInBounds_toArray, List.set_cons_zero, List.set_cons_succ]
          refine wpAnyH_done (by kernel_rfl) ?_ _
          go_wp2_with (first
            | ((with_reducible refine wpList_loadIf 30 (.tmp 4) ?_ (some 35) ?_ ?_ (bkv (updB b (2 * i + j) (q - n))) ?_ ?_); (· rfl); (· rfl); (· rfl); (· exact load_book kB))
            | ((refine wpList_store_book (.tmp 8) (.tmp 35) kR (bkc_len noK) (updB b (2 * i + j) (q - n)) ?_ ?_ ?_ ?_ ?_ ?_); (· rfl); (· rfl); (· rfl); (· rfl); (· rfl)))
          exact bodyPost_ret (v := .tuple #[bkv (updB b (2 * i + j) (q - n)), .int .i64 0]) (res_book rfl _ rfl rfl (kR.row _)) rfl ⟨by rw [HY.out], hB.grown (grownBy_row _ _ _) hB.size (fun e he => by cases he; omega)⟩
      · rw [show lessB q n = false from decide_eq_false hf]
        replace HN := Lib.hid (HN.out (by rw [← HQ.out] at hf; exact hf))
        clear hf HY HP HC HQ kN
        go_wp2_with (first
          | ((with_reducible refine wpList_loadIf 30 (.tmp 4) ?_ (some 29) ?_ ?_ (bkv (b)) ?_ ?_); (· rfl); (· rfl); (· rfl); (· exact load_book kB))
          | ((refine wpList_store_book (.tmp 8) (.tmp 29) kR (bkc_len noK) (b) ?_ ?_ ?_ ?_ ?_ ?_); (· rfl); (· rfl); (· rfl); (· rfl); (· rfl)))
        exact bodyPost_ret (v := .tuple #[bkv (b), .int .i64 30]) (res_book rfl _ rfl rfl (kR.row _)) rfl ⟨by rw [HN.out], hB.grown (grownBy_row _ _ _) hB.size (fun e he => by cases he; omega)⟩
  · have HP : Hid (placeB a s = false) := Lib.hid (decide_eq_false h)
    have HE := Lib.hid (takeB_no (b := b) (n := n) h)
    clear h
    go_enter Tryz.func60, Tryz.ntmps60
    go_wp2_with (first
      | (go_at_call 55; refine (isPlace_any _ _ _).mono ?_; rw [HP.out]; rintro e w1 ⟨rfl, rfl⟩)
      | ((with_reducible refine wpList_loadIf 30 (.tmp 4) ?_ (some 16) ?_ ?_ (bkv (b)) ?_ ?_); (· rfl); (· rfl); (· rfl); (· exact load_book kB0))
      | ((refine wpList_store_book (.tmp 8) (.tmp 16) kR1 (bkc_len noK) (b) ?_ ?_ ?_ ?_ ?_ ?_); (· rfl); (· rfl); (· rfl); (· rfl); (· rfl)))
    exact bodyPost_ret (v := .tuple #[bkv (b), .int .i64 4]) (res_book rfl _ rfl rfl (kR1.row (bkc b))) rfl ⟨by rw [HE.out], hB0.grown (grownBy_row _ _ _) hB0.size (fun e he => by cases he; omega)⟩
end Go.Proofs.YthhmdgmmeedhdaaGreat
namespace Go.Proofs.YthhmdgmmeedhdaaGreat
open Go.RowKit Go.Shelf
set_option maxRecDepth 100000 in
set_option maxHeartbeats 4000000 in
theorem bookGive_any (b : Bk) (hb : OkK b) (a s : Int) (n : Nat) (hn : n < M4) (w : World) :
    Calls Tryz.prog 96 #[bkv b, .int .i64 a, .int .i64 s, wn n] w fun e W' => e = .returned (.tuple #[bkv (giveB b a s n).1, .int .i64 (giveB b a s n).2]) ∧ Below w.heap.size w W' := by
  have hmx : Tryz.prog.follows .mixedOrders = true := by kernel_rfl
  have kB0 := ((Blk.new w 30 (bkc b)).alloc (.cells (ws (nw n)).toArray 27)).alloc (.cells (bkc noK).toArray 30)
  have kA0 : Blk (((w.alloc (.cells (bkc b).toArray 30)).alloc (.cells (ws (nw n)).toArray 27)).alloc (.cells (bkc noK).toArray 30)) (w.heap.size + 1) 27 (ws (nw n)) := (Blk.new' (by simp)).alloc _
  have kR0 : Blk (((w.alloc (.cells (bkc b).toArray 30)).alloc (.cells (ws (nw n)).toArray 27)).alloc (.cells (bkc noK).toArray 30)) (w.heap.size + 1 + 1) 30 (bkc noK) := Blk.new' (by simp)
  have hB0 := chainA (chainA (chain0 w (.cells (bkc b).toArray 30)) (.cells (ws (nw n)).toArray 27)) (.cells (bkc noK).toArray 30)
  rw [bkc_no] at kB0 kA0 hB0
  have kR1 : Blk (((w.alloc (.cells (bkc b).toArray 30)).alloc (.cells (ws (nw n)).toArray 27)).alloc (.cells (List.replicate 64 (Value.int .u64 0)).toArray 30)) (w.heap.size + 1 + 1) 30 (bkc noK) := by rw [bkc_no] at kR0 ⊢; exact kR0
  clear kR0
  by_cases h : atS a s
  · have HP : Hid (placeB a s = true) := Lib.hid (decide_eq_true h)
    have HY := Lib.hid (fun k => giveB_yes (b := b) (n := n) h k)
    have HN := Lib.hid (fun k => giveB_over (b := b) (n := n) h k)
    have hs16 := slot_lt h
    obtain ⟨⟨h1, h2⟩, h3, h4⟩ := h
    obtain ⟨i, rfl⟩ : ∃ i : Nat, a = i := ⟨a.toNat, by omega⟩
    obtain ⟨j, rfl⟩ : ∃ j : Nat, s = j := ⟨s.toNat, by omega⟩
    have hi : i < 8 := by omega
    have hj : j < 2 := by omega
    have hbs := hb (2 * i + j) (by omega)
    replace HY : Hid (_ → giveB b (i : Int) (j : Int) n = (updB b (2 * i + j) (b (2 * i + j) + n), 0)) := HY
    replace HN : Hid (_ → giveB b (i : Int) (j : Int) n = (b, 38)) := HN
    have HC := Lib.hid (addN_any hbs hn)
    clear hs16 hbs
    generalize hq : b (2 * i + j) = q at *
    have HQ := Lib.hid hq
    clear hq
    go_enter Tryz.func96, Tryz.ntmps96
    go_upto_region 3 with (go_at_call 55; refine (isPlace_any _ _ _).mono ?_; rw [HP.out]; rintro e w1 ⟨rfl, rfl⟩)
    generalize hX : World.alloc (World.alloc (World.alloc _ _) _) _ = X
    have kB : Blk X w.heap.size 30 (bkc b) := by rw [← hX]; exact kB0
    have kA : Blk X (w.heap.size + 1) 27 (ws (nw n)) := by rw [← hX]; exact kA0
    have kR : Blk X (w.heap.size + 1 + 1) 30 (bkc noK) := by rw [← hX]; exact kR1
    have hB : Below w.heap.size w X := by rw [← hX]; exact hB0
    clear hX kB0 kA0 kR1 hB0
    go_cut [10, 11] (fun p f wc => NewN X (addN q n) p wc ∧ f = .bool (fitB q n))
    case first =>
      refine wp_region_held_drew (S := fun W => Below X.heap.size X W) hmx (Below.refl _ X).drew ?_
      intro hS
      have hl : ∀ W, Below X.heap.size X W → (Instr.loadAt 27 (.pointer (some ⟨w.heap.size, i * 8 + j * 4, none⟩))).run Tryz.prog W = .ok (wn q) W := fun W h => by have := load_slot (kB.below h kB.lt) hi hj; rw [HQ.out] at this; exact this
      have HL := Lib.hid hl
      clear hl
      generalize X.drew = Y at *
      refine' wpAnyH_take (i := 0) (oi := _) (v := _) ?hi1 (by kernel_rfl) (by kernel_rfl) (by kernel_rfl) ?hQ1 (Or.inl ⟨?hw1, ?hy1⟩) hS ?rest1
      case hi1 => simp only [List.getElem?_toArray, List.getElem?_cons_zero]; rfl
      case hQ1 => exact fun _ _ _ h => h
      case hw1 => rfl
      case hy1 => intro W' hS'; go_simp; with_reducible rfl
      try simp only [Act.put, List.setIfInBounds_toArray, List.set_cons_zero, List.set_cons_succ]
      refine' wpAnyH_take (i := 1) (oi := _) (v := _) ?hi2 (by kernel_rfl) (by kernel_rfl) (by kernel_rfl) ?hQ2 (Or.inl ⟨?hw2, ?hy2⟩) hS ?rest2
      case hi2 => simp only [List.getElem?_toArray, List.getElem?_cons_succ, List.getElem?_cons_zero]; rfl
      case hQ2 => exact fun _ _ _ h => h
      case hw2 => rfl
      case hy2 => intro W' hS'; go_simp; with_reducible rfl
      try simp only [Act.put, List.setIfInBounds_toArray, List.set_cons_zero, List.set_cons_succ]
      refine' wpAnyH_take (i := 2) (oi := _) (v := _) ?hi3 (by kernel_rfl) (by kernel_rfl) (by kernel_rfl) ?hQ3 (Or.inl ⟨?hw3, ?hy3⟩) hS ?rest3
      case hi3 => simp only [List.getElem?_toArray, List.getElem?_cons_succ, List.getElem?_cons_zero]; rfl
      case hQ3 => exact fun _ _ _ h => h
      case hw3 => rfl
      case hy3 => intro W' hS'; go_simp; with_reducible rfl
      try simp only [Act.put, List.setIfInBounds_toArray, List.set_cons_zero, List.set_cons_succ]
      refine' wpAnyH_take (i := 3) (oi := _) (v := _) ?hi4 (by kernel_rfl) (by kernel_rfl) (by kernel_rfl) ?hQ4 (Or.inl ⟨?hw4, ?hy4⟩) hS ?rest4
      case hi4 => simp only [List.getElem?_toArray, List.getElem?_cons_succ, List.getElem?_cons_zero]; rfl
      case hQ4 => exact fun _ _ _ h => h
      case hw4 => rfl
      case hy4 => intro W' hS'; go_simp; with_reducible rfl
      try simp only [Act.put, List.setIfInBounds_toArray, List.set_cons_zero, List.set_cons_succ]
      refine' wpAnyH_take (i := 4) (oi := _) (v := wn q) ?hi5 (by kernel_rfl) (by kernel_rfl) (by kernel_rfl) ?hQ5 (Or.inl ⟨?hw5, ?hy5⟩) hS ?rest5
      case hi5 => simp only [List.getElem?_toArray, List.getElem?_cons_succ, List.getElem?_cons_zero]; rfl
      case hQ5 => exact fun _ _ _ h => h
      case hw5 => rfl
      case hy5 => exact fun W' hS' => exec_load 27 (.tmp 21) rfl _ W' (HL.out W' hS')
      try simp only [Act.put, List.setIfInBounds_toArray, List.set_cons_zero, List.set_cons_succ]
      refine' wpAnyH_take (i := 5) (oi := _) (v := wn n) ?hi6 (by kernel_rfl) (by kernel_rfl) (by kernel_rfl) ?hQ6 (Or.inl ⟨?hw6, ?hy6⟩) hS ?rest6
      case hi6 => simp only [List.getElem?_toArray, List.getElem?_cons_succ, List.getElem?_cons_zero]; rfl
      case hQ6 => exact fun _ _ _ h => h
      case hw6 => rfl
      case hy6 => exact fun W' hS' => exec_load 27 (.tmp 7) rfl _ W' (load_wn (kA.below hS' kA.lt))
      try simp only [Act.put, List.setIfInBounds_toArray, List.set_cons_zero, List.set_cons_succ]
      refine wpAnyH_ready (rs := [6, 10]) (by kernel_rfl) (by simp) ?_
      refine' AllReadyH.cons (o := _) ?ho7 (fun K hK => ?st7) (AllReadyH.cons (o := _) ?ho8 (fun K hK => ?st8) AllReadyH.nil)
      case ho7 => simp only [List.getElem?_toArray, List.getElem?_cons_succ, List.getElem?_cons_zero]; rfl
      case ho8 => simp only [List.getElem?_toArray, List.getElem?_cons_succ, List.getElem?_cons_zero]; rfl
      case st7 =>
        go_simp
        refine (HC.out _).mono ?_
        rintro e Y1 ⟨rfl, hb1⟩
        refine hK.out _ _ (hS.trans (hb1.mono hS.size)) (fun hS => ?_)
        clear hK K
        try simp only [Act.put, List.setIfInBounds_toArray, List.set_cons_zero, List.set_cons_succ]
        refine' wpAnyH_take (i := 7) (oi := _) (v := _) ?hi9 (by kernel_rfl) (by kernel_rfl) (by kernel_rfl) ?hQ9 (Or.inl ⟨?hw9, ?hy9⟩) hS ?rest9
        case hi9 => simp only [List.getElem?_toArray, List.getElem?_cons_succ, List.getElem?_cons_zero]; rfl
        case hQ9 => exact fun _ _ _ h => h
        case hw9 => rfl
        case hy9 => intro W' hS'; go_simp; with_reducible rfl
        try simp only [Act.put, List.setIfInBounds_toArray, List.set_cons_zero, List.set_cons_succ]
        refine' wpAnyH_take (i := 8) (oi := _) (v := _) ?hi10 (by kernel_rfl) (by kernel_rfl) (by kernel_rfl) ?hQ10 (Or.inl ⟨?hw10, ?hy10⟩) hS ?rest10
        case hi10 => simp only [List.getElem?_toArray, List.getElem?_cons_succ, List.getElem?_cons_zero]; rfl
        case hQ10 => exact fun _ _ _ h => h
        case hw10 => rfl
        case hy10 => intro W' hS'; go_simp; with_reducible rfl
        try simp only [Act.put, List.setIfInBounds_toArray, List.set_cons_zero, List.set_cons_succ]
        refine' wpAnyH_take (i := 9) (oi := _) (v := _) ?hi11 (by kernel_rfl) (by kernel_rfl) (by kernel_rfl) ?hQ11 (Or.inl ⟨?hw11, ?hy11⟩) hS ?rest11
        case hi11 => simp only [List.getElem?_toArray, List.getElem?_cons_succ, List.getElem?_cons_zero]; rfl
        case hQ11 => exact fun _ _ _ h => h
        case hw11 => rfl
        case hy11 => intro W' hS'; go_simp; with_reducible rfl
        try simp only [Act.put, List.setIfInBounds_toArray, List.set_cons_zero, List.set_cons_succ]
        refine wpAnyH_ready (rs := [10]) (by kernel_rfl) (by simp) ?_
        refine' AllReadyH.cons (o := _) ?ho12 (fun K hK => ?st12) AllReadyH.nil
        case ho12 => simp only [List.getElem?_toArray, List.getElem?_cons_succ, List.getElem?_cons_zero]; rfl
        case st12 =>
          go_simp
          have hN : X.heap.size ≤ Y1.heap.size := hS.size
          refine hK.out _ _ (hS.alloc hS.size _) (fun hS => ?_)
          clear hK K
          try simp only [Act.put, List.setIfInBounds_toArray, List.set_cons_zero, List.set_cons_succ]
          have kN : Blk (Y1.alloc (.cells #[.int .u64 0, .int .u64 0, .int .u64 0, .int .u64 0] 27)) Y1.heap.size 27 (ws (nw 0)) := by rw [ws_no]; exact Blk.new _ _ _
          generalize Y1.alloc (.cells #[.int .u64 0, .int .u64 0, .int .u64 0, .int .u64 0] 27) = U at *
          generalize Y1.heap.size = BN at *
          refine wpAnyH_ready (rs := [11]) (by kernel_rfl) (by simp) ?_
          refine' AllReadyH.cons (o := _) ?ho13 (fun K hK => ?st13) AllReadyH.nil
          case ho13 => simp only [List.getElem?_toArray, List.getElem?_cons_succ, List.getElem?_cons_zero]; rfl
          case st13 =>
            refine wp_store_wn (.tmp 10) (.tmp 25) kN (addN q n) rfl rfl rfl rfl ?_
            have hS1 := hS.grown (grownBy_row U BN (ws (nw (addN q n))).toArray) hS.size (fun e he => by cases he; exact hN)
            have kN1 := kN.row (ws (nw (addN q n)))
            refine hK.out _ _ hS1 (fun hS => ?_)
            clear hK K hS1
            try simp only [Act.put, List.setIfInBounds_toArray, List.set_cons_zero, List.set_cons_succ]
            refine' wpAnyH_take (i := 12) (oi := _) (v := _) ?hi14 (by kernel_rfl) (by kernel_rfl) (by kernel_rfl) ?hQ14 (Or.inl ⟨?hw14, ?hy14⟩) hS ?rest14
            case hi14 => simp only [List.getElem?_toArray, List.getElem?_cons_succ, List.getElem?_cons_zero]; rfl
            case hQ14 => exact fun _ _ _ h => h
            case hw14 => rfl
            case hy14 => intro W' hS'; go_simp; with_reducible rfl
            try simp only [Act.put, List.setIfInBounds_toArray, List.set_cons_zero, List.set_cons_succ]
            refine wpAnyH_done (by kernel_rfl) ?_ _
            go_wp2_with fail
            go_meet
            exact ⟨⟨_, rfl, kN1, hN, hS⟩, rfl⟩
      case st8 =>
        go_simp
        have hN : X.heap.size ≤ Y.heap.size := hS.size
        refine hK.out _ _ (hS.alloc hS.size _) (fun hS => ?_)
        clear hK K
        try simp only [Act.put, List.setIfInBounds_toArray, List.set_cons_zero, List.set_cons_succ]
        have kN : Blk (Y.alloc (.cells #[.int .u64 0, .int .u64 0, .int .u64 0, .int .u64 0] 27)) Y.heap.size 27 (ws (nw 0)) := by rw [ws_no]; exact Blk.new _ _ _
        generalize Y.alloc (.cells #[.int .u64 0, .int .u64 0, .int .u64 0, .int .u64 0] 27) = Y2 at *
        generalize Y.heap.size = BN at *
        refine wpAnyH_ready (rs := [6]) (by kernel_rfl) (by simp) ?_
        refine' AllReadyH.cons (o := _) ?ho15 (fun K hK => ?st15) AllReadyH.nil
        case ho15 => simp only [List.getElem?_toArray, List.getElem?_cons_succ, List.getElem?_cons_zero]; rfl
        case st15 =>
          go_simp
          refine (HC.out _).mono ?_
          rintro e U ⟨rfl, hb1⟩
          refine hK.out _ _ (hS.trans (hb1.mono hS.size)) (fun hS => ?_)
          clear hK K
          try simp only [Act.put, List.setIfInBounds_toArray, List.set_cons_zero, List.set_cons_succ]
          have kN := kN.below hb1 kN.lt
          clear hb1
          refine' wpAnyH_take (i := 7) (oi := _) (v := _) ?hi16 (by kernel_rfl) (by kernel_rfl) (by kernel_rfl) ?hQ16 (Or.inl ⟨?hw16, ?hy16⟩) hS ?rest16
          case hi16 => simp only [List.getElem?_toArray, List.getElem?_cons_succ, List.getElem?_cons_zero]; rfl
          case hQ16 => exact fun _ _ _ h => h
          case hw16 => rfl
          case hy16 => intro W' hS'; go_simp; with_reducible rfl
          try simp only [Act.put, List.setIfInBounds_toArray, List.set_cons_zero, List.set_cons_succ]
          refine' wpAnyH_take (i := 8) (oi := _) (v := _) ?hi17 (by kernel_rfl) (by kernel_rfl) (by kernel_rfl) ?hQ17 (Or.inl ⟨?hw17, ?hy17⟩) hS ?rest17
          case hi17 => simp only [List.getElem?_toArray, List.getElem?_cons_succ, List.getElem?_cons_zero]; rfl
          case hQ17 => exact fun _ _ _ h => h
          case hw17 => rfl
          case hy17 => intro W' hS'; go_simp; with_reducible rfl
          try simp only [Act.put, List.setIfInBounds_toArray, List.set_cons_zero, List.set_cons_succ]
          refine' wpAnyH_take (i := 9) (oi := _) (v := _) ?hi18 (by kernel_rfl) (by kernel_rfl) (by kernel_rfl) ?hQ18 (Or.inl ⟨?hw18, ?hy18⟩) hS ?rest18
          case hi18 => simp only [List.getElem?_toArray, List.getElem?_cons_succ, List.getElem?_cons_zero]; rfl
          case hQ18 => exact fun _ _ _ h => h
          case hw18 => rfl
          case hy18 => intro W' hS'; go_simp; with_reducible rfl
          try simp only [Act.put, List.setIfInBounds_toArray, List.set_cons_zero, List.set_cons_succ]
          refine wpAnyH_ready (rs := [11]) (by kernel_rfl) (by simp) ?_
          refine' AllReadyH.cons (o := _) ?ho19 (fun K hK => ?st19) AllReadyH.nil
          case ho19 => simp only [List.getElem?_toArray, List.getElem?_cons_succ, List.getElem?_cons_zero]; rfl
          case st19 =>
            refine wp_store_wn (.tmp 10) (.tmp 25) kN (addN q n) rfl rfl rfl rfl ?_
            have hS1 := hS.grown (grownBy_row U BN (ws (nw (addN q n))).toArray) hS.size (fun e he => by cases he; exact hN)
            have kN1 := kN.row (ws (nw (addN q n)))
            refine hK.out _ _ hS1 (fun hS => ?_)
            clear hK K hS1
            try simp only [Act.put, List.setIfInBounds_toArray, List.set_cons_zero, List.set_cons_succ]
            refine' wpAnyH_take (i := 12) (oi := _) (v := _) ?hi20 (by kernel_rfl) (by kernel_rfl) (by kernel_rfl) ?hQ20 (Or.inl ⟨?hw20, ?hy20⟩) hS ?rest20
            case hi20 => simp only [List.getElem?_toArray, List.getElem?_cons_succ, List.getElem?_cons_zero]; rfl
            case hQ20 => exact fun _ _ _ h => h
            case hw20 => rfl
            case hy20 => intro W' hS'; go_simp; with_reducible rfl
            try simp only [Act.put, List.setIfInBounds_toArray, List.set_cons_zero, List.set_cons_succ]
            refine wpAnyH_done (by kernel_rfl) ?_ _
            go_wp2_with fail
            go_meet
            exact ⟨⟨_, rfl, kN1, hN, hS⟩, rfl⟩
    case rest =>
      obtain ⟨⟨B, rfl, kN, hN, hbx⟩, rfl⟩ := hcut
      have hBne : w.heap.size ≠ B := by have := kB.lt; omega
      replace kB := kB.below hbx kB.lt
      replace kR := kR.below hbx kR.lt
      replace hB := chain hB hbx
      have hzX : X.heap.size ≤ wc.heap.size := hbx.size
      have hxR : w.heap.size + 1 + 1 < wc.heap.size := kR.lt
      clear hbx kA hN hzX
      by_cases hf : q + n < M4
      · rw [show fitB q n = true from decide_eq_true hf]
        replace HY := Lib.hid (HY.out (by rw [← HQ.out] at hf; exact hf))
        rw [show addN q n = q + n from if_pos hf] at kN
        clear hf HN HP HC HQ
        go_upto_region 6 with fail
        refine wp_region_held_drew (S := fun W => Blk W B 27 (ws (nw (q + n)))) hmx kN.drew ?_
        intro hS
        replace kB : Blk wc.drew _ _ _ := kB
        replace kR : Blk wc.drew _ _ _ := kR
        replace hB := hB.drew
        replace hxR : _ < wc.drew.heap.size := hxR
        clear kN
        generalize wc.drew = Y at *
        refine' wpAnyH_take (i := 0) (oi := _) (v := _) ?hi21 (by kernel_rfl) (by kernel_rfl) (by kernel_rfl) ?hQ21 (Or.inl ⟨?hw21, ?hy21⟩) hS ?rest21
        case hi21 => simp only [List.getElem?_toArray, List.getElem?_cons_zero]; rfl
        case hQ21 => exact fun _ _ _ h => h
        case hw21 => rfl
        case hy21 => intro W' hS'; go_simp; with_reducible rfl
        try simp only [Act.put, List.setIfInBounds_toArray, List.set_cons_zero, List.set_cons_succ]
        refine' wpAnyH_take (i := 1) (oi := _) (v := _) ?hi22 (by kernel_rfl) (by kernel_rfl) (by kernel_rfl) ?hQ22 (Or.inl ⟨?hw22, ?hy22⟩) hS ?rest22
        case hi22 => simp only [List.getElem?_toArray, List.getElem?_cons_succ, List.getElem?_cons_zero]; rfl
        case hQ22 => exact fun _ _ _ h => h
        case hw22 => rfl
        case hy22 => intro W' hS'; go_simp; with_reducible rfl
        try simp only [Act.put, List.setIfInBounds_toArray, List.set_cons_zero, List.set_cons_succ]
        refine' wpAnyH_take (i := 2) (oi := _) (v := wn (q + n)) ?hi23 (by kernel_rfl) (by kernel_rfl) (by kernel_rfl) ?hQ23 (Or.inl ⟨?hw23, ?hy23⟩) hS ?rest23
        case hi23 => simp only [List.getElem?_toArray, List.getElem?_cons_succ, List.getElem?_cons_zero]; rfl
        case hQ23 => exact fun _ _ _ h => h
        case hw23 => rfl
        case hy23 => exact fun W' hS' => exec_load 27 (.tmp 10) rfl _ W' (load_wn hS')
        try simp only [Act.put, List.setIfInBounds_toArray, List.set_cons_zero, List.set_cons_succ]
        refine' wpAnyH_take (i := 3) (oi := _) (v := _) ?hi24 (by kernel_rfl) (by kernel_rfl) (by kernel_rfl) ?hQ24 (Or.inl ⟨?hw24, ?hy24⟩) hS ?rest24
        case hi24 => simp only [List.getElem?_toArray, List.getElem?_cons_succ, List.getElem?_cons_zero]; rfl
        case hQ24 => exact fun _ _ _ h => h
        case hw24 => rfl
        case hy24 => intro W' hS'; go_simp; with_reducible rfl
        try simp only [Act.put, List.setIfInBounds_toArray, List.set_cons_zero, List.set_cons_succ]
        refine' wpAnyH_take (i := 4) (oi := _) (v := _) ?hi25 (by kernel_rfl) (by kernel_rfl) (by kernel_rfl) ?hQ25 (Or.inl ⟨?hw25, ?hy25⟩) hS ?rest25
        case hi25 => simp only [List.getElem?_toArray, List.getElem?_cons_succ, List.getElem?_cons_zero]; rfl
        case hQ25 => exact fun _ _ _ h => h
        case hw25 => rfl
        case hy25 => intro W' hS'; go_simp; with_reducible rfl
        try simp only [Act.put, List.setIfInBounds_toArray, List.set_cons_zero, List.set_cons_succ]
        refine wpAnyH_ready (rs := [5]) (by kernel_rfl) (by simp) ?_
        refine' AllReadyH.cons (o := _) ?ho26 (fun K hK => ?st26) AllReadyH.nil
        case ho26 => simp only [List.getElem?_toArray, List.getElem?_cons_succ, List.getElem?_cons_zero]; rfl
        case st26 =>
          refine wp_store_slot (.tmp 34) (.tmp 32) kB hi hj (q + n) rfl rfl rfl rfl ?_
          replace hB := hB.grown (grownBy_row Y w.heap.size (bkc (updB b (2 * i + j) (q + n))).toArray) hB.size (fun e he => by cases he; exact Nat.le_refl _)
          replace kR := kR.rowO (bkc (updB b (2 * i + j) (q + n))).toArray (show w.heap.size + 1 + 1 ≠ w.heap.size by omega)
          replace kB := kB.row (bkc (updB b (2 * i + j) (q + n)))
          refine hK.out _ _ (hS.rowO _ (fun e => hBne e.symm)) (fun _ => ?_)
          clear hK K hS
          generalize World.setRow _ _ _ = Z at *
          try simp only [Act.put, List.setIfInBounds_toArray, List.set_cons_zero, List.set_cons_succ]
          refine wpAnyH_done (by kernel_rfl) ?_ _
          go_wp2_with (first
            | ((with_reducible refine wpList_loadIf 30 (.tmp 4) ?_ (some 35) ?_ ?_ (bkv (updB b (2 * i + j) (q + n))) ?_ ?_); (· rfl); (· rfl); (· rfl); (· exact load_book kB))
            | ((refine wpList_store_book (.tmp 8) (.tmp 35) kR (bkc_len noK) (updB b (2 * i + j) (q + n)) ?_ ?_ ?_ ?_ ?_ ?_); (· rfl); (· rfl); (· rfl); (· rfl); (· rfl)))
          exact bodyPost_ret (v := .tuple #[bkv (updB b (2 * i + j) (q + n)), .int .i64 0]) (res_book rfl _ rfl rfl (kR.row _)) rfl ⟨by rw [HY.out], hB.grown (grownBy_row _ _ _) hB.size (fun e he => by cases he; omega)⟩
      · rw [show fitB q n = false from decide_eq_false hf]
        replace HN := Lib.hid (HN.out (by rw [← HQ.out] at hf; exact hf))
        clear hf HY HP HC HQ kN
        go_wp2_with (first
          | ((with_reducible refine wpList_loadIf 30 (.tmp 4) ?_ (some 29) ?_ ?_ (bkv (b)) ?_ ?_); (· rfl); (· rfl); (· rfl); (· exact load_book kB))
          | ((refine wpList_store_book (.tmp 8) (.tmp 29) kR (bkc_len noK) (b) ?_ ?_ ?_ ?_ ?_ ?_); (· rfl); (· rfl); (· rfl); (· rfl); (· rfl)))
        exact bodyPost_ret (v := .tuple #[bkv (b), .int .i64 38]) (res_book rfl _ rfl rfl (kR.row _)) rfl ⟨by rw [HN.out], hB.grown (grownBy_row _ _ _) hB.size (fun e he => by cases he; omega)⟩
  · have HP : Hid (placeB a s = false) := Lib.hid (decide_eq_false h)
    have HE := Lib.hid (giveB_no (b := b) (n := n) h)
    clear h
    go_enter Tryz.func96, Tryz.ntmps96
    go_wp2_with (first
      | (go_at_call 55; refine (isPlace_any _ _ _).mono ?_; rw [HP.out]; rintro e w1 ⟨rfl, rfl⟩)
      | ((with_reducible refine wpList_loadIf 30 (.tmp 4) ?_ (some 16) ?_ ?_ (bkv (b)) ?_ ?_); (· rfl); (· rfl); (· rfl); (· exact load_book kB0))
      | ((refine wpList_store_book (.tmp 8) (.tmp 16) kR1 (bkc_len noK) (b) ?_ ?_ ?_ ?_ ?_ ?_); (· rfl); (· rfl); (· rfl); (· rfl); (· rfl)))
    exact bodyPost_ret (v := .tuple #[bkv (b), .int .i64 4]) (res_book rfl _ rfl rfl (kR1.row (bkc b))) rfl ⟨by rw [HE.out], hB0.grown (grownBy_row _ _ _) hB0.size (fun e he => by cases he; omega)⟩
end Go.Proofs.YthhmdgmmeedhdaaGreat
