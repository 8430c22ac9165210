/-
  escrow: a lock is found by its key; what became of it; a lock that is open; Locks of the call's own: kept, one more, one that is ended; how a part ends that turns them; escrow: a lock is prepared; escrow: a lock is paid out; it is given back
-/
import Derived.LoopTactic
import Derived.Test.YthhmdgmmeedhdaaGreatR09
namespace Go.Proofs.YthhmdgmmeedhdaaGreat
open Go.RowKit Go.Shelf
theorem findAt_any (x : Lk) (k : ByteArray) (K : Nat) (w : World) (hK : Blk w K 9 [.string k]) :
  Calls Tryz.prog 78 #[lkv x, .pointer (some ⟨K, 0, none⟩)] w fun e W' => e = .returned (.bool (decide (x.ke = k))) ∧ Below w.heap.size w W' := by
 have hM := (Mem.start w).allocN rfl 63 (lkc x)
 replace hK := hK.alloc (.cells (lkc x).toArray 63)
 go_enter Tryz.func78, Tryz.ntmps78
 go_upto_region 1 with fail
 refine wp_region_fromM (fun W => Mem w none [(w.heap.size, 63, lkc x)] W ∧ Blk W K 9 [.string k]) ⟨hM, hK⟩ ?_
 clear hM hK
 rintro Y1 ⟨hM, hK⟩
 refine tF 5 [.v 0 4 (pt w.heap.size 0), .l 1 5 9 (pt w.heap.size 0) (.string x.ke), .l 2 6 9 (pt K 0) (.string k), .a 3 7 (.bool (x.ke.toList == k.toList)) (.bool (decide (x.ke = k))), .v 4 3 (.bool (decide (x.ke = k)))] ⟨ld_str hM.a0 0 rfl, ld_str hK 0 rfl, cB (beqB _ _), trivial⟩ ?_
 refine eF ?_
 go_wp2_with fail
 go_ret
 exact ⟨rfl, hM.b⟩
def placeI (l : List Lk) (k : ByteArray) : Int := match placeE l k with | none => -1 | some i => i
theorem placeI_some {l : List Lk} {k : ByteArray} {i : Nat} (h : placeE l k = some i) : placeI l k = i := by unfold placeI; rw [h]
theorem placeI_none {l : List Lk} {k : ByteArray} (h : placeE l k = none) : placeI l k = -1 := by unfold placeI; rw [h]
set_option maxRecDepth 100000 in
set_option maxHeartbeats 4000000 in
theorem lkIndex_any (l : List Lk) (v : Value) (k : ByteArray) (K : Nat) (w : World) {lo : Nat} (hl : RSl lkc lo w.heap.size w v l) (hK : Blk w K 9 [.string k]) :
  Calls Tryz.prog 77 #[v, .func (.func 78) #[] #[.pointer (some ⟨K, 0, none⟩)]] w fun e W' => e = .returned (.int .i64 (placeI l k)) ∧ Below w.heap.size w W' := by
 have HE := Lib.hid (fun k x (hx : l[k]? = some x) => hl.elem lkc_len hx Tryz.underlying32 (fun W => by kernel_rfl))
 have hmax := hl.len
 obtain ⟨a, c, rfl⟩ := hl.slice
 have HL := Lib.hid hl
 have HK := Lib.hid hK
 clear hl hK
 unfold maxLen at hmax
 go_enter Tryz.func77, Tryz.ntmps77
 go_wp2
 go_loopw [5, 8] (fun _ i wr => ∃ j : Nat, j ≤ l.length ∧ i = .int .i64 (j : Nat) ∧ (∀ (n : Nat) (y : Lk), n < j → l[n]? = some y → y.ke ≠ k) ∧ Below w.heap.size w wr) (fun _ i _ => l.length - (intOf i).toNat)
 case atStart => exact ⟨0, Nat.zero_le _, rfl, fun n y h => absurd h (Nat.not_lt_zero n), Below.refl _ _⟩
 case round =>
  obtain ⟨j, hj, rfl, hno, hb⟩ := hrel
  have HN := Lib.hid hno
  have HB := Lib.hid hb
  clear hno hb
  by_cases hlt : j < l.length
  ·
   obtain ⟨x, hx⟩ : ∃ x, l[j]? = some x := ⟨_, List.getElem?_eq_getElem hlt⟩
   obtain ⟨b, o, _, hbh, hi, hc⟩ := HE.out j x hx
   have HX := Lib.hid hx
   have hlw := Lib.hid (HL.out.below HB.out (Nat.le_refl _))
   have HI := Lib.hid (hi wr)
   have HD : Hid ((Instr.loadAt 63 (.pointer (some ⟨b, o, none⟩))).run Tryz.prog wr = .ok (lkv x) wr) := Lib.hid (ld_cells (lkc x) _ _ Tryz.underlying63 rfl (by kernel_rfl) (hc wr hlw.out))
   have HC := Lib.hid (findAt_any x k K wr (HK.out.below HB.out HK.out.lt))
   clear hx hi hc hbh hlw
   have hlt' : (j : Int) < (l.length : Int) := by omega
   go_upto_region 4 with fail
   refine wp_region_from ?_
   refine tF 5 [.v 0 11 (.func (.func 78) #[] #[.pointer (some ⟨K, 0, none⟩)]), .v 1 12 (.slice a l.length c), .v 2 13 (.int .i64 (j : Int)), .x 3 14 32 (.slice a l.length c) (.int .i64 (j : Int)) (pt b o), .l 4 15 63 (pt b o) (lkv x)] ⟨HI.out, HD.out, trivial⟩ ?_
   refine cF (some 16) _ _ ((HC.out).mono ?_)
   rintro e W1 ⟨rfl, hb⟩
   refine eF ?_
   have HB1 := Lib.hid (chain HB.out hb)
   clear hb
   by_cases hk : x.ke = k
   ·
    have hd := decide_eq_true hk
    have HK1 := Lib.hid hk
    clear hk
    rw [hd]
    go_wp2_with fail
    go_ret
    refine ⟨?_, HB1.out⟩
    rw [placeI_some (place_at HX.out HK1.out HN.out)]
    rfl
   ·
    have hd := decide_eq_false hk
    have HK1 := Lib.hid hk
    clear hk
    rw [hd]
    go_wp2_with fail
    go_roundw
    case rel =>
     refine ⟨j + 1, by omega, by go_num, fun n y hn hy => ?_, HB1.out⟩
     rcases Nat.lt_succ_iff_lt_or_eq.1 hn with h | rfl
     ·
      exact HN.out n y h hy
     ·
      obtain rfl : x = y := by have := HX.out; rw [hy] at this; exact (Option.some.inj this).symm
      exact HK1.out
    case measure => simp [intOf]; omega
  ·
   obtain rfl : j = l.length := by omega
   go_wp2
   go_ret
   refine ⟨?_, HB.out⟩
   rw [placeI_none (place_not fun n y hy => HN.out n y (List.getElem?_eq_some_iff.1 hy).1 hy)]
   rfl
theorem find_any (s : Es) (v : Value) (k : ByteArray) {B lo : Nat} (w : World) (hB : Blk w B 34 (stc s v)) (hl : RSl lkc lo w.heap.size w v s.lk) :
  Calls Tryz.prog 44 #[.pointer (some ⟨B, 0, none⟩), .string k] w fun e W' => e = .returned (.int .i64 (placeI s.lk k)) ∧ Below w.heap.size w W' := by
 have hb0 := chain0 w (.cells #[.string k] 9)
 have hK : Blk (w.alloc (.cells #[.string k] 9)) w.heap.size 9 [.string k] := Blk.new w _ _
 replace hB := hB.alloc (.cells #[.string k] 9)
 have hl1 := (hl.below hb0 (Nat.le_refl _)).wide hb0.size
 clear hl
 go_enter Tryz.func44, Tryz.ntmps44
 go_upto_region 1 with fail
 refine wp_region_fromM (fun W => Below w.heap.size w W ∧ Blk W w.heap.size 9 [.string k] ∧ Blk W B 34 (stc s v) ∧ RSl lkc lo W.heap.size W v s.lk) ⟨hb0, hK, hB, hl1⟩ ?_
 clear hb0 hK hB hl1
 rintro Y ⟨hb0, hK, hB, hl1⟩
 refine tF 5 [.v 0 5 (pt B 0), .v 1 6 (pt B 0), .v 2 7 (pt B 150), .l 3 8 32 (pt B 150) (v), .v 4 9 (.func (.func 78) #[] #[.pointer (some ⟨w.heap.size, 0, none⟩)])] ⟨ld_lk hB, trivial⟩ ?_
 refine cF (some 10) 77 #[v, .func (.func 78) #[] #[.pointer (some ⟨w.heap.size, 0, none⟩)]] ((lkIndex_any s.lk v k _ Y hl1 hK).mono ?_)
 rintro e W1 ⟨rfl, hb⟩
 refine tF 7 [.v 6 4 (.int .i64 (placeI s.lk k))] trivial ?_
 refine eF ?_
 go_wp2_with fail
 go_ret
 exact ⟨rfl, chain hb0 hb⟩
def OpenR (w : World) (p : Nat × Int) (e : Ending) (W' : World) : Prop := Below w.heap.size w W' ∧ ((p.2 = 0 ∧ e = .returned (.int .i64 (p.1 : Int))) ∨ (p.2 ≠ 0 ∧ Pan p.2 e))
def orcB : Orc := ⟨keyB, digB, signB⟩
theorem openE_none {s : Es} {t : Tr} (h : placeE s.lk (keyB t.iv) = none) : openE orcB s t = (0, 32) := by unfold openE; rw [show orcB.ke t.iv = keyB t.iv from rfl, h]
theorem openE_st {s : Es} {t : Tr} {i : Nat} {x : Lk} (h : placeE s.lk (keyB t.iv) = some i) (hx : s.lk[i]? = some x) (k : x.st ≠ 1) : openE orcB s t = (0, 32) := by unfold openE; rw [show orcB.ke t.iv = keyB t.iv from rfl, h]; dsimp only; rw [hx]; dsimp only; rw [if_pos k]
theorem openE_dg {s : Es} {t : Tr} {i : Nat} {x : Lk} (h : placeE s.lk (keyB t.iv) = some i) (hx : s.lk[i]? = some x) (k : x.st = 1) (d : x.dg ≠ digB t.iv t.vr) : openE orcB s t = (0, 33) := by unfold openE; rw [show orcB.ke t.iv = keyB t.iv from rfl, h]; dsimp only; rw [hx]; dsimp only; rw [if_neg (not_not_intro k)]; exact if_pos d
theorem openE_ok {s : Es} {t : Tr} {i : Nat} {x : Lk} (h : placeE s.lk (keyB t.iv) = some i) (hx : s.lk[i]? = some x) (k : x.st = 1) (d : x.dg = digB t.iv t.vr) : openE orcB s t = (i, 0) := by unfold openE; rw [show orcB.ke t.iv = keyB t.iv from rfl, h]; dsimp only; rw [hx]; dsimp only; rw [if_neg (not_not_intro k)]; exact if_neg (not_not_intro d)
theorem OpenR.pan {w W : World} {p : Nat × Int} {e : Ending} {c : Int} {n : Nat} (hb : Below w.heap.size w W) (hp : p = (n, c)) (hc : c ≠ 0) (he : Pan c e) : OpenR w p e W := by subst hp; exact ⟨hb, .inr ⟨hc, he⟩⟩
theorem OpenR.two {w W : World} {p : Nat × Int} {e : Ending} (h : OpenR w p e W) : (p.2 = 0 ∧ e = .returned (.int .i64 (p.1 : Int)) ∧ Below w.heap.size w W) ∨ (p.2 ≠ 0 ∧ e = .panicked [{ v := .iface 106 (.int .i64 p.2), recovered := false }] ∧ Below w.heap.size w W) := by
 rcases h.2 with ⟨h0, he⟩ | ⟨h0, he⟩
 ·
  exact .inl ⟨h0, he, h.1⟩
 ·
  exact .inr ⟨h0, he, h.1⟩
set_option maxRecDepth 100000 in
set_option maxHeartbeats 4000000 in
theorem esc_open_any (s : Es) (v : Value) (t : Tr) (ht : OkT t) {B lo : Nat} (w : World) (hB : Blk w B 34 (stc s v)) (hl : RSl lkc lo w.heap.size w v s.lk) :
  Calls Tryz.prog 102 #[.pointer (some ⟨B, 0, none⟩), txv t] w (OpenR w (openE orcB s t)) := by
 have hmx : Tryz.prog.follows .mixedOrders = true := by kernel_rfl
 have hM := (Mem.start w).allocN rfl 50 (txc t)
 have HB := Lib.hid hB
 have HL := Lib.hid hl
 clear hB hl
 go_enter Tryz.func102, Tryz.ntmps102
 go_upto_region 1 with fail
 refine wp_region_fromM _ hM ?_
 clear hM
 rintro Y1 hM
 refine tF 3 [.v 0 6 (pt B 0), .v 1 7 (pt w.heap.size 8), .l 2 8 46 (pt w.heap.size 8) (ivv t.iv)] ⟨ld_iv hM.a0, trivial⟩ ?_
 refine cF (some 9) 21 #[ivv t.iv] ((key_any _ _).mono ?_)
 rintro e W1 ⟨rfl, hb⟩
 replace hM := hM.below hb
 clear hb
 refine cF (some 10) 44 #[pt B 0, .string (keyB t.iv)] ((find_any s v (keyB t.iv) _ (HB.out.below hM.b HB.out.lt) ((HL.out.below hM.b (Nat.le_refl _)).wide hM.b.size)).mono ?_)
 rintro e W1 ⟨rfl, hb⟩
 replace hM := hM.below hb
 clear hb
 refine tF 6 [.v 5 5 (.int .i64 (placeI s.lk (keyB t.iv)))] trivial ?_
 refine eF ?_
 go_upto_region 2 with fail
 refine wp_region_fromM _ hM ?_
 clear hM
 rintro Y2 hM
 refine tF 2 [.v 0 11 (.int .i64 (placeI s.lk (keyB t.iv))), .v 1 12 (.bool (decide (placeI s.lk (keyB t.iv) ≥ 0)))] trivial ?_
 refine cF (some 13) 59 #[.bool (decide (placeI s.lk (keyB t.iv) ≥ 0)), .int .i64 32] ((demand_any _ _ _).mono ?_)
 rintro e W1 (⟨h, rfl, rfl⟩ | ⟨h, rfl, rfl⟩)
 case inr =>
  have h := of_decide_eq_false h
  have hn : placeE s.lk (keyB t.iv) = none := by
   cases hp : placeE s.lk (keyB t.iv) with
   | none => rfl
   | some i => rw [placeI_some hp] at h; omega
  exact And.intro rfl (OpenR.pan hM.b (openE_none hn) (by decide) rfl)
 have h := of_decide_eq_true h
 obtain ⟨i, hp⟩ : ∃ i, placeE s.lk (keyB t.iv) = some i := by
  cases hp : placeE s.lk (keyB t.iv) with
  | none => rw [placeI_none hp] at h; omega
  | some i => exact ⟨i, rfl⟩
 obtain ⟨_, ⟨x, hx, _⟩, _⟩ := place_some hp
 rw [placeI_some hp] at *
 clear h
 have HP := Lib.hid hp
 have HX := Lib.hid hx
 obtain ⟨b, o, _, _, hi, hc⟩ := HL.out.elem lkc_len hx Tryz.underlying32 (fun W => by kernel_rfl)
 have HI := Lib.hid hi
 have HC := Lib.hid hc
 clear hp hx hi hc
 refine eF ?_
 go_upto_region 3 with fail
 refine wp_region_fromM _ hM ?_
 clear hM
 rintro Y3 hM
 refine tF 9 [.v 0 14 (pt B 0), .v 1 15 (pt B 0), .v 2 16 (pt B 150), .l 3 17 32 (pt B 150) (v), .v 4 18 (.int .i64 (i : Int)), .x 5 19 32 (v) (.int .i64 (i : Int)) (pt b o), .v 6 20 (pt b (o + 2)), .l 7 21 3 (pt b (o + 2)) (.int .i64 x.st), .v 8 22 (.bool (x.st == 1))] ⟨ld_lk (HB.out.below hM.b HB.out.lt), HI.out _, ld_cell _ _ Tryz.underlying3 rfl (HC.out _ (HL.out.below hM.b (Nat.le_refl _)) 2 _ rfl), trivial⟩ ?_
 refine cF (some 23) 59 #[.bool (x.st == 1), .int .i64 32] ((demand_any _ _ _).mono ?_)
 rintro e W1 (⟨h, rfl, rfl⟩ | ⟨h, rfl, rfl⟩)
 case inr => exact And.intro rfl (OpenR.pan hM.b (openE_st HP.out HX.out (ne_of_beq_false h)) (by decide) rfl)
 have H1 := Lib.hid (eq_of_beq h)
 clear h
 refine eF ?_
 go_upto_region 4 with fail
 refine wp_region_M (fun W => Mem w none [(w.heap.size, 50, txc t)] W) (fun W => Mem w none [(w.heap.size, 50, txc t)] W) hmx hM.drew ?_
 clear hM
 rintro Y4 hM
 have hS := hM.sub (.cons_cons _ .slnil)
 refine tD 3 [.v 0 24 (pt B 0), .v 1 25 (pt B 0), .v 2 26 (pt B 150), .l 3 27 32 (pt B 150) (v), .v 4 28 (.int .i64 (i : Int)), .x 5 29 32 (v) (.int .i64 (i : Int)) (pt b o), .v 6 30 (pt b (o + 1)), .l 7 31 9 (pt b (o + 1)) (.string x.dg), .v 8 32 (pt w.heap.size 8), .l 9 33 46 (pt w.heap.size 8) (ivv t.iv), .v 10 34 (pt w.heap.size 15), .l 11 35 48 (pt w.heap.size 15) (svv t.vr)] ⟨fun W h => ld_lk (HB.out.below h.b HB.out.lt), fun W h => HI.out _, fun W h => ld_cell _ _ Tryz.underlying9 rfl (HC.out _ (HL.out.below h.b (Nat.le_refl _)) 1 _ rfl), fun W h => ld_iv h.a0, fun W h => ld_vr h.a0, trivial⟩ hS ?_
 refine oD 12 2 (cD (some 36) 101 #[ivv t.iv, svv t.vr] ((digest_any _ _ ht.v _).mono ?_))
 rintro e W1 ⟨rfl, hb⟩
 refine And.intro (hS.below hb) ?_
 replace hS := hS.below hb
 replace hM := hM.below hb
 clear hb
 refine tD 1 [.a 13 37 (.bool (x.dg.toList == (digB t.iv t.vr).toList)) (.bool (decide (x.dg = digB t.iv t.vr)))] ⟨cB (beqB _ _), trivial⟩ hS ?_
 refine oD 14 0 (cD (some 38) 59 #[.bool (decide (x.dg = digB t.iv t.vr)), .int .i64 33] ((demand_any _ _ _).mono ?_))
 rintro e W1 (⟨h, rfl, rfl⟩ | ⟨h, rfl, rfl⟩)
 case inr => exact And.intro rfl (OpenR.pan hM.b (openE_dg HP.out HX.out H1.out (of_decide_eq_false h)) (by decide) rfl)
 refine And.intro hS ?_
 have H2 := Lib.hid (of_decide_eq_true h)
 clear h
 refine eD ?_
 clear hS
 go_upto_region 5 with fail
 refine wp_region_fromM _ hM ?_
 clear hM
 rintro Y5 hM
 refine tF 2 [.v 0 39 (.int .i64 (i : Int)), .v 1 4 (.int .i64 (i : Int))] trivial ?_
 refine eF ?_
 go_wp2_with fail
 go_ret
 rw [openE_ok HP.out HX.out H1.out H2.out]
 exact ⟨hM.b, .inl ⟨rfl, rfl⟩⟩
end Go.Proofs.YthhmdgmmeedhdaaGreat
namespace Go.Proofs.YthhmdgmmeedhdaaGreat
open Go.RowKit Go.Shelf
abbrev OwnL (b0 : Nat) (W : World) (v : Value) (l : List Lk) : Prop := W.ownsRow b0 63 3 v l.length (flatR lkc l)
theorem OwnL.rsl {b0 : Nat} {W : World} {v : Value} {l : List Lk} (h : OwnL b0 W v l) : RSl lkc b0 W.heap.size W v l := RSl.of_own lkc_len h
theorem OwnL.grown {b0 B : Nat} {w W : World} {v : Value} {l : List Lk} (h : OwnL b0 w v l) (hB : B < b0) (hg : w.grownBy W (some B)) : OwnL b0 W v l := by
 refine h.kept hg ?_
 cases hv : v.ownBlock with
 | none => exact .inl rfl
 | some k =>
  refine .inr fun e => ?_
  cases e
  have := (h.lt _ hv).1
  omega
theorem OwnL.one {b0 : Nat} {W : World} {v : Value} {l : List Lk} (h : OwnL b0 W v l) : v.oneCell' = true ∧ v.cells.toList = [v] := by
 rcases h.2 with ⟨rfl, _⟩ | ⟨g, cap, cur, rfl, _⟩ <;> exact ⟨rfl, rfl⟩
def Turn (b0 B : Nat) (w W : World) : Prop := W.os = w.os ∧ W.tape = w.tape ∧ W.output = w.output ∧ w.heap.size ≤ W.heap.size ∧ ∀ k, k < b0 → k ≠ B → W.heap[k]? = w.heap[k]?
theorem Turn.of {b0 B : Nat} {w W : World} (h : w.grownBy W (some B)) (hb : b0 ≤ w.heap.size) : Turn b0 B w W :=
 ⟨h.os, h.tape, h.output, h.size, fun k hk hne => h.block k (Nat.lt_of_lt_of_le hk hb) (fun e => hne (Option.some.inj e))⟩
theorem Turn.trans {b0 B : Nat} {w W W' : World} (h : Turn b0 B w W) (h' : Turn b0 B W W') : Turn b0 B w W' :=
 ⟨h'.1.trans h.1, h'.2.1.trans h.2.1, h'.2.2.1.trans h.2.2.1, Nat.le_trans h.2.2.2.1 h'.2.2.2.1, fun k hk hne => (h'.2.2.2.2 k hk hne).trans (h.2.2.2.2 k hk hne)⟩
theorem Turn.own {b0 B : Nat} {w W : World} {row : Option Nat} (h : w.grownBy W row) (hb : b0 ≤ w.heap.size) (hr : ∀ k, row = some k → b0 ≤ k) : Turn b0 B w W :=
 ⟨h.os, h.tape, h.output, h.size, fun k hk _ => h.block k (Nat.lt_of_lt_of_le hk hb) (fun e => by have := hr k e.symm; omega)⟩
theorem Turn.blk {b0 B k : Nat} {w W : World} {T : TypeId} {vs : List Value} (h : Turn b0 B w W) (hk : k < b0) (hne : k ≠ B) (hB : Blk w k T vs) : Blk W k T vs := (h.2.2.2.2 k hk hne).trans hB
def EndL (w : World) (B b0 : Nat) (p : Es × Int) (e : Ending) (W' : World) : Prop :=
 Turn b0 B w W' ∧ ((p.2 = 0 ∧ e = .returned (.tuple #[]) ∧ ∃ v', Blk W' B 34 (stc p.1 v') ∧ OwnL b0 W' v' p.1.lk) ∨ (p.2 ≠ 0 ∧ Pan p.2 e ∧ BlkN W' B))
theorem EndL.two {w W : World} {B b0 : Nat} {p : Es × Int} {e : Ending} (h : EndL w B b0 p e W) : (p.2 = 0 ∧ e = .returned (.tuple #[]) ∧ Turn b0 B w W ∧ ∃ v', Blk W B 34 (stc p.1 v') ∧ OwnL b0 W v' p.1.lk) ∨ (p.2 ≠ 0 ∧ e = .panicked [{ v := .iface 106 (.int .i64 p.2), recovered := false }] ∧ Turn b0 B w W ∧ BlkN W B) := by
 rcases h.2 with ⟨h0, he, hB⟩ | ⟨h0, he, hB⟩
 ·
  exact .inl ⟨h0, he, h.1, hB⟩
 ·
  exact .inr ⟨h0, he, h.1, hB⟩
theorem EndL.pan {w W : World} {B b0 : Nat} {p : Es × Int} {e : Ending} {c : Int} (hg : w.grownBy W (some B)) (hb : b0 ≤ w.heap.size) (hc : c ≠ 0) (hp : p.2 = c) (he : Pan c e) (hB : BlkN W B) : EndL w B b0 p e W := ⟨Turn.of hg hb, .inr ⟨by rw [hp]; exact hc, by rw [hp]; exact he, hB⟩⟩
theorem EndL.of {w w0 W : World} {B b0 : Nat} {v : Value} {p q : Es × Int} {e : Ending} (hg : w.grownBy w0 (some B)) (hb : b0 ≤ w.heap.size) (hB : B < b0) (ho : OwnL b0 w v p.1.lk) (h : EndE w0 B v q e W) (hp : p = q) : EndL w B b0 p e W := by
 subst hp
 have hg' := grownBy_trans hg h.1
 refine ⟨Turn.of hg' hb, ?_⟩
 rcases h.2 with ⟨h0, he, h1⟩ | ⟨h0, he, h1⟩
 ·
  exact .inl ⟨h0, he, v, h1, ho.grown hB hg'⟩
 ·
  exact .inr ⟨h0, he, h1⟩
theorem EndL.fail {w w0 W : World} {B b0 : Nat} {v : Value} {p q : Es × Int} {e : Ending} (hg : w.grownBy w0 (some B)) (hb : b0 ≤ w.heap.size) (h : EndE w0 B v q e W) (hq : q.2 ≠ 0) (hp : p.2 = q.2) : EndL w B b0 p e W := by
 have hg' := grownBy_trans hg h.1
 refine ⟨Turn.of hg' hb, .inr ?_⟩
 rw [hp]
 rcases h.2 with ⟨h0, _⟩ | h2
 ·
  exact absurd h0 hq
 ·
  exact h2
theorem own_append {b0 : Nat} {W : World} {v : Value} {l : List Lk} (h : OwnL b0 W v l) (hb : b0 ≤ W.heap.size) (x : Lk) {N : Nat} {T : TypeId} (hN : Blk W N T (lkc x)) (hr : (l.length + 1) * 40 ≤ 140737488355328) (ty : TypeId) :
  ∃ v' W', (Builtin.append_ #[32, 32] ty #[v, .slice (some ⟨N, 0, none⟩) 1 1]).run Tryz.prog W = .ok v' W' ∧ OwnL b0 W' v' (l ++ [x]) ∧ W.grownBy W' v.ownBlock := by
 have hi0 : (Tryz.prog.info? 63).map (fun i => (i.zero, i.size, i.bytes)) = some (some (.agg #[.string ⟨#[]⟩, .string ⟨#[]⟩, .int .i64 0]), 3, 40) := by kernel_rfl
 obtain ⟨i0, hi, hz0, hz1, hz2⟩ := info_parts hi0
 obtain ⟨v', W', hrun, h1, h2, _⟩ := run_append_own (P := Tryz.prog) W b0 32 ty 63 i0 _ 3 40 Tryz.underlying32 hi hz0 hz1 hz2 rfl (by decide) v l.length (flatR lkc l) h ⟨N, 0, none⟩ 1 1 (lkc x) rfl
  (fun j u hu => by rw [addr_add, Nat.zero_add]; exact (hN.cell j).trans hu) (by unfold lkc; simp [Value.oneCell']) (by unfold maxLen; omega) hr hb
 refine ⟨v', W', hrun, ?_, h2⟩
 unfold OwnL
 rw [List.length_append, flat_app, flat_one]
 exact h1
theorem own_end {b0 : Nat} {W : World} {v : Value} {l : List Lk} (h : OwnL b0 W v l) {i : Nat} {x : Lk} (hx : l[i]? = some x) (st : Int) :
  ∃ g o W', (∀ W', (Instr.indexAt 32 v (.int .i64 (i : Int))).run Tryz.prog W' = .ok (.pointer (some ⟨g, o, none⟩)) W') ∧ (Instr.storeAt 3 (.pointer (some ⟨g, o + 2, none⟩)) (.int .i64 st)).run Tryz.prog W = .ok () W' ∧ b0 ≤ g ∧ W.grownBy W' (some g) ∧ OwnL b0 W' v (endE l i st) := by
 have hk : i < l.length := (List.getElem?_eq_some_iff.1 hx).1
 obtain ⟨hlen, ⟨_, h0⟩ | ⟨g, cap, cur, rfl, hg, hc, hn, hm, hsz, ht⟩⟩ := h
 ·
  omega
 ·
  have hB : Blk W g 63 cur.toList := hc
  have hlc : i * 3 + 2 < cur.toList.length := by rw [Array.length_toList, hsz]; omega
  have hset := laid_one cur.toList (i * 3 + 2) (.int .i64 st) hlc
  refine ⟨g, i * 3, W.setRow g (cur.toList.set (i * 3 + 2) (.int .i64 st)).toArray, fun W' => ?_, sto_part _ hB (i * 3 + 2) _ _ [.int .i64 st] rfl (by kernel_rfl) (Nat.succ_le_of_lt hlc) rfl hset, hg, grownBy_row W g _, ?_⟩
  ·
   have := idx_sl (W := W') (b := g) (off := 0) (len := l.length) (cap := cap) (c := 3) Tryz.underlying32 (by kernel_rfl) hk
   rw [Nat.zero_add] at this
   exact this
  ·
   have hB' := hB.row (cur.toList.set (i * 3 + 2) (.int .i64 st))
   have hfs := flat_set lkc_len (v := .int .i64 st) (y := { x with st := st }) hx (show 2 < 3 by decide) rfl
   unfold OwnL
   rw [end_len, end_at hx, ← hfs, ← ht]
   refine ⟨by rw [List.length_set, ht, hlen], .inr ⟨g, cap, (cur.toList.set (i * 3 + 2) (.int .i64 st)).toArray, rfl, hg, hB', hn, hm, by simp [hsz], ?_⟩⟩
   rw [List.toList_toArray, List.take_set]
end Go.Proofs.YthhmdgmmeedhdaaGreat
namespace Go.Proofs.YthhmdgmmeedhdaaGreat
open Go.RowKit Go.Shelf
abbrev qep1 (s : Es) (t : Tr) : Es := { s with pu := (takeB s.pu t.iv.us t.iv.se (amV t)).1, he := updB s.he t.iv.se.toNat (s.he t.iv.se.toNat + amV t) }
theorem growE_ok {s : Es} {a n : Nat} (h : (growE s a n).2 = 0) : (growE s a n).1 = { s with he := updB s.he a (s.he a + n) } := by
 unfold growE at h ⊢
 by_cases e : s.he a + n < M4
 ·
  rw [if_pos e]
 ·
  rw [if_neg e] at h; exact absurd h (show ¬ (38 : Int) = 0 by decide)
theorem shrinkE_ok {s : Es} {a n : Nat} (h : (shrinkE s a n).2 = 0) : (shrinkE s a n).1 = { s with he := updB s.he a (s.he a - n) } := by
 unfold shrinkE at h ⊢
 by_cases e : n ≤ s.he a
 ·
  rw [if_pos e]
 ·
  rw [if_neg e] at h; exact absurd h (show ¬ (38 : Int) = 0 by decide)
theorem receives_yes {s : Es} (h : s.sd > 0) (v : Value) {B : Nat} (w : World) (hB : Blk w B 34 (stc s v)) : Calls Tryz.prog 100 #[.pointer (some ⟨B, 0, none⟩)] w fun e W' => e = .returned (.bool true) ∧ W' = w := by
 have := receives_any s v w hB
 rw [decide_eq_true h] at this; exact this
theorem receives_not {s : Es} (h : ¬ s.sd > 0) (v : Value) {B : Nat} (w : World) (hB : Blk w B 34 (stc s v)) : Calls Tryz.prog 100 #[.pointer (some ⟨B, 0, none⟩)] w fun e W' => e = .returned (.bool false) ∧ W' = w := by
 have := receives_any s v w hB
 rw [decide_eq_false h] at this; exact this
def prepP (s : Es) (t : Tr) : Es × Int :=
 if (placeE s.lk (keyB t.iv)).isSome then (s, 32) else if ¬ (t.vr.x > s.tm ∧ t.vr.x ≤ s.tm + 1024) then (s, 34)
 else if s.sd > 0 then
  (if t.fr ≠ t.iv.ro then (s, 37) else if (unvE s t.iv.ro t.iv.re (amV t)).2 ≠ 0 then (s, (unvE s t.iv.ro t.iv.re (amV t)).2) else ({ s with va := (takeB s.va t.iv.ro t.iv.re (amV t)).1, lk := s.lk ++ [⟨keyB t.iv, digB t.iv t.vr, 1⟩] }, 0))
 else
  (if t.fr ≠ t.iv.us then (s, 37) else if (takeB s.pu t.iv.us t.iv.se (amV t)).2 ≠ 0 then (s, (takeB s.pu t.iv.us t.iv.se (amV t)).2) else if (growE { s with pu := (takeB s.pu t.iv.us t.iv.se (amV t)).1 } t.iv.se.toNat (amV t)).2 ≠ 0 then (s, (growE { s with pu := (takeB s.pu t.iv.us t.iv.se (amV t)).1 } t.iv.se.toNat (amV t)).2)
   else ({ s with pu := (takeB s.pu t.iv.us t.iv.se (amV t)).1, he := updB s.he t.iv.se.toNat (s.he t.iv.se.toNat + amV t), lk := s.lk ++ [⟨keyB t.iv, digB t.iv t.vr, 1⟩] }, 0))
set_option maxRecDepth 100000 in
set_option maxHeartbeats 4000000 in
theorem prepare_any (s : Es) (v : Value) (hs : OkE s) (t : Tr) (ht : OkT t) (hz : 0 ≤ t.iv.se ∧ t.iv.se ≤ 1) {B b0 : Nat} (w : World) (hBb : B < b0) (hb0 : b0 ≤ w.heap.size) (hB : Blk w B 34 (stc s v)) (ho : OwnL b0 w v s.lk) (hr : (s.lk.length + 1) * 40 ≤ 140737488355328) :
  Calls Tryz.prog 66 #[.pointer (some ⟨B, 0, none⟩), txv t] w (EndL w B b0 (prepP s t)) := by
 have hmx : Tryz.prog.follows .mixedOrders = true := by kernel_rfl
 have hM := (Mem.startB hB).allocN rfl 50 (txc t)
 have hn : amV t < M4 := val_lt ht.v
 have HA := Lib.hid (fun W => bookTake_any s.pu hs.p t.iv.us t.iv.se (amV t) hn W)
 have HH := Lib.hid (okE_he hs hz.1 hz.2)
 have HT := Lib.hid (And.intro hs.t0 hs.t1)
 have HO := Lib.hid ho
 clear hB ho
 go_enter Tryz.func66, Tryz.ntmps66
 go_upto_region 1 with fail
 refine wp_region_fromM _ hM ?_
 clear hM
 rintro Y1 hM
 refine tF 2 [.v 0 5 (pt w.heap.size 8), .l 1 6 46 (pt w.heap.size 8) (ivv t.iv)] ⟨ld_iv hM.a0, trivial⟩ ?_
 refine cF (some 7) 21 #[ivv t.iv] ((key_any _ _).mono ?_)
 rintro e W1 ⟨rfl, hb⟩
 replace hM := hM.below hb
 clear hb
 refine tF 4 [.v 3 4 (.string (keyB t.iv))] trivial ?_
 refine eF ?_
 go_upto_region 2 with fail
 refine wp_region_fromM _ hM ?_
 clear hM
 rintro Y2 hM
 refine tF 2 [.v 0 8 (pt B 0), .v 1 9 (.string (keyB t.iv))] trivial ?_
 refine cF (some 10) 44 #[pt B 0, .string (keyB t.iv)] ((find_any s v (keyB t.iv) _ hM.a1 (HO.out.grown hBb hM.g).rsl).mono ?_)
 rintro e W1 ⟨rfl, hb⟩
 replace hM := hM.below hb
 clear hb
 refine tF 4 [.v 3 11 (.bool (decide (placeI s.lk (keyB t.iv) < 0)))] trivial ?_
 refine cF (some 12) 59 #[.bool (decide (placeI s.lk (keyB t.iv) < 0)), .int .i64 32] ((demand_any _ _ _).mono ?_)
 rintro e W1 (⟨h, rfl, rfl⟩ | ⟨h, rfl, rfl⟩)
 case inr =>
  have h := of_decide_eq_false h
  have hn : (placeE s.lk (keyB t.iv)).isSome = true := by
   cases hp : placeE s.lk (keyB t.iv) with
   | none => rw [placeI_none hp] at h; omega
   | some i => rfl
  exact And.intro rfl (EndL.pan hM.g hb0 (by decide) (by unfold prepP; rw [if_pos hn]) rfl (BlkN.of hM.a1))
 have h := of_decide_eq_true h
 have h1 : Hid (¬ (placeE s.lk (keyB t.iv)).isSome = true) := Lib.hid (by
  cases hp : placeE s.lk (keyB t.iv) with
  | none => exact fun e => by cases e
  | some i => rw [placeI_some hp] at h; omega)
 clear h
 refine eF ?_
 by_cases hx : t.vr.x > s.tm
 case neg =>
  go_upto_region 3 with fail
  refine wp_region_M (fun W => Mem w (some B) [(w.heap.size, 50, txc t), (B, 34, stc s v)] W) (fun W => Mem w (some B) [(w.heap.size, 50, txc t), (B, 34, stc s v)] W) hmx hM.drew ?_
  clear hM
  rintro Y3 hM
  have hS := hM.sub (.cons_cons _ (.cons_cons _ .slnil))
  refine tD 1 [.v 0 13 (pt w.heap.size 15), .v 1 14 (pt w.heap.size 19), .l 2 15 3 (pt w.heap.size 19) (.int .i64 t.vr.x), .v 3 16 (pt B 0), .v 4 17 (pt B 0), .v 5 18 (pt B 1), .l 6 19 3 (pt B 1) (.int .i64 s.tm), .a 7 20 (.bool (decide (t.vr.x > s.tm))) (.bool false), .v 8 21 (.bool false), .skip 9 (some 22), .skip 10 (some 23), .skip 11 (some 24), .skip 12 (some 25), .skip 13 (some 26), .skip 14 (some 27), .skip 15 (some 28), .skip 16 (some 29), .skip 17 (some 30), .v 18 31 (.bool false)] ⟨fun W h => ld_int h.a0 19 rfl, fun W h => ld_int h.a1 1 rfl, cB (decide_eq_false hx), trivial⟩ hS ?_
  refine oD 19 0 (cD (some 32) 59 #[.bool false, .int .i64 34] ((demand_any _ _ _).mono ?_))
  rintro e W1 (⟨h, rfl, rfl⟩ | ⟨h, rfl, rfl⟩)
  case inl => exact absurd h (by decide)
  exact And.intro rfl (EndL.pan hM.g hb0 (by decide) (by unfold prepP; rw [if_neg h1.out, if_pos (fun e => hx e.1)]) rfl (BlkN.of hM.a1))
 go_upto_region 3 with fail
 refine wp_region_M (fun W => Mem w (some B) [(w.heap.size, 50, txc t), (B, 34, stc s v)] W) (fun W => Mem w (some B) [(w.heap.size, 50, txc t), (B, 34, stc s v)] W) hmx hM.drew ?_
 clear hM
 rintro Y4 hM
 have hS := hM.sub (.cons_cons _ (.cons_cons _ .slnil))
 refine tD 1 [.v 0 13 (pt w.heap.size 15), .v 1 14 (pt w.heap.size 19), .l 2 15 3 (pt w.heap.size 19) (.int .i64 t.vr.x), .v 3 16 (pt B 0), .v 4 17 (pt B 0), .v 5 18 (pt B 1), .l 6 19 3 (pt B 1) (.int .i64 s.tm), .a 7 20 (.bool (decide (t.vr.x > s.tm))) (.bool true), .v 8 21 (.bool true), .v 9 22 (pt w.heap.size 15), .v 10 23 (pt w.heap.size 19), .l 11 24 3 (pt w.heap.size 19) (.int .i64 t.vr.x), .v 12 25 (pt B 0), .v 13 26 (pt B 0), .v 14 27 (pt B 1), .l 15 28 3 (pt B 1) (.int .i64 s.tm), .a 16 29 (.int .i64 (IntKind.i64.wrap (s.tm + 1024))) (.int .i64 (s.tm + 1024)), .v 17 30 (.bool (decide (t.vr.x ≤ s.tm + 1024))), .v 18 31 (.bool (decide (t.vr.x ≤ s.tm + 1024)))] ⟨fun W h => ld_int h.a0 19 rfl, fun W h => ld_int h.a1 1 rfl, cB (decide_eq_true hx), fun W h => ld_int h.a0 19 rfl, fun W h => ld_int h.a1 1 rfl, cI (IntWalk.i64_in _ (by have := HT.out; omega)), trivial⟩ hS ?_
 refine oD 19 0 (cD (some 32) 59 #[.bool (decide (t.vr.x ≤ s.tm + 1024)), .int .i64 34] ((demand_any _ _ _).mono ?_))
 rintro e W1 (⟨h, rfl, rfl⟩ | ⟨h, rfl, rfl⟩)
 case inr => exact And.intro rfl (EndL.pan hM.g hb0 (by decide) (by unfold prepP; rw [if_neg h1.out, if_pos (fun e => absurd e.2 (of_decide_eq_false h))]) rfl (BlkN.of hM.a1))
 refine And.intro hS ?_
 have h2 := Lib.hid (not_not_intro (And.intro hx (of_decide_eq_true h)))
 clear h hx
 refine eD ?_
 clear hS
 by_cases hsd : s.sd > 0
 case pos =>
  have hs0 : Hid ((s.sd > 0)) := Lib.hid (by omega)
  clear hsd
  go_upto_region 4 with fail
  refine wp_region_fromM _ hM ?_
  clear hM
  rintro Y5 hM
  refine tF 1 [.v 0 33 (pt B 0)] trivial ?_
  refine cF (some 34) 100 #[pt B 0] ((receives_yes hs0.out v _ hM.a1).mono ?_)
  rintro e W1 ⟨rfl, rfl⟩
  refine eF ?_
  go_upto_region 5 with fail
  refine wp_region_fromM _ hM ?_
  clear hM
  rintro Y6 hM
  refine tF 6 [.v 0 35 (pt w.heap.size 0), .l 1 36 3 (pt w.heap.size 0) (.int .i64 t.fr), .v 2 37 (pt w.heap.size 8), .v 3 38 (pt w.heap.size 10), .l 4 39 3 (pt w.heap.size 10) (.int .i64 t.iv.ro), .v 5 40 (.bool (t.fr == t.iv.ro))] ⟨ld_int hM.a0 0 rfl, ld_int hM.a0 10 rfl, trivial⟩ ?_
  refine cF (some 41) 59 #[.bool (t.fr == t.iv.ro), .int .i64 37] ((demand_any _ _ _).mono ?_)
  rintro e W1 (⟨h, rfl, rfl⟩ | ⟨h, rfl, rfl⟩)
  case inr => exact And.intro rfl (EndL.pan hM.g hb0 (by decide) (by unfold prepP; rw [if_neg h1.out, if_neg h2.out, if_pos hs0.out, if_pos (ne_of_beq_false h)]) rfl (BlkN.of hM.a1))
  have h3 := Lib.hid (not_not_intro (eq_of_beq h))
  clear h
  refine eF ?_
  go_upto_region 6 with fail
  refine wp_region_fromM _ hM ?_
  clear hM
  rintro Y7 hM
  refine tF 10 [.v 0 42 (pt B 0), .v 1 43 (pt w.heap.size 8), .v 2 44 (pt w.heap.size 10), .l 3 45 3 (pt w.heap.size 10) (.int .i64 t.iv.ro), .v 4 46 (pt w.heap.size 8), .v 5 47 (pt w.heap.size 12), .l 6 48 3 (pt w.heap.size 12) (.int .i64 t.iv.re), .v 7 49 (pt w.heap.size 15), .v 8 50 (pt w.heap.size 15), .l 9 51 27 (pt w.heap.size 15) (wn (amV t))] ⟨ld_int hM.a0 10 rfl, ld_int hM.a0 12 rfl, ld_av hM.a0 ht, trivial⟩ ?_
  refine cF (some 52) 98 #[pt B 0, .int .i64 t.iv.ro, .int .i64 t.iv.re, wn (amV t)] ((unvault_any s v hs.v _ _ hn _ hM.a1).mono ?_)
  rintro e W1 h
  rcases h.two with ⟨h0, rfl, hg, hN⟩ | ⟨h0, rfl, _⟩
  case inr => exact And.intro rfl (EndL.fail hM.g hb0 h h0 (by unfold prepP; rw [if_neg h1.out, if_neg h2.out, if_pos hs0.out, if_neg h3.out, if_pos h0]))
  rw [unvE_ok h0] at hN
  replace hM := hM.call 1 rfl rfl hg hN
  have h4 := Lib.hid (not_not_intro h0)
  clear h h0 hg hN
  refine eF ?_
  go_upto_region 10 with fail
  refine wp_region_M (fun W => Blk W w.heap.size 50 (txc t)) (fun W => Mem w (some B) [(w.heap.size, 50, txc t), (B, 34, stc { s with va := (takeB s.va t.iv.ro t.iv.re (amV t)).1 } v)] W) hmx hM.drew ?_
  clear hM
  rintro Y8 hM
  have hS := hM.at 0 rfl
  refine tD 8 [.v 0 88 (pt B 0), .v 1 89 (pt B 0), .v 2 90 (pt B 0), .v 3 91 (pt B 150), .v 5 93 (.string (keyB t.iv)), .v 6 94 (pt w.heap.size 8), .l 7 95 46 (pt w.heap.size 8) (ivv t.iv), .v 8 96 (pt w.heap.size 15), .l 9 97 48 (pt w.heap.size 15) (svv t.vr)] ⟨fun W h => ld_iv h, fun W h => ld_vr h, trivial⟩ hS ?_
  refine oT 4 10 7 ?_ ?_
  ·
   refine lD (some 92) 32 (pt B 150) (v) (ld_lk (s := { s with va := (takeB s.va t.iv.ro t.iv.re (amV t)).1 }) hM.a1) (hS) ?_
   refine oD 10 6 (cD (some 98) 101 #[ivv t.iv, svv t.vr] ((digest_any _ _ ht.v _).mono ?_))
   rintro e Y9 ⟨rfl, hb⟩
   refine And.intro (hS.below hb hS.lt) ?_
   replace hS := hS.below hb hS.lt
   replace hM := hM.below hb
   clear hb
   refine tD 5 [.v 11 99 (lkv ⟨keyB t.iv, digB t.iv t.vr, 1⟩)] trivial hS ?_
   refine oD 12 4 (rD (some 100) (.slice (some ⟨Y9.heap.size, 0, none⟩) 1 1) (Y9.alloc (.cells (lkc ⟨keyB t.iv, digB t.iv t.vr, 1⟩).toArray 63)) (hS.alloc _) ?_)
   replace hS := hS.alloc (.cells (lkc ⟨keyB t.iv, digB t.iv t.vr, 1⟩).toArray 63)
   replace hM := hM.alloc 63 (lkc ⟨keyB t.iv, digB t.iv t.vr, 1⟩)
   generalize World.alloc _ _ = Y10 at *
   generalize hNe : Y9.heap.size = N at *
   clear hNe
   have hO := HO.out.grown hBb hM.g
   obtain ⟨v', W2, hrun, hO2, hg2⟩ := own_append hO (Nat.le_trans hb0 hM.size) ⟨keyB t.iv, digB t.iv t.vr, 1⟩ hM.a0 hr 32
   have hlo : ∀ k, v.ownBlock = some k → b0 ≤ k ∧ k < w.heap.size := fun k hk => HO.out.lt k hk
   have hS2 : Blk W2 w.heap.size 50 (txc t) := hS.kept hg2 (fun e => by have := (hlo _ e.symm).2; omega)
   have hB2 := hM.a2.kept hg2 (fun e => by have := (hlo _ e.symm).1; omega)
   have hT2 := (Turn.of hM.g hb0).trans (Turn.own hg2 (Nat.le_trans hb0 hM.size) (fun k hk => (hlo k hk).1))
   refine oD 13 3 (stepH_append (d := some 101) (t := 32) (t' := 32) (ty := 32) (v := v) (x := .slice (some ⟨N, 0, none⟩) 1 1) (by kernel_rfl) hrun hS2 ?_)
   replace hS := hS2
   refine tD 1 [.v 14 102 (pt B 0), .v 15 103 (pt B 150)] trivial hS ?_
   have hg3 := grownBy_row W2 B (stc ({ s with va := (takeB s.va t.iv.ro t.iv.re (amV t)).1 }) v').toArray
   have hS3 := hS.kept hg3 (fun e => by have := Option.some.inj e; omega)
   refine oD 16 0 (stepH_store (ty := 32) (p := .pointer (some ⟨B, 150, none⟩)) (v := v') (by kernel_rfl) (sto_lk hB2 hO2.one.1 hO2.one.2) hS3 ?_)
   replace hS := hS3
   refine eD ?_
   clear hS
   have fin : EndL w B b0 (prepP s t) (.returned (.tuple #[])) (W2.setRow B (stc ({ s with va := (takeB s.va t.iv.ro t.iv.re (amV t)).1 }) v').toArray) := ⟨hT2.trans (Turn.of hg3 (Nat.le_trans hb0 hT2.2.2.2.1)), .inl ⟨by unfold prepP; rw [if_neg h1.out, if_neg h2.out, if_pos hs0.out, if_neg h3.out, if_neg h4.out], rfl, v', by unfold prepP; rw [if_neg h1.out, if_neg h2.out, if_pos hs0.out, if_neg h3.out, if_neg h4.out]; exact hB2.row _, by unfold prepP; rw [if_neg h1.out, if_neg h2.out, if_pos hs0.out, if_neg h3.out, if_neg h4.out]; exact hO2.grown hBb hg3⟩⟩
   clear hs0 h1 h2 h3 h4
   go_wp2_with fail
   go_end0
   exact fin
  ·
   refine cD (some 98) 101 #[ivv t.iv, svv t.vr] ((digest_any _ _ ht.v _).mono ?_)
   rintro e Y11 ⟨rfl, hb⟩
   refine And.intro (hS.below hb hS.lt) ?_
   replace hS := hS.below hb hS.lt
   replace hM := hM.below hb
   clear hb
   refine tD 6 [.v 11 99 (lkv ⟨keyB t.iv, digB t.iv t.vr, 1⟩)] trivial hS ?_
   refine oT 4 12 5 ?_ ?_
   ·
    refine lD (some 92) 32 (pt B 150) (v) (ld_lk (s := { s with va := (takeB s.va t.iv.ro t.iv.re (amV t)).1 }) hM.a1) (hS) ?_
    refine oD 12 4 (rD (some 100) (.slice (some ⟨Y11.heap.size, 0, none⟩) 1 1) (Y11.alloc (.cells (lkc ⟨keyB t.iv, digB t.iv t.vr, 1⟩).toArray 63)) (hS.alloc _) ?_)
    replace hS := hS.alloc (.cells (lkc ⟨keyB t.iv, digB t.iv t.vr, 1⟩).toArray 63)
    replace hM := hM.alloc 63 (lkc ⟨keyB t.iv, digB t.iv t.vr, 1⟩)
    generalize World.alloc _ _ = Y12 at *
    generalize hNe : Y11.heap.size = N at *
    clear hNe
    have hO := HO.out.grown hBb hM.g
    obtain ⟨v', W2, hrun, hO2, hg2⟩ := own_append hO (Nat.le_trans hb0 hM.size) ⟨keyB t.iv, digB t.iv t.vr, 1⟩ hM.a0 hr 32
    have hlo : ∀ k, v.ownBlock = some k → b0 ≤ k ∧ k < w.heap.size := fun k hk => HO.out.lt k hk
    have hS2 : Blk W2 w.heap.size 50 (txc t) := hS.kept hg2 (fun e => by have := (hlo _ e.symm).2; omega)
    have hB2 := hM.a2.kept hg2 (fun e => by have := (hlo _ e.symm).1; omega)
    have hT2 := (Turn.of hM.g hb0).trans (Turn.own hg2 (Nat.le_trans hb0 hM.size) (fun k hk => (hlo k hk).1))
    refine oD 13 3 (stepH_append (d := some 101) (t := 32) (t' := 32) (ty := 32) (v := v) (x := .slice (some ⟨N, 0, none⟩) 1 1) (by kernel_rfl) hrun hS2 ?_)
    replace hS := hS2
    refine tD 1 [.v 14 102 (pt B 0), .v 15 103 (pt B 150)] trivial hS ?_
    have hg3 := grownBy_row W2 B (stc ({ s with va := (takeB s.va t.iv.ro t.iv.re (amV t)).1 }) v').toArray
    have hS3 := hS.kept hg3 (fun e => by have := Option.some.inj e; omega)
    refine oD 16 0 (stepH_store (ty := 32) (p := .pointer (some ⟨B, 150, none⟩)) (v := v') (by kernel_rfl) (sto_lk hB2 hO2.one.1 hO2.one.2) hS3 ?_)
    replace hS := hS3
    refine eD ?_
    clear hS
    have fin : EndL w B b0 (prepP s t) (.returned (.tuple #[])) (W2.setRow B (stc ({ s with va := (takeB s.va t.iv.ro t.iv.re (amV t)).1 }) v').toArray) := ⟨hT2.trans (Turn.of hg3 (Nat.le_trans hb0 hT2.2.2.2.1)), .inl ⟨by unfold prepP; rw [if_neg h1.out, if_neg h2.out, if_pos hs0.out, if_neg h3.out, if_neg h4.out], rfl, v', by unfold prepP; rw [if_neg h1.out, if_neg h2.out, if_pos hs0.out, if_neg h3.out, if_neg h4.out]; exact hB2.row _, by unfold prepP; rw [if_neg h1.out, if_neg h2.out, if_pos hs0.out, if_neg h3.out, if_neg h4.out]; exact hO2.grown hBb hg3⟩⟩
    clear hs0 h1 h2 h3 h4
    go_wp2_with fail
    go_end0
    exact fin
   ·
    refine rD (some 100) (.slice (some ⟨Y11.heap.size, 0, none⟩) 1 1) (Y11.alloc (.cells (lkc ⟨keyB t.iv, digB t.iv t.vr, 1⟩).toArray 63)) (hS.alloc _) ?_
    replace hS := hS.alloc (.cells (lkc ⟨keyB t.iv, digB t.iv t.vr, 1⟩).toArray 63)
    replace hM := hM.alloc 63 (lkc ⟨keyB t.iv, digB t.iv t.vr, 1⟩)
    generalize World.alloc _ _ = Y13 at *
    generalize hNe : Y11.heap.size = N at *
    clear hNe
    refine oD 4 4 (lD (some 92) 32 (pt B 150) (v) (ld_lk (s := { s with va := (takeB s.va t.iv.ro t.iv.re (amV t)).1 }) hM.a2) (hS) ?_)
    have hO := HO.out.grown hBb hM.g
    obtain ⟨v', W2, hrun, hO2, hg2⟩ := own_append hO (Nat.le_trans hb0 hM.size) ⟨keyB t.iv, digB t.iv t.vr, 1⟩ hM.a0 hr 32
    have hlo : ∀ k, v.ownBlock = some k → b0 ≤ k ∧ k < w.heap.size := fun k hk => HO.out.lt k hk
    have hS2 : Blk W2 w.heap.size 50 (txc t) := hS.kept hg2 (fun e => by have := (hlo _ e.symm).2; omega)
    have hB2 := hM.a2.kept hg2 (fun e => by have := (hlo _ e.symm).1; omega)
    have hT2 := (Turn.of hM.g hb0).trans (Turn.own hg2 (Nat.le_trans hb0 hM.size) (fun k hk => (hlo k hk).1))
    refine oD 13 3 (stepH_append (d := some 101) (t := 32) (t' := 32) (ty := 32) (v := v) (x := .slice (some ⟨N, 0, none⟩) 1 1) (by kernel_rfl) hrun hS2 ?_)
    replace hS := hS2
    refine tD 1 [.v 14 102 (pt B 0), .v 15 103 (pt B 150)] trivial hS ?_
    have hg3 := grownBy_row W2 B (stc ({ s with va := (takeB s.va t.iv.ro t.iv.re (amV t)).1 }) v').toArray
    have hS3 := hS.kept hg3 (fun e => by have := Option.some.inj e; omega)
    refine oD 16 0 (stepH_store (ty := 32) (p := .pointer (some ⟨B, 150, none⟩)) (v := v') (by kernel_rfl) (sto_lk hB2 hO2.one.1 hO2.one.2) hS3 ?_)
    replace hS := hS3
    refine eD ?_
    clear hS
    have fin : EndL w B b0 (prepP s t) (.returned (.tuple #[])) (W2.setRow B (stc ({ s with va := (takeB s.va t.iv.ro t.iv.re (amV t)).1 }) v').toArray) := ⟨hT2.trans (Turn.of hg3 (Nat.le_trans hb0 hT2.2.2.2.1)), .inl ⟨by unfold prepP; rw [if_neg h1.out, if_neg h2.out, if_pos hs0.out, if_neg h3.out, if_neg h4.out], rfl, v', by unfold prepP; rw [if_neg h1.out, if_neg h2.out, if_pos hs0.out, if_neg h3.out, if_neg h4.out]; exact hB2.row _, by unfold prepP; rw [if_neg h1.out, if_neg h2.out, if_pos hs0.out, if_neg h3.out, if_neg h4.out]; exact hO2.grown hBb hg3⟩⟩
    clear hs0 h1 h2 h3 h4
    go_wp2_with fail
    go_end0
    exact fin
 have hs0 : Hid (¬ (s.sd > 0)) := Lib.hid (by omega)
 clear hsd
 go_upto_region 4 with fail
 refine wp_region_fromM _ hM ?_
 clear hM
 rintro Y14 hM
 refine tF 1 [.v 0 33 (pt B 0)] trivial ?_
 refine cF (some 34) 100 #[pt B 0] ((receives_not hs0.out v _ hM.a1).mono ?_)
 rintro e W1 ⟨rfl, rfl⟩
 refine eF ?_
 go_upto_region 7 with fail
 refine wp_region_fromM _ hM ?_
 clear hM
 rintro Y15 hM
 refine tF 6 [.v 0 53 (pt w.heap.size 0), .l 1 54 3 (pt w.heap.size 0) (.int .i64 t.fr), .v 2 55 (pt w.heap.size 8), .v 3 56 (pt w.heap.size 8), .l 4 57 3 (pt w.heap.size 8) (.int .i64 t.iv.us), .v 5 58 (.bool (t.fr == t.iv.us))] ⟨ld_int hM.a0 0 rfl, ld_int hM.a0 8 rfl, trivial⟩ ?_
 refine cF (some 59) 59 #[.bool (t.fr == t.iv.us), .int .i64 37] ((demand_any _ _ _).mono ?_)
 rintro e W1 (⟨h, rfl, rfl⟩ | ⟨h, rfl, rfl⟩)
 case inr => exact And.intro rfl (EndL.pan hM.g hb0 (by decide) (by unfold prepP; rw [if_neg h1.out, if_neg h2.out, if_neg hs0.out, if_pos (ne_of_beq_false h)]) rfl (BlkN.of hM.a1))
 have h3 := Lib.hid (not_not_intro (eq_of_beq h))
 clear h
 refine eF ?_
 go_upto_region 8 with fail
 refine wp_region_M (fun W => Mem w (some B) [(w.heap.size, 50, txc t)] W) (fun W => Mem w (some B) [(w.heap.size, 50, txc t), (B, 34, stc s v)] W) hmx hM.drew ?_
 clear hM
 rintro Y16 hM
 have hS := hM.sub (.cons_cons _ (.cons _ .slnil))
 refine tD 8 [.v 0 60 (pt B 0), .v 1 61 (pt B 0), .v 2 62 (pt B 0), .v 3 63 (pt B 2), .v 5 65 (pt w.heap.size 8), .v 6 66 (pt w.heap.size 8), .l 7 67 3 (pt w.heap.size 8) (.int .i64 t.iv.us), .v 8 68 (pt w.heap.size 8), .v 9 69 (pt w.heap.size 11), .l 10 70 3 (pt w.heap.size 11) (.int .i64 t.iv.se), .v 11 71 (pt w.heap.size 15), .v 12 72 (pt w.heap.size 15), .l 13 73 27 (pt w.heap.size 15) (wn (amV t))] ⟨fun W h => ld_int h.a0 8 rfl, fun W h => ld_int h.a0 11 rfl, fun W h => ld_av h.a0 ht, trivial⟩ hS ?_
 refine oD 4 7 (lD (some 64) 30 (pt B 2) (bkv s.pu) (ld_pu (s := s) hM.a1) (hS) ?_)
 refine oD 14 6 (cD (some 74) _ _ ((HA.out _).mono ?_))
 rintro e W1 ⟨rfl, hb⟩
 refine And.intro (hS.below hb) ?_
 replace hS := hS.below hb
 replace hM := hM.below hb
 clear hb
 refine tD 4 [.v 15 75 (bkv ((takeB s.pu t.iv.us t.iv.se (amV t)).1)), .v 16 76 (.int .i64 ((takeB s.pu t.iv.us t.iv.se (amV t)).2))] trivial hS ?_
 refine oD 17 3 (cD (some 77) 62 #[bkv ((takeB s.pu t.iv.us t.iv.se (amV t)).1), .int .i64 ((takeB s.pu t.iv.us t.iv.se (amV t)).2)] ((must_two _ _ _).mono ?_))
 rintro e W2 (⟨hc, rfl, hb⟩ | ⟨hc, rfl, hb⟩)
 case inr =>
  replace hM := hM.below hb
  exact And.intro rfl (EndL.pan hM.g hb0 hc (by unfold prepP; rw [if_neg h1.out, if_neg h2.out, if_neg hs0.out, if_neg h3.out, if_pos hc]) rfl (BlkN.of hM.a1))
 refine And.intro (hS.below hb) ?_
 replace hS := hS.below hb
 replace hM := hM.below hb
 clear hb
 refine tD 1 [.v 18 78 (pt B 0), .v 19 79 (pt B 2)] trivial hS ?_
 have hM1 := hM.set 1 (cs' := stc ({ s with pu := (takeB s.pu t.iv.us t.iv.se (amV t)).1 }) v) rfl rfl
 refine oD 20 0 (sD _ _ (bkv ((takeB s.pu t.iv.us t.iv.se (amV t)).1)) (sto_pu hM.a1 _) (hM1.sub (.cons_cons _ (.cons _ .slnil))) ?_)
 replace hS := hM1.sub (.cons_cons _ (.cons _ .slnil))
 replace hM := hM1
 clear hM1
 generalize World.setRow _ _ _ = Y17 at *
 refine eD ?_
 clear hS
 have h4 := Lib.hid (not_not_intro hc)
 clear hc
 go_upto_region 9 with fail
 refine wp_region_fromM _ hM ?_
 clear hM
 rintro Y18 hM
 refine tF 7 [.v 0 80 (pt B 0), .v 1 81 (pt w.heap.size 8), .v 2 82 (pt w.heap.size 11), .l 3 83 3 (pt w.heap.size 11) (.int .i64 t.iv.se), .v 4 84 (pt w.heap.size 15), .v 5 85 (pt w.heap.size 15), .l 6 86 27 (pt w.heap.size 15) (wn (amV t))] ⟨ld_int hM.a0 11 rfl, ld_av hM.a0 ht, trivial⟩ ?_
 refine cF (some 87) 97 #[pt B 0, .int .i64 t.iv.se, wn (amV t)] ((growI_any ({ s with pu := (takeB s.pu t.iv.us t.iv.se (amV t)).1 }) _ hz HH.out hn _ hM.a1).mono ?_)
 rintro e W1 h
 rcases h.two with ⟨h0, rfl, hg, hN⟩ | ⟨h0, rfl, _⟩
 case inr => exact And.intro rfl (EndL.fail hM.g hb0 h h0 (by unfold prepP; rw [if_neg h1.out, if_neg h2.out, if_neg hs0.out, if_neg h3.out, if_neg h4.out, if_pos h0]))
 rw [growE_ok h0] at hN
 replace hM := hM.call 1 (cs' := stc (qep1 s t) v) rfl rfl hg hN
 have h5 := Lib.hid (not_not_intro h0)
 clear h h0 hg hN
 refine eF ?_
 go_upto_region 10 with fail
 refine wp_region_M (fun W => Blk W w.heap.size 50 (txc t)) (fun W => Mem w (some B) [(w.heap.size, 50, txc t), (B, 34, stc (qep1 s t) v)] W) hmx hM.drew ?_
 clear hM
 rintro Y19 hM
 have hS := hM.at 0 rfl
 refine tD 8 [.v 0 88 (pt B 0), .v 1 89 (pt B 0), .v 2 90 (pt B 0), .v 3 91 (pt B 150), .v 5 93 (.string (keyB t.iv)), .v 6 94 (pt w.heap.size 8), .l 7 95 46 (pt w.heap.size 8) (ivv t.iv), .v 8 96 (pt w.heap.size 15), .l 9 97 48 (pt w.heap.size 15) (svv t.vr)] ⟨fun W h => ld_iv h, fun W h => ld_vr h, trivial⟩ hS ?_
 refine oT 4 10 7 ?_ ?_
 ·
  refine lD (some 92) 32 (pt B 150) (v) (ld_lk (s := (qep1 s t)) hM.a1) (hS) ?_
  refine oD 10 6 (cD (some 98) 101 #[ivv t.iv, svv t.vr] ((digest_any _ _ ht.v _).mono ?_))
  rintro e Y20 ⟨rfl, hb⟩
  refine And.intro (hS.below hb hS.lt) ?_
  replace hS := hS.below hb hS.lt
  replace hM := hM.below hb
  clear hb
  refine tD 5 [.v 11 99 (lkv ⟨keyB t.iv, digB t.iv t.vr, 1⟩)] trivial hS ?_
  refine oD 12 4 (rD (some 100) (.slice (some ⟨Y20.heap.size, 0, none⟩) 1 1) (Y20.alloc (.cells (lkc ⟨keyB t.iv, digB t.iv t.vr, 1⟩).toArray 63)) (hS.alloc _) ?_)
  replace hS := hS.alloc (.cells (lkc ⟨keyB t.iv, digB t.iv t.vr, 1⟩).toArray 63)
  replace hM := hM.alloc 63 (lkc ⟨keyB t.iv, digB t.iv t.vr, 1⟩)
  generalize World.alloc _ _ = Y21 at *
  generalize hNe : Y20.heap.size = N at *
  clear hNe
  have hO := HO.out.grown hBb hM.g
  obtain ⟨v', W2, hrun, hO2, hg2⟩ := own_append hO (Nat.le_trans hb0 hM.size) ⟨keyB t.iv, digB t.iv t.vr, 1⟩ hM.a0 hr 32
  have hlo : ∀ k, v.ownBlock = some k → b0 ≤ k ∧ k < w.heap.size := fun k hk => HO.out.lt k hk
  have hS2 : Blk W2 w.heap.size 50 (txc t) := hS.kept hg2 (fun e => by have := (hlo _ e.symm).2; omega)
  have hB2 := hM.a2.kept hg2 (fun e => by have := (hlo _ e.symm).1; omega)
  have hT2 := (Turn.of hM.g hb0).trans (Turn.own hg2 (Nat.le_trans hb0 hM.size) (fun k hk => (hlo k hk).1))
  refine oD 13 3 (stepH_append (d := some 101) (t := 32) (t' := 32) (ty := 32) (v := v) (x := .slice (some ⟨N, 0, none⟩) 1 1) (by kernel_rfl) hrun hS2 ?_)
  replace hS := hS2
  refine tD 1 [.v 14 102 (pt B 0), .v 15 103 (pt B 150)] trivial hS ?_
  have hg3 := grownBy_row W2 B (stc (qep1 s t) v').toArray
  have hS3 := hS.kept hg3 (fun e => by have := Option.some.inj e; omega)
  refine oD 16 0 (stepH_store (ty := 32) (p := .pointer (some ⟨B, 150, none⟩)) (v := v') (by kernel_rfl) (sto_lk hB2 hO2.one.1 hO2.one.2) hS3 ?_)
  replace hS := hS3
  refine eD ?_
  clear hS
  have fin : EndL w B b0 (prepP s t) (.returned (.tuple #[])) (W2.setRow B (stc (qep1 s t) v').toArray) := ⟨hT2.trans (Turn.of hg3 (Nat.le_trans hb0 hT2.2.2.2.1)), .inl ⟨by unfold prepP; rw [if_neg h1.out, if_neg h2.out, if_neg hs0.out, if_neg h3.out, if_neg h4.out, if_neg h5.out], rfl, v', by unfold prepP; rw [if_neg h1.out, if_neg h2.out, if_neg hs0.out, if_neg h3.out, if_neg h4.out, if_neg h5.out]; exact hB2.row _, by unfold prepP; rw [if_neg h1.out, if_neg h2.out, if_neg hs0.out, if_neg h3.out, if_neg h4.out, if_neg h5.out]; exact hO2.grown hBb hg3⟩⟩
  clear hs0 h1 h2 h3 h4
  go_wp2_with fail
  go_end0
  exact fin
 ·
  refine cD (some 98) 101 #[ivv t.iv, svv t.vr] ((digest_any _ _ ht.v _).mono ?_)
  rintro e Y22 ⟨rfl, hb⟩
  refine And.intro (hS.below hb hS.lt) ?_
  replace hS := hS.below hb hS.lt
  replace hM := hM.below hb
  clear hb
  refine tD 6 [.v 11 99 (lkv ⟨keyB t.iv, digB t.iv t.vr, 1⟩)] trivial hS ?_
  refine oT 4 12 5 ?_ ?_
  ·
   refine lD (some 92) 32 (pt B 150) (v) (ld_lk (s := (qep1 s t)) hM.a1) (hS) ?_
   refine oD 12 4 (rD (some 100) (.slice (some ⟨Y22.heap.size, 0, none⟩) 1 1) (Y22.alloc (.cells (lkc ⟨keyB t.iv, digB t.iv t.vr, 1⟩).toArray 63)) (hS.alloc _) ?_)
   replace hS := hS.alloc (.cells (lkc ⟨keyB t.iv, digB t.iv t.vr, 1⟩).toArray 63)
   replace hM := hM.alloc 63 (lkc ⟨keyB t.iv, digB t.iv t.vr, 1⟩)
   generalize World.alloc _ _ = Y23 at *
   generalize hNe : Y22.heap.size = N at *
   clear hNe
   have hO := HO.out.grown hBb hM.g
   obtain ⟨v', W2, hrun, hO2, hg2⟩ := own_append hO (Nat.le_trans hb0 hM.size) ⟨keyB t.iv, digB t.iv t.vr, 1⟩ hM.a0 hr 32
   have hlo : ∀ k, v.ownBlock = some k → b0 ≤ k ∧ k < w.heap.size := fun k hk => HO.out.lt k hk
   have hS2 : Blk W2 w.heap.size 50 (txc t) := hS.kept hg2 (fun e => by have := (hlo _ e.symm).2; omega)
   have hB2 := hM.a2.kept hg2 (fun e => by have := (hlo _ e.symm).1; omega)
   have hT2 := (Turn.of hM.g hb0).trans (Turn.own hg2 (Nat.le_trans hb0 hM.size) (fun k hk => (hlo k hk).1))
   refine oD 13 3 (stepH_append (d := some 101) (t := 32) (t' := 32) (ty := 32) (v := v) (x := .slice (some ⟨N, 0, none⟩) 1 1) (by kernel_rfl) hrun hS2 ?_)
   replace hS := hS2
   refine tD 1 [.v 14 102 (pt B 0), .v 15 103 (pt B 150)] trivial hS ?_
   have hg3 := grownBy_row W2 B (stc (qep1 s t) v').toArray
   have hS3 := hS.kept hg3 (fun e => by have := Option.some.inj e; omega)
   refine oD 16 0 (stepH_store (ty := 32) (p := .pointer (some ⟨B, 150, none⟩)) (v := v') (by kernel_rfl) (sto_lk hB2 hO2.one.1 hO2.one.2) hS3 ?_)
   replace hS := hS3
   refine eD ?_
   clear hS
   have fin : EndL w B b0 (prepP s t) (.returned (.tuple #[])) (W2.setRow B (stc (qep1 s t) v').toArray) := ⟨hT2.trans (Turn.of hg3 (Nat.le_trans hb0 hT2.2.2.2.1)), .inl ⟨by unfold prepP; rw [if_neg h1.out, if_neg h2.out, if_neg hs0.out, if_neg h3.out, if_neg h4.out, if_neg h5.out], rfl, v', by unfold prepP; rw [if_neg h1.out, if_neg h2.out, if_neg hs0.out, if_neg h3.out, if_neg h4.out, if_neg h5.out]; exact hB2.row _, by unfold prepP; rw [if_neg h1.out, if_neg h2.out, if_neg hs0.out, if_neg h3.out, if_neg h4.out, if_neg h5.out]; exact hO2.grown hBb hg3⟩⟩
   clear hs0 h1 h2 h3 h4
   go_wp2_with fail
   go_end0
   exact fin
  ·
   refine rD (some 100) (.slice (some ⟨Y22.heap.size, 0, none⟩) 1 1) (Y22.alloc (.cells (lkc ⟨keyB t.iv, digB t.iv t.vr, 1⟩).toArray 63)) (hS.alloc _) ?_
   replace hS := hS.alloc (.cells (lkc ⟨keyB t.iv, digB t.iv t.vr, 1⟩).toArray 63)
   replace hM := hM.alloc 63 (lkc ⟨keyB t.iv, digB t.iv t.vr, 1⟩)
   generalize World.alloc _ _ = Y24 at *
   generalize hNe : Y22.heap.size = N at *
   clear hNe
   refine oD 4 4 (lD (some 92) 32 (pt B 150) (v) (ld_lk (s := (qep1 s t)) hM.a2) (hS) ?_)
   have hO := HO.out.grown hBb hM.g
   obtain ⟨v', W2, hrun, hO2, hg2⟩ := own_append hO (Nat.le_trans hb0 hM.size) ⟨keyB t.iv, digB t.iv t.vr, 1⟩ hM.a0 hr 32
   have hlo : ∀ k, v.ownBlock = some k → b0 ≤ k ∧ k < w.heap.size := fun k hk => HO.out.lt k hk
   have hS2 : Blk W2 w.heap.size 50 (txc t) := hS.kept hg2 (fun e => by have := (hlo _ e.symm).2; omega)
   have hB2 := hM.a2.kept hg2 (fun e => by have := (hlo _ e.symm).1; omega)
   have hT2 := (Turn.of hM.g hb0).trans (Turn.own hg2 (Nat.le_trans hb0 hM.size) (fun k hk => (hlo k hk).1))
   refine oD 13 3 (stepH_append (d := some 101) (t := 32) (t' := 32) (ty := 32) (v := v) (x := .slice (some ⟨N, 0, none⟩) 1 1) (by kernel_rfl) hrun hS2 ?_)
   replace hS := hS2
   refine tD 1 [.v 14 102 (pt B 0), .v 15 103 (pt B 150)] trivial hS ?_
   have hg3 := grownBy_row W2 B (stc (qep1 s t) v').toArray
   have hS3 := hS.kept hg3 (fun e => by have := Option.some.inj e; omega)
   refine oD 16 0 (stepH_store (ty := 32) (p := .pointer (some ⟨B, 150, none⟩)) (v := v') (by kernel_rfl) (sto_lk hB2 hO2.one.1 hO2.one.2) hS3 ?_)
   replace hS := hS3
   refine eD ?_
   clear hS
   have fin : EndL w B b0 (prepP s t) (.returned (.tuple #[])) (W2.setRow B (stc (qep1 s t) v').toArray) := ⟨hT2.trans (Turn.of hg3 (Nat.le_trans hb0 hT2.2.2.2.1)), .inl ⟨by unfold prepP; rw [if_neg h1.out, if_neg h2.out, if_neg hs0.out, if_neg h3.out, if_neg h4.out, if_neg h5.out], rfl, v', by unfold prepP; rw [if_neg h1.out, if_neg h2.out, if_neg hs0.out, if_neg h3.out, if_neg h4.out, if_neg h5.out]; exact hB2.row _, by unfold prepP; rw [if_neg h1.out, if_neg h2.out, if_neg hs0.out, if_neg h3.out, if_neg h4.out, if_neg h5.out]; exact hO2.grown hBb hg3⟩⟩
   clear hs0 h1 h2 h3 h4
   go_wp2_with fail
   go_end0
   exact fin
end Go.Proofs.YthhmdgmmeedhdaaGreat
namespace Go.Proofs.YthhmdgmmeedhdaaGreat
open Go.RowKit Go.Shelf
abbrev gul1 (s : Es) (t : Tr) := giveB (giveB s.pu t.iv.to t.iv.re (amV t - feT t)).1 t.fr t.iv.re (feT t)
abbrev gul2 (s : Es) (t : Tr) := giveB s.pu t.iv.to t.iv.re (amV t - feT t)
abbrev gul3 (s : Es) (t : Tr) := giveB s.va t.iv.ro t.iv.re (amV t)
abbrev gul4 (s : Es) (t : Tr) := giveB s.pu t.iv.us t.iv.se (amV t)
theorem open_some {s : Es} {t : Tr} (h : (openE orcB s t).2 = 0) : ∃ x : Lk, s.lk[(openE orcB s t).1]? = some x ∧ x.st = 1 := open_at h
def fulP (s : Es) (t : Tr) : Es × Int :=
 if (openE orcB s t).2 ≠ 0 then (s, (openE orcB s t).2) else if ¬ s.tm < t.vr.x then (s, 34) else if ¬ feT t ≤ amV t then (s, 36) else if ¬ signB t 1 = true then (s, 35)
 else if s.sd > 0 then
  (if (gul2 s t).2 ≠ 0 then (s, (gul2 s t).2) else if (gul1 s t).2 ≠ 0 then (s, (gul1 s t).2) else if (shrinkE { s with pu := (gul1 s t).1 } t.iv.re.toNat (amV t)).2 ≠ 0 then (s, (shrinkE { s with pu := (gul1 s t).1 } t.iv.re.toNat (amV t)).2)
   else ({ s with pu := (gul1 s t).1, he := updB s.he t.iv.re.toNat (s.he t.iv.re.toNat - amV t), lk := endE s.lk (openE orcB s t).1 2 }, 0))
 else (if (giveB s.va t.iv.ro t.iv.se (amV t)).2 ≠ 0 then (s, (giveB s.va t.iv.ro t.iv.se (amV t)).2) else ({ s with va := (giveB s.va t.iv.ro t.iv.se (amV t)).1, lk := endE s.lk (openE orcB s t).1 2 }, 0))
def canP (s : Es) (t : Tr) : Es × Int :=
 if (openE orcB s t).2 ≠ 0 then (s, (openE orcB s t).2)
 else if s.sd > 0 then
  (if s.tm < t.vr.x ∧ ¬ signB t 2 = true then (s, 35) else if (gul3 s t).2 ≠ 0 then (s, (gul3 s t).2) else ({ s with va := (gul3 s t).1, lk := endE s.lk (openE orcB s t).1 3 }, 0))
 else
  (if s.tm < t.vr.x ∧ ¬ t.fr = t.iv.ro then (s, 37) else if (gul4 s t).2 ≠ 0 then (s, (gul4 s t).2) else if (shrinkE { s with pu := (gul4 s t).1 } t.iv.se.toNat (amV t)).2 ≠ 0 then (s, (shrinkE { s with pu := (gul4 s t).1 } t.iv.se.toNat (amV t)).2)
   else ({ s with pu := (gul4 s t).1, he := updB s.he t.iv.se.toNat (s.he t.iv.se.toNat - amV t), lk := endE s.lk (openE orcB s t).1 3 }, 0))
theorem end_fin {w Y W' : World} {B b0 : Nat} {s s' : Es} {v : Value} {l : List MB} {g : Nat} {p : Es × Int} (hBb : B < b0) (hb0 : b0 ≤ w.heap.size) (hM : Mem w (some B) l Y) (hB : Blk Y B 34 (stc s v)) (hg : b0 ≤ g) (hgr : Y.grownBy W' (some g)) (hp : p = (s', 0)) (hss : ∀ u, stc s' u = stc s u) (ho : OwnL b0 W' v s'.lk) :
  EndL w B b0 p (.returned (.tuple #[])) W' := by
 subst hp
 exact ⟨(Turn.of hM.g hb0).trans (Turn.own hgr (Nat.le_trans hb0 hM.size) (fun k hk => by cases hk; exact hg)), .inl ⟨rfl, rfl, v, by rw [hss]; exact hB.kept hgr (fun e => by have := Option.some.inj e; omega), ho⟩⟩
set_option maxRecDepth 100000 in
set_option maxHeartbeats 4000000 in
theorem fulfil_any (s : Es) (v : Value) (hs : OkE s) (t : Tr) (ht : OkT t) (hz : (0 ≤ t.iv.se ∧ t.iv.se ≤ 1) ∧ 0 ≤ t.iv.re ∧ t.iv.re ≤ 1) {B b0 : Nat} (w : World) (hBb : B < b0) (hb0 : b0 ≤ w.heap.size) (hB : Blk w B 34 (stc s v)) (ho : OwnL b0 w v s.lk) :
  Calls Tryz.prog 67 #[.pointer (some ⟨B, 0, none⟩), txv t] w (EndL w B b0 (fulP s t)) := by
 have hmx : Tryz.prog.follows .mixedOrders = true := by kernel_rfl
 have hM := (Mem.startB hB).allocN rfl 50 (txc t)
 have hn : amV t < M4 := val_lt ht.v
 have hf : feT t < M4 := val_lt ht.f
 have hd : (amV t - feT t) < M4 := Nat.lt_of_le_of_lt (Nat.sub_le _ _) hn
 have HA := Lib.hid (fun W => bookGive_any s.pu hs.p t.iv.to t.iv.re (amV t - feT t) hd W)
 have HB := Lib.hid (fun W => bookGive_any (gul2 s t).1 (okK_give hs.p _ _ _) t.fr t.iv.re (feT t) hf W)
 have HC := Lib.hid (fun W => bookGive_any s.va hs.v t.iv.ro t.iv.se (amV t) hn W)
 have HD := Lib.hid (fun W => subN_any hn hf W)
 have HS := Lib.hid (okE_he hs hz.1.1 hz.1.2)
 have HR := Lib.hid (okE_he hs hz.2.1 hz.2.2)
 have HO := Lib.hid ho
 clear hB ho
 go_enter Tryz.func67, Tryz.ntmps67
 go_upto_region 1 with fail
 refine wp_region_fromM _ hM ?_
 clear hM
 rintro Y1 hM
 refine tF 2 [.v 0 7 (pt B 0), .l 1 8 50 (pt w.heap.size 0) (txv t)] ⟨ld_tx hM.a0, trivial⟩ ?_
 refine cF (some 9) 102 #[pt B 0, txv t] ((esc_open_any s v t ht _ hM.a1 (HO.out.grown hBb hM.g).rsl).mono ?_)
 rintro e W1 h
 rcases h.two with ⟨h0, rfl, hb⟩ | ⟨h0, rfl, hb⟩
 case inr =>
  replace hM := hM.below hb
  exact And.intro rfl (EndL.pan hM.g hb0 h0 (by unfold fulP; rw [if_pos h0]) rfl (BlkN.of hM.a1))
 replace hM := hM.below hb
 obtain ⟨x, hx, _⟩ := open_some h0
 have h1 := Lib.hid (not_not_intro h0)
 have HX := Lib.hid hx
 clear h h0 hb hx
 refine tF 4 [.v 3 4 (.int .i64 ((openE orcB s t).1 : Int))] trivial ?_
 refine eF ?_
 go_upto_region 2 with fail
 refine wp_region_M (fun W => Mem w (some B) [(w.heap.size, 50, txc t), (B, 34, stc s v)] W) (fun W => Mem w (some B) [(w.heap.size, 50, txc t), (B, 34, stc s v)] W) hmx hM.drew ?_
 clear hM
 rintro Y2 hM
 have hS := hM.sub (.cons_cons _ (.cons_cons _ .slnil))
 refine tD 1 [.v 0 10 (pt B 0), .v 1 11 (pt B 0), .v 2 12 (pt B 1), .l 3 13 3 (pt B 1) (.int .i64 s.tm), .v 4 14 (pt w.heap.size 15), .v 5 15 (pt w.heap.size 19), .l 6 16 3 (pt w.heap.size 19) (.int .i64 t.vr.x), .v 7 17 (.bool (decide (s.tm < t.vr.x)))] ⟨fun W h => ld_int h.a1 1 rfl, fun W h => ld_int h.a0 19 rfl, trivial⟩ hS ?_
 refine oD 8 0 (cD (some 18) 59 #[.bool (decide (s.tm < t.vr.x)), .int .i64 34] ((demand_any _ _ _).mono ?_))
 rintro e W1 (⟨h, rfl, rfl⟩ | ⟨h, rfl, rfl⟩)
 case inr => exact And.intro rfl (EndL.pan hM.g hb0 (by decide) (by unfold fulP; rw [if_neg h1.out, if_pos (of_decide_eq_false h)]) rfl (BlkN.of hM.a1))
 refine And.intro hS ?_
 have h2 := Lib.hid (not_not_intro (of_decide_eq_true h))
 clear h
 refine eD ?_
 clear hS
 go_upto_region 3 with fail
 refine wp_region_fromM _ hM ?_
 clear hM
 rintro Y3 hM
 refine tF 5 [.v 0 20 (pt w.heap.size 15), .v 1 21 (pt w.heap.size 15), .l 2 22 27 (pt w.heap.size 15) (wn (amV t)), .v 3 23 (pt w.heap.size 20), .l 4 24 27 (pt w.heap.size 20) (wn (feT t))] ⟨ld_av hM.a0 ht, ld_fe hM.a0 ht, trivial⟩ ?_
 refine cF (some 25) _ _ ((HD.out _).mono ?_)
 rintro e W1 ⟨rfl, hb⟩
 replace hM := hM.below hb
 clear hb
 refine tF 9 [.v 6 19 (.tuple #[wn (amV t - feT t), .bool (lessB (amV t) (feT t))]), .v 7 26 (wn (amV t - feT t)), .v 8 27 (.bool (lessB (amV t) (feT t)))] trivial ?_
 refine rF (some 5) (pt W1.heap.size 0) (W1.alloc (.cells (ws (nw 0)).toArray 27)) ?_
 replace hM := hM.alloc 27 (ws (nw 0))
 generalize World.alloc _ _ = Z1 at *
 generalize hNe : W1.heap.size = N at *
 clear hNe
 refine sF _ _ (wn (amV t - feT t)) (sto_wn hM.a0 _) ?_
 replace hM := hM.set 0 (cs' := ws (nw (amV t - feT t))) rfl rfl
 generalize World.setRow _ _ _ = Y4 at *
 refine tF 12 [.v 11 6 (.bool (lessB (amV t) (feT t)))] trivial ?_
 refine eF ?_
 go_upto_region 4 with fail
 refine wp_region_fromM _ hM ?_
 clear hM
 rintro Y5 hM
 refine tF 1 [.v 0 28 (.bool (lessB (amV t) (feT t)))] trivial ?_
 refine cF (some 29) 59 #[.bool (lessB (amV t) (feT t)), .int .i64 36] ((demand_any _ _ _).mono ?_)
 rintro e W1 (⟨h, rfl, rfl⟩ | ⟨h, rfl, rfl⟩)
 case inr => exact And.intro rfl (EndL.pan hM.g hb0 (by decide) (by unfold fulP; rw [if_neg h1.out, if_neg h2.out, if_pos (of_decide_eq_false h)]) rfl (BlkN.of hM.a2))
 have h3 := Lib.hid (not_not_intro (of_decide_eq_true h))
 clear h
 refine eF ?_
 go_upto_region 5 with fail
 refine wp_region_fromM _ hM ?_
 clear hM
 rintro Y6 hM
 refine tF 1 [.l 0 30 50 (pt w.heap.size 0) (txv t)] ⟨ld_tx hM.a1, trivial⟩ ?_
 refine cF (some 31) _ _ ((signed_any t ht 1 _).mono ?_)
 rintro e W1 ⟨rfl, hb⟩
 replace hM := hM.below hb
 clear hb
 refine cF (some 32) 59 #[.bool (signB t 1), .int .i64 35] ((demand_any _ _ _).mono ?_)
 rintro e W1 (⟨h, rfl, rfl⟩ | ⟨h, rfl, rfl⟩)
 case inr => exact And.intro rfl (EndL.pan hM.g hb0 (by decide) (by unfold fulP; rw [if_neg h1.out, if_neg h2.out, if_neg h3.out, if_pos (by rw [h]; decide)]) rfl (BlkN.of hM.a2))
 have h4 := Lib.hid (not_not_intro h)
 clear h
 refine eF ?_
 by_cases hsd : s.sd > 0
 case pos =>
  have hs0 : Hid (s.sd > 0) := Lib.hid (by omega)
  clear hsd
  go_upto_region 6 with fail
  refine wp_region_fromM _ hM ?_
  clear hM
  rintro Y7 hM
  refine tF 1 [.v 0 33 (pt B 0)] trivial ?_
  refine cF (some 34) 100 #[pt B 0] ((receives_yes hs0.out v _ hM.a2).mono ?_)
  rintro e W1 ⟨rfl, rfl⟩
  refine eF ?_
  go_upto_region 7 with fail
  refine wp_region_M (fun W => Mem w (some B) [(N, 27, ws (nw (amV t - feT t))), (w.heap.size, 50, txc t)] W) (fun W => Mem w (some B) [(N, 27, ws (nw (amV t - feT t))), (w.heap.size, 50, txc t), (B, 34, stc s v)] W) hmx hM.drew ?_
  clear hM
  rintro Y8 hM
  have hS := hM.sub (.cons_cons _ (.cons_cons _ (.cons _ .slnil)))
  refine tD 8 [.v 0 35 (pt B 0), .v 1 36 (pt B 0), .v 2 37 (pt B 0), .v 3 38 (pt B 2), .v 5 40 (pt w.heap.size 8), .v 6 41 (pt w.heap.size 13), .l 7 42 3 (pt w.heap.size 13) (.int .i64 t.iv.to), .v 8 43 (pt w.heap.size 8), .v 9 44 (pt w.heap.size 12), .l 10 45 3 (pt w.heap.size 12) (.int .i64 t.iv.re), .l 11 46 27 (pt N 0) (wn ((amV t - feT t)))] ⟨fun W h => ld_int h.a1 13 rfl, fun W h => ld_int h.a1 12 rfl, fun W h => load_wn h.a0, trivial⟩ hS ?_
  refine oD 4 7 (lD (some 39) 30 (pt B 2) (bkv s.pu) (ld_pu (s := s) hM.a2) (hS) ?_)
  refine oD 12 6 (cD (some 47) _ _ ((HA.out _).mono ?_))
  rintro e W1 ⟨rfl, hb⟩
  refine And.intro (hS.below hb) ?_
  replace hS := hS.below hb
  replace hM := hM.below hb
  clear hb
  refine tD 4 [.v 13 48 (bkv ((gul2 s t).1)), .v 14 49 (.int .i64 ((gul2 s t).2))] trivial hS ?_
  refine oD 15 3 (cD (some 50) 62 #[bkv ((gul2 s t).1), .int .i64 ((gul2 s t).2)] ((must_two _ _ _).mono ?_))
  rintro e W2 (⟨hc, rfl, hb⟩ | ⟨hc, rfl, hb⟩)
  case inr =>
   replace hM := hM.below hb
   exact And.intro rfl (EndL.pan hM.g hb0 hc (by unfold fulP; rw [if_neg h1.out, if_neg h2.out, if_neg h3.out, if_neg h4.out, if_pos hs0.out, if_pos hc]) rfl (BlkN.of hM.a2))
  refine And.intro (hS.below hb) ?_
  replace hS := hS.below hb
  replace hM := hM.below hb
  clear hb
  refine tD 1 [.v 16 51 (pt B 0), .v 17 52 (pt B 2)] trivial hS ?_
  have hM1 := hM.set 2 (cs' := stc ({ s with pu := (gul2 s t).1 }) v) rfl rfl
  refine oD 18 0 (sD _ _ (bkv ((gul2 s t).1)) (sto_pu hM.a2 _) (hM1.sub (.cons_cons _ (.cons_cons _ (.cons _ .slnil)))) ?_)
  replace hS := hM1.sub (.cons_cons _ (.cons_cons _ (.cons _ .slnil)))
  replace hM := hM1
  clear hM1
  generalize World.setRow _ _ _ = Y9 at *
  refine eD ?_
  clear hS
  have h5 := Lib.hid (not_not_intro hc)
  clear hc
  go_upto_region 8 with fail
  refine wp_region_M (fun W => Mem w (some B) [(N, 27, ws (nw (amV t - feT t))), (w.heap.size, 50, txc t)] W) (fun W => Mem w (some B) [(N, 27, ws (nw (amV t - feT t))), (w.heap.size, 50, txc t), (B, 34, stc ({ s with pu := (gul2 s t).1 }) v)] W) hmx hM.drew ?_
  clear hM
  rintro Y10 hM
  have hS := hM.sub (.cons_cons _ (.cons_cons _ (.cons _ .slnil)))
  refine tD 8 [.v 0 53 (pt B 0), .v 1 54 (pt B 0), .v 2 55 (pt B 0), .v 3 56 (pt B 2), .v 5 58 (pt w.heap.size 0), .l 6 59 3 (pt w.heap.size 0) (.int .i64 t.fr), .v 7 60 (pt w.heap.size 8), .v 8 61 (pt w.heap.size 12), .l 9 62 3 (pt w.heap.size 12) (.int .i64 t.iv.re), .v 10 63 (pt w.heap.size 20), .l 11 64 27 (pt w.heap.size 20) (wn (feT t))] ⟨fun W h => ld_int h.a1 0 rfl, fun W h => ld_int h.a1 12 rfl, fun W h => ld_fe h.a1 ht, trivial⟩ hS ?_
  refine oD 4 7 (lD (some 57) 30 (pt B 2) (bkv ((gul2 s t).1)) (ld_pu (s := { s with pu := (gul2 s t).1 }) hM.a2) (hS) ?_)
  refine oD 12 6 (cD (some 65) _ _ ((HB.out _).mono ?_))
  rintro e W1 ⟨rfl, hb⟩
  refine And.intro (hS.below hb) ?_
  replace hS := hS.below hb
  replace hM := hM.below hb
  clear hb
  refine tD 4 [.v 13 66 (bkv ((gul1 s t).1)), .v 14 67 (.int .i64 ((gul1 s t).2))] trivial hS ?_
  refine oD 15 3 (cD (some 68) 62 #[bkv ((gul1 s t).1), .int .i64 ((gul1 s t).2)] ((must_two _ _ _).mono ?_))
  rintro e W2 (⟨hc, rfl, hb⟩ | ⟨hc, rfl, hb⟩)
  case inr =>
   replace hM := hM.below hb
   exact And.intro rfl (EndL.pan hM.g hb0 hc (by unfold fulP; rw [if_neg h1.out, if_neg h2.out, if_neg h3.out, if_neg h4.out, if_pos hs0.out, if_neg h5.out, if_pos hc]) rfl (BlkN.of hM.a2))
  refine And.intro (hS.below hb) ?_
  replace hS := hS.below hb
  replace hM := hM.below hb
  clear hb
  refine tD 1 [.v 16 69 (pt B 0), .v 17 70 (pt B 2)] trivial hS ?_
  have hM1 := hM.set 2 (cs' := stc ({ s with pu := (gul1 s t).1 }) v) rfl rfl
  refine oD 18 0 (sD _ _ (bkv ((gul1 s t).1)) (sto_pu hM.a2 _) (hM1.sub (.cons_cons _ (.cons_cons _ (.cons _ .slnil)))) ?_)
  replace hS := hM1.sub (.cons_cons _ (.cons_cons _ (.cons _ .slnil)))
  replace hM := hM1
  clear hM1
  generalize World.setRow _ _ _ = Y11 at *
  refine eD ?_
  clear hS
  have h6 := Lib.hid (not_not_intro hc)
  clear hc
  go_upto_region 9 with fail
  refine wp_region_fromM _ hM ?_
  clear hM
  rintro Y12 hM
  refine tF 7 [.v 0 71 (pt B 0), .v 1 72 (pt w.heap.size 8), .v 2 73 (pt w.heap.size 12), .l 3 74 3 (pt w.heap.size 12) (.int .i64 t.iv.re), .v 4 75 (pt w.heap.size 15), .v 5 76 (pt w.heap.size 15), .l 6 77 27 (pt w.heap.size 15) (wn (amV t))] ⟨ld_int hM.a1 12 rfl, ld_av hM.a1 ht, trivial⟩ ?_
  refine cF (some 78) 99 #[pt B 0, .int .i64 t.iv.re, wn (amV t)] ((shrinkI_any ({ s with pu := (gul1 s t).1 }) _ hz.2 HR.out hn _ hM.a2).mono ?_)
  rintro e W1 h
  rcases h.two with ⟨h0, rfl, hg, hN⟩ | ⟨h0, rfl, _⟩
  case inr => exact And.intro rfl (EndL.fail hM.g hb0 h h0 (by unfold fulP; rw [if_neg h1.out, if_neg h2.out, if_neg h3.out, if_neg h4.out, if_pos hs0.out, if_neg h5.out, if_neg h6.out, if_pos h0]))
  rw [shrinkE_ok h0] at hN
  replace hM := hM.call 2 (cs' := stc { s with pu := (gul1 s t).1, he := updB s.he t.iv.re.toNat (s.he t.iv.re.toNat - amV t) } v) rfl rfl hg hN
  have h7 := Lib.hid (not_not_intro h0)
  clear h h0 hg hN
  refine eF ?_
  go_upto_region 11 with fail
  refine wp_region_fromM _ hM ?_
  clear hM
  rintro Y13 hM
  have hO := HO.out.grown hBb hM.g
  obtain ⟨g, o, W2, hi, hst, hg, hgr, hO2⟩ := own_end hO HX.out 2
  have HI := Lib.hid hi
  clear hi
  refine tF 7 [.v 0 99 (pt B 0), .v 1 100 (pt B 0), .v 2 101 (pt B 150), .l 3 102 32 (pt B 150) (v), .v 4 103 (.int .i64 ((openE orcB s t).1 : Int)), .x 5 104 32 (v) (.int .i64 ((openE orcB s t).1 : Int)) (pt g o), .v 6 105 (pt g (o + 2))] ⟨ld_lk (s := { s with pu := (gul1 s t).1, he := updB s.he t.iv.re.toNat (s.he t.iv.re.toNat - amV t) }) hM.a2, HI.out _, trivial⟩ ?_
  refine sF _ _ _ (hst) ?_
  refine eF ?_
  have fin : EndL w B b0 (fulP s t) (.returned (.tuple #[])) W2 := end_fin (s' := { s with pu := (gul1 s t).1, he := updB s.he t.iv.re.toNat (s.he t.iv.re.toNat - amV t), lk := endE s.lk (openE orcB s t).1 2 }) hBb hb0 hM hM.a2 hg hgr (by unfold fulP; rw [if_neg h1.out, if_neg h2.out, if_neg h3.out, if_neg h4.out, if_pos hs0.out, if_neg h5.out, if_neg h6.out, if_neg h7.out]) (fun u => rfl) hO2
  clear hs0 h1
  go_wp2_with fail
  go_end0
  exact fin
 have hs0 : Hid (¬ s.sd > 0) := Lib.hid hsd
 clear hsd
 go_upto_region 6 with fail
 refine wp_region_fromM _ hM ?_
 clear hM
 rintro Y14 hM
 refine tF 1 [.v 0 33 (pt B 0)] trivial ?_
 refine cF (some 34) 100 #[pt B 0] ((receives_not hs0.out v _ hM.a2).mono ?_)
 rintro e W1 ⟨rfl, rfl⟩
 refine eF ?_
 go_upto_region 10 with fail
 refine wp_region_M (fun W => Mem w (some B) [(N, 27, ws (nw (amV t - feT t))), (w.heap.size, 50, txc t)] W) (fun W => Mem w (some B) [(N, 27, ws (nw (amV t - feT t))), (w.heap.size, 50, txc t), (B, 34, stc s v)] W) hmx hM.drew ?_
 clear hM
 rintro Y15 hM
 have hS := hM.sub (.cons_cons _ (.cons_cons _ (.cons _ .slnil)))
 refine tD 8 [.v 0 79 (pt B 0), .v 1 80 (pt B 0), .v 2 81 (pt B 0), .v 3 82 (pt B 66), .v 5 84 (pt w.heap.size 8), .v 6 85 (pt w.heap.size 10), .l 7 86 3 (pt w.heap.size 10) (.int .i64 t.iv.ro), .v 8 87 (pt w.heap.size 8), .v 9 88 (pt w.heap.size 11), .l 10 89 3 (pt w.heap.size 11) (.int .i64 t.iv.se), .v 11 90 (pt w.heap.size 15), .v 12 91 (pt w.heap.size 15), .l 13 92 27 (pt w.heap.size 15) (wn (amV t))] ⟨fun W h => ld_int h.a1 10 rfl, fun W h => ld_int h.a1 11 rfl, fun W h => ld_av h.a1 ht, trivial⟩ hS ?_
 refine oD 4 7 (lD (some 83) 30 (pt B 66) (bkv s.va) (ld_va (s := s) hM.a2) (hS) ?_)
 refine oD 14 6 (cD (some 93) _ _ ((HC.out _).mono ?_))
 rintro e W1 ⟨rfl, hb⟩
 refine And.intro (hS.below hb) ?_
 replace hS := hS.below hb
 replace hM := hM.below hb
 clear hb
 refine tD 4 [.v 15 94 (bkv ((giveB s.va t.iv.ro t.iv.se (amV t)).1)), .v 16 95 (.int .i64 ((giveB s.va t.iv.ro t.iv.se (amV t)).2))] trivial hS ?_
 refine oD 17 3 (cD (some 96) 62 #[bkv ((giveB s.va t.iv.ro t.iv.se (amV t)).1), .int .i64 ((giveB s.va t.iv.ro t.iv.se (amV t)).2)] ((must_two _ _ _).mono ?_))
 rintro e W2 (⟨hc, rfl, hb⟩ | ⟨hc, rfl, hb⟩)
 case inr =>
  replace hM := hM.below hb
  exact And.intro rfl (EndL.pan hM.g hb0 hc (by unfold fulP; rw [if_neg h1.out, if_neg h2.out, if_neg h3.out, if_neg h4.out, if_neg hs0.out, if_pos hc]) rfl (BlkN.of hM.a2))
 refine And.intro (hS.below hb) ?_
 replace hS := hS.below hb
 replace hM := hM.below hb
 clear hb
 refine tD 1 [.v 18 97 (pt B 0), .v 19 98 (pt B 66)] trivial hS ?_
 have hM1 := hM.set 2 (cs' := stc ({ s with va := (giveB s.va t.iv.ro t.iv.se (amV t)).1 }) v) rfl rfl
 refine oD 20 0 (sD _ _ (bkv ((giveB s.va t.iv.ro t.iv.se (amV t)).1)) (sto_va hM.a2 _) (hM1.sub (.cons_cons _ (.cons_cons _ (.cons _ .slnil)))) ?_)
 replace hS := hM1.sub (.cons_cons _ (.cons_cons _ (.cons _ .slnil)))
 replace hM := hM1
 clear hM1
 generalize World.setRow _ _ _ = Y16 at *
 refine eD ?_
 clear hS
 have h5 := Lib.hid (not_not_intro hc)
 clear hc
 go_upto_region 11 with fail
 refine wp_region_fromM _ hM ?_
 clear hM
 rintro Y17 hM
 have hO := HO.out.grown hBb hM.g
 obtain ⟨g, o, W2, hi, hst, hg, hgr, hO2⟩ := own_end hO HX.out 2
 have HI := Lib.hid hi
 clear hi
 refine tF 7 [.v 0 99 (pt B 0), .v 1 100 (pt B 0), .v 2 101 (pt B 150), .l 3 102 32 (pt B 150) (v), .v 4 103 (.int .i64 ((openE orcB s t).1 : Int)), .x 5 104 32 (v) (.int .i64 ((openE orcB s t).1 : Int)) (pt g o), .v 6 105 (pt g (o + 2))] ⟨ld_lk (s := { s with va := (giveB s.va t.iv.ro t.iv.se (amV t)).1 }) hM.a2, HI.out _, trivial⟩ ?_
 refine sF _ _ _ (hst) ?_
 refine eF ?_
 have fin : EndL w B b0 (fulP s t) (.returned (.tuple #[])) W2 := end_fin (s' := { s with va := (giveB s.va t.iv.ro t.iv.se (amV t)).1, lk := endE s.lk (openE orcB s t).1 2 }) hBb hb0 hM hM.a2 hg hgr (by unfold fulP; rw [if_neg h1.out, if_neg h2.out, if_neg h3.out, if_neg h4.out, if_neg hs0.out, if_neg h5.out]) (fun u => rfl) hO2
 clear hs0 h1
 go_wp2_with fail
 go_end0
 exact fin
set_option maxRecDepth 100000 in
set_option maxHeartbeats 4000000 in
theorem cancel_any (s : Es) (v : Value) (hs : OkE s) (t : Tr) (ht : OkT t) (hz : (0 ≤ t.iv.se ∧ t.iv.se ≤ 1) ∧ 0 ≤ t.iv.re ∧ t.iv.re ≤ 1) {B b0 : Nat} (w : World) (hBb : B < b0) (hb0 : b0 ≤ w.heap.size) (hB : Blk w B 34 (stc s v)) (ho : OwnL b0 w v s.lk) :
  Calls Tryz.prog 68 #[.pointer (some ⟨B, 0, none⟩), txv t] w (EndL w B b0 (canP s t)) := by
 have hmx : Tryz.prog.follows .mixedOrders = true := by kernel_rfl
 have hM := (Mem.startB hB).allocN rfl 50 (txc t)
 have hn : amV t < M4 := val_lt ht.v
 have HA := Lib.hid (fun W => bookGive_any s.va hs.v t.iv.ro t.iv.re (amV t) hn W)
 have HB := Lib.hid (fun W => bookGive_any s.pu hs.p t.iv.us t.iv.se (amV t) hn W)
 have HS := Lib.hid (okE_he hs hz.1.1 hz.1.2)
 have HR := Lib.hid (okE_he hs hz.2.1 hz.2.2)
 have HO := Lib.hid ho
 clear hB ho
 go_enter Tryz.func68, Tryz.ntmps68
 go_upto_region 1 with fail
 refine wp_region_fromM _ hM ?_
 clear hM
 rintro Y1 hM
 refine tF 2 [.v 0 6 (pt B 0), .l 1 7 50 (pt w.heap.size 0) (txv t)] ⟨ld_tx hM.a0, trivial⟩ ?_
 refine cF (some 8) 102 #[pt B 0, txv t] ((esc_open_any s v t ht _ hM.a1 (HO.out.grown hBb hM.g).rsl).mono ?_)
 rintro e W1 h
 rcases h.two with ⟨h0, rfl, hb⟩ | ⟨h0, rfl, hb⟩
 case inr =>
  replace hM := hM.below hb
  exact And.intro rfl (EndL.pan hM.g hb0 h0 (by unfold canP; rw [if_pos h0]) rfl (BlkN.of hM.a1))
 replace hM := hM.below hb
 obtain ⟨x, hx, _⟩ := open_some h0
 have h1 := Lib.hid (not_not_intro h0)
 have HX := Lib.hid hx
 clear h h0 hb hx
 refine tF 4 [.v 3 4 (.int .i64 ((openE orcB s t).1 : Int))] trivial ?_
 refine eF ?_
 go_upto_region 2 with fail
 refine wp_region_M (fun W => Mem w (some B) [(w.heap.size, 50, txc t), (B, 34, stc s v)] W) (fun W => Mem w (some B) [(w.heap.size, 50, txc t), (B, 34, stc s v)] W) hmx hM.drew ?_
 clear hM
 rintro Y2 hM
 have hS := hM.sub (.cons_cons _ (.cons_cons _ .slnil))
 refine tD 0 [.v 0 9 (pt B 0), .v 1 10 (pt B 0), .v 2 11 (pt B 1), .l 3 12 3 (pt B 1) (.int .i64 s.tm), .v 4 13 (pt w.heap.size 15), .v 5 14 (pt w.heap.size 19), .l 6 15 3 (pt w.heap.size 19) (.int .i64 t.vr.x), .v 7 16 (.bool (decide (s.tm < t.vr.x))), .v 8 5 (.bool (decide (s.tm < t.vr.x)))] ⟨fun W h => ld_int h.a1 1 rfl, fun W h => ld_int h.a0 19 rfl, trivial⟩ hS ?_
 refine eD ?_
 clear hS
 by_cases hsd : s.sd > 0
 case pos =>
  have hs0 : Hid ((s.sd > 0)) := Lib.hid (by omega)
  clear hsd
  go_upto_region 3 with fail
  refine wp_region_fromM _ hM ?_
  clear hM
  rintro Y3 hM
  refine tF 1 [.v 0 17 (pt B 0)] trivial ?_
  refine cF (some 18) 100 #[pt B 0] ((receives_yes hs0.out v _ hM.a1).mono ?_)
  rintro e W1 ⟨rfl, rfl⟩
  refine eF ?_
  by_cases hl : s.tm < t.vr.x
  case pos =>
   go_upto_region 4 with fail
   refine wp_region_fromM _ hM ?_
   clear hM
   rintro Y4 hM
   refine tF 4 [.a 0 19 (.bool (decide (s.tm < t.vr.x))) (.bool true), .v 1 20 (.bool false), .v 2 21 (.bool false), .l 3 22 50 (pt w.heap.size 0) (txv t)] ⟨cB (decide_eq_true hl), ld_tx hM.a0, trivial⟩ ?_
   refine cF (some 23) _ _ ((signed_any t ht 2 _).mono ?_)
   rintro e W1 ⟨rfl, hb⟩
   replace hM := hM.below hb
   clear hb
   refine tF 6 [.v 5 24 (.bool (signB t 2))] trivial ?_
   refine cF (some 25) 59 #[.bool (signB t 2), .int .i64 35] ((demand_any _ _ _).mono ?_)
   rintro e W1 (⟨h, rfl, rfl⟩ | ⟨h, rfl, rfl⟩)
   case inr => exact And.intro rfl (EndL.pan hM.g hb0 (by decide) (by unfold canP; rw [if_neg h1.out, if_pos hs0.out, if_pos (And.intro hl (by rw [h]; decide))]) rfl (BlkN.of hM.a1))
   have h2 : Hid (¬ (s.tm < t.vr.x ∧ ¬ signB t 2 = true)) := Lib.hid (fun e => e.2 h)
   clear h
   refine eF ?_
   go_upto_region 5 with fail
   refine wp_region_M (fun W => Mem w (some B) [(w.heap.size, 50, txc t)] W) (fun W => Mem w (some B) [(w.heap.size, 50, txc t), (B, 34, stc s v)] W) hmx hM.drew ?_
   clear hM
   rintro Y5 hM
   have hS := hM.sub (.cons_cons _ (.cons _ .slnil))
   refine tD 8 [.v 0 26 (pt B 0), .v 1 27 (pt B 0), .v 2 28 (pt B 0), .v 3 29 (pt B 66), .v 5 31 (pt w.heap.size 8), .v 6 32 (pt w.heap.size 10), .l 7 33 3 (pt w.heap.size 10) (.int .i64 t.iv.ro), .v 8 34 (pt w.heap.size 8), .v 9 35 (pt w.heap.size 12), .l 10 36 3 (pt w.heap.size 12) (.int .i64 t.iv.re), .v 11 37 (pt w.heap.size 15), .v 12 38 (pt w.heap.size 15), .l 13 39 27 (pt w.heap.size 15) (wn (amV t))] ⟨fun W h => ld_int h.a0 10 rfl, fun W h => ld_int h.a0 12 rfl, fun W h => ld_av h.a0 ht, trivial⟩ hS ?_
   refine oD 4 7 (lD (some 30) 30 (pt B 66) (bkv s.va) (ld_va (s := s) hM.a1) (hS) ?_)
   refine oD 14 6 (cD (some 40) _ _ ((HA.out _).mono ?_))
   rintro e W1 ⟨rfl, hb⟩
   refine And.intro (hS.below hb) ?_
   replace hS := hS.below hb
   replace hM := hM.below hb
   clear hb
   refine tD 4 [.v 15 41 (bkv ((gul3 s t).1)), .v 16 42 (.int .i64 ((gul3 s t).2))] trivial hS ?_
   refine oD 17 3 (cD (some 43) 62 #[bkv ((gul3 s t).1), .int .i64 ((gul3 s t).2)] ((must_two _ _ _).mono ?_))
   rintro e W2 (⟨hc, rfl, hb⟩ | ⟨hc, rfl, hb⟩)
   case inr =>
    replace hM := hM.below hb
    exact And.intro rfl (EndL.pan hM.g hb0 hc (by unfold canP; rw [if_neg h1.out, if_pos hs0.out, if_neg h2.out, if_pos hc]) rfl (BlkN.of hM.a1))
   refine And.intro (hS.below hb) ?_
   replace hS := hS.below hb
   replace hM := hM.below hb
   clear hb
   refine tD 1 [.v 18 44 (pt B 0), .v 19 45 (pt B 66)] trivial hS ?_
   have hM1 := hM.set 1 (cs' := stc ({ s with va := (gul3 s t).1 }) v) rfl rfl
   refine oD 20 0 (sD _ _ (bkv ((gul3 s t).1)) (sto_va hM.a1 _) (hM1.sub (.cons_cons _ (.cons _ .slnil))) ?_)
   replace hS := hM1.sub (.cons_cons _ (.cons _ .slnil))
   replace hM := hM1
   clear hM1
   generalize World.setRow _ _ _ = Y6 at *
   refine eD ?_
   clear hS
   have h3 := Lib.hid (not_not_intro hc)
   clear hc
   go_upto_region 9 with fail
   refine wp_region_fromM _ hM ?_
   clear hM
   rintro Y7 hM
   have hO := HO.out.grown hBb hM.g
   obtain ⟨g, o, W2, hi, hst, hg, hgr, hO2⟩ := own_end hO HX.out 3
   have HI := Lib.hid hi
   clear hi
   refine tF 7 [.v 0 85 (pt B 0), .v 1 86 (pt B 0), .v 2 87 (pt B 150), .l 3 88 32 (pt B 150) (v), .v 4 89 (.int .i64 ((openE orcB s t).1 : Int)), .x 5 90 32 (v) (.int .i64 ((openE orcB s t).1 : Int)) (pt g o), .v 6 91 (pt g (o + 2))] ⟨ld_lk (s := { s with va := (gul3 s t).1 }) hM.a1, HI.out _, trivial⟩ ?_
   refine sF _ _ _ (hst) ?_
   refine eF ?_
   have fin : EndL w B b0 (canP s t) (.returned (.tuple #[])) W2 := end_fin (s' := { s with va := (gul3 s t).1, lk := endE s.lk (openE orcB s t).1 3 }) hBb hb0 hM hM.a1 hg hgr (by unfold canP; rw [if_neg h1.out, if_pos hs0.out, if_neg h2.out, if_neg h3.out]) (fun u => rfl) hO2
   clear hs0 h1
   go_wp2_with fail
   go_end0
   exact fin
  go_upto_region 4 with fail
  refine wp_region_fromM _ hM ?_
  clear hM
  rintro Y8 hM
  refine tF 4 [.a 0 19 (.bool (decide (s.tm < t.vr.x))) (.bool false), .v 1 20 (.bool true), .v 2 21 (.bool true), .skip 3 (some 22)] ⟨cB (decide_eq_false hl), trivial⟩ ?_
  refine wpFrom_takes (m := 6) [.skip 4 (some 23), .v 5 24 (.bool true)] (by kernel_rfl) (by kernel_rfl) (fun _ => by kernel_rfl) trivial ?_
  refine cF (some 25) 59 #[.bool true, .int .i64 35] ((demand_any _ _ _).mono ?_)
  rintro e W1 (⟨h, rfl, rfl⟩ | ⟨h, rfl, rfl⟩)
  case inr => exact absurd h (by decide)
  have h2 : Hid (¬ (s.tm < t.vr.x ∧ ¬ signB t 2 = true)) := Lib.hid (fun e => hl e.1)
  clear h
  refine eF ?_
  go_upto_region 5 with fail
  refine wp_region_M (fun W => Mem w (some B) [(w.heap.size, 50, txc t)] W) (fun W => Mem w (some B) [(w.heap.size, 50, txc t), (B, 34, stc s v)] W) hmx hM.drew ?_
  clear hM
  rintro Y9 hM
  have hS := hM.sub (.cons_cons _ (.cons _ .slnil))
  refine tD 8 [.v 0 26 (pt B 0), .v 1 27 (pt B 0), .v 2 28 (pt B 0), .v 3 29 (pt B 66), .v 5 31 (pt w.heap.size 8), .v 6 32 (pt w.heap.size 10), .l 7 33 3 (pt w.heap.size 10) (.int .i64 t.iv.ro), .v 8 34 (pt w.heap.size 8), .v 9 35 (pt w.heap.size 12), .l 10 36 3 (pt w.heap.size 12) (.int .i64 t.iv.re), .v 11 37 (pt w.heap.size 15), .v 12 38 (pt w.heap.size 15), .l 13 39 27 (pt w.heap.size 15) (wn (amV t))] ⟨fun W h => ld_int h.a0 10 rfl, fun W h => ld_int h.a0 12 rfl, fun W h => ld_av h.a0 ht, trivial⟩ hS ?_
  refine oD 4 7 (lD (some 30) 30 (pt B 66) (bkv s.va) (ld_va (s := s) hM.a1) (hS) ?_)
  refine oD 14 6 (cD (some 40) _ _ ((HA.out _).mono ?_))
  rintro e W1 ⟨rfl, hb⟩
  refine And.intro (hS.below hb) ?_
  replace hS := hS.below hb
  replace hM := hM.below hb
  clear hb
  refine tD 4 [.v 15 41 (bkv ((gul3 s t).1)), .v 16 42 (.int .i64 ((gul3 s t).2))] trivial hS ?_
  refine oD 17 3 (cD (some 43) 62 #[bkv ((gul3 s t).1), .int .i64 ((gul3 s t).2)] ((must_two _ _ _).mono ?_))
  rintro e W2 (⟨hc, rfl, hb⟩ | ⟨hc, rfl, hb⟩)
  case inr =>
   replace hM := hM.below hb
   exact And.intro rfl (EndL.pan hM.g hb0 hc (by unfold canP; rw [if_neg h1.out, if_pos hs0.out, if_neg h2.out, if_pos hc]) rfl (BlkN.of hM.a1))
  refine And.intro (hS.below hb) ?_
  replace hS := hS.below hb
  replace hM := hM.below hb
  clear hb
  refine tD 1 [.v 18 44 (pt B 0), .v 19 45 (pt B 66)] trivial hS ?_
  have hM1 := hM.set 1 (cs' := stc ({ s with va := (gul3 s t).1 }) v) rfl rfl
  refine oD 20 0 (sD _ _ (bkv ((gul3 s t).1)) (sto_va hM.a1 _) (hM1.sub (.cons_cons _ (.cons _ .slnil))) ?_)
  replace hS := hM1.sub (.cons_cons _ (.cons _ .slnil))
  replace hM := hM1
  clear hM1
  generalize World.setRow _ _ _ = Y10 at *
  refine eD ?_
  clear hS
  have h3 := Lib.hid (not_not_intro hc)
  clear hc
  go_upto_region 9 with fail
  refine wp_region_fromM _ hM ?_
  clear hM
  rintro Y11 hM
  have hO := HO.out.grown hBb hM.g
  obtain ⟨g, o, W2, hi, hst, hg, hgr, hO2⟩ := own_end hO HX.out 3
  have HI := Lib.hid hi
  clear hi
  refine tF 7 [.v 0 85 (pt B 0), .v 1 86 (pt B 0), .v 2 87 (pt B 150), .l 3 88 32 (pt B 150) (v), .v 4 89 (.int .i64 ((openE orcB s t).1 : Int)), .x 5 90 32 (v) (.int .i64 ((openE orcB s t).1 : Int)) (pt g o), .v 6 91 (pt g (o + 2))] ⟨ld_lk (s := { s with va := (gul3 s t).1 }) hM.a1, HI.out _, trivial⟩ ?_
  refine sF _ _ _ (hst) ?_
  refine eF ?_
  have fin : EndL w B b0 (canP s t) (.returned (.tuple #[])) W2 := end_fin (s' := { s with va := (gul3 s t).1, lk := endE s.lk (openE orcB s t).1 3 }) hBb hb0 hM hM.a1 hg hgr (by unfold canP; rw [if_neg h1.out, if_pos hs0.out, if_neg h2.out, if_neg h3.out]) (fun u => rfl) hO2
  clear hs0 h1
  go_wp2_with fail
  go_end0
  exact fin
 have hs0 : Hid (¬ (s.sd > 0)) := Lib.hid (by omega)
 clear hsd
 go_upto_region 3 with fail
 refine wp_region_fromM _ hM ?_
 clear hM
 rintro Y12 hM
 refine tF 1 [.v 0 17 (pt B 0)] trivial ?_
 refine cF (some 18) 100 #[pt B 0] ((receives_not hs0.out v _ hM.a1).mono ?_)
 rintro e W1 ⟨rfl, rfl⟩
 refine eF ?_
 by_cases hl : s.tm < t.vr.x
 case pos =>
  go_upto_region 6 with fail
  refine wp_region_fromM _ hM ?_
  clear hM
  rintro Y13 hM
  refine tF 10 [.a 0 46 (.bool (decide (s.tm < t.vr.x))) (.bool true), .v 1 47 (.bool false), .v 2 48 (.bool false), .v 3 49 (pt w.heap.size 0), .l 4 50 3 (pt w.heap.size 0) (.int .i64 t.fr), .v 5 51 (pt w.heap.size 8), .v 6 52 (pt w.heap.size 10), .l 7 53 3 (pt w.heap.size 10) (.int .i64 t.iv.ro), .v 8 54 (.bool (t.fr == t.iv.ro)), .v 9 55 (.bool (t.fr == t.iv.ro))] ⟨cB (decide_eq_true hl), ld_int hM.a0 0 rfl, ld_int hM.a0 10 rfl, trivial⟩ ?_
  refine cF (some 56) 59 #[.bool (t.fr == t.iv.ro), .int .i64 37] ((demand_any _ _ _).mono ?_)
  rintro e W1 (⟨h, rfl, rfl⟩ | ⟨h, rfl, rfl⟩)
  case inr => exact And.intro rfl (EndL.pan hM.g hb0 (by decide) (by unfold canP; rw [if_neg h1.out, if_neg hs0.out, if_pos (And.intro hl (ne_of_beq_false h))]) rfl (BlkN.of hM.a1))
  have h2 : Hid (¬ (s.tm < t.vr.x ∧ ¬ t.fr = t.iv.ro)) := Lib.hid (fun e => e.2 (eq_of_beq h))
  clear h
  refine eF ?_
  go_upto_region 7 with fail
  refine wp_region_M (fun W => Mem w (some B) [(w.heap.size, 50, txc t)] W) (fun W => Mem w (some B) [(w.heap.size, 50, txc t), (B, 34, stc s v)] W) hmx hM.drew ?_
  clear hM
  rintro Y14 hM
  have hS := hM.sub (.cons_cons _ (.cons _ .slnil))
  refine tD 8 [.v 0 57 (pt B 0), .v 1 58 (pt B 0), .v 2 59 (pt B 0), .v 3 60 (pt B 2), .v 5 62 (pt w.heap.size 8), .v 6 63 (pt w.heap.size 8), .l 7 64 3 (pt w.heap.size 8) (.int .i64 t.iv.us), .v 8 65 (pt w.heap.size 8), .v 9 66 (pt w.heap.size 11), .l 10 67 3 (pt w.heap.size 11) (.int .i64 t.iv.se), .v 11 68 (pt w.heap.size 15), .v 12 69 (pt w.heap.size 15), .l 13 70 27 (pt w.heap.size 15) (wn (amV t))] ⟨fun W h => ld_int h.a0 8 rfl, fun W h => ld_int h.a0 11 rfl, fun W h => ld_av h.a0 ht, trivial⟩ hS ?_
  refine oD 4 7 (lD (some 61) 30 (pt B 2) (bkv s.pu) (ld_pu (s := s) hM.a1) (hS) ?_)
  refine oD 14 6 (cD (some 71) _ _ ((HB.out _).mono ?_))
  rintro e W1 ⟨rfl, hb⟩
  refine And.intro (hS.below hb) ?_
  replace hS := hS.below hb
  replace hM := hM.below hb
  clear hb
  refine tD 4 [.v 15 72 (bkv ((gul4 s t).1)), .v 16 73 (.int .i64 ((gul4 s t).2))] trivial hS ?_
  refine oD 17 3 (cD (some 74) 62 #[bkv ((gul4 s t).1), .int .i64 ((gul4 s t).2)] ((must_two _ _ _).mono ?_))
  rintro e W2 (⟨hc, rfl, hb⟩ | ⟨hc, rfl, hb⟩)
  case inr =>
   replace hM := hM.below hb
   exact And.intro rfl (EndL.pan hM.g hb0 hc (by unfold canP; rw [if_neg h1.out, if_neg hs0.out, if_neg h2.out, if_pos hc]) rfl (BlkN.of hM.a1))
  refine And.intro (hS.below hb) ?_
  replace hS := hS.below hb
  replace hM := hM.below hb
  clear hb
  refine tD 1 [.v 18 75 (pt B 0), .v 19 76 (pt B 2)] trivial hS ?_
  have hM1 := hM.set 1 (cs' := stc ({ s with pu := (gul4 s t).1 }) v) rfl rfl
  refine oD 20 0 (sD _ _ (bkv ((gul4 s t).1)) (sto_pu hM.a1 _) (hM1.sub (.cons_cons _ (.cons _ .slnil))) ?_)
  replace hS := hM1.sub (.cons_cons _ (.cons _ .slnil))
  replace hM := hM1
  clear hM1
  generalize World.setRow _ _ _ = Y15 at *
  refine eD ?_
  clear hS
  have h3 := Lib.hid (not_not_intro hc)
  clear hc
  go_upto_region 8 with fail
  refine wp_region_fromM _ hM ?_
  clear hM
  rintro Y16 hM
  refine tF 7 [.v 0 77 (pt B 0), .v 1 78 (pt w.heap.size 8), .v 2 79 (pt w.heap.size 11), .l 3 80 3 (pt w.heap.size 11) (.int .i64 t.iv.se), .v 4 81 (pt w.heap.size 15), .v 5 82 (pt w.heap.size 15), .l 6 83 27 (pt w.heap.size 15) (wn (amV t))] ⟨ld_int hM.a0 11 rfl, ld_av hM.a0 ht, trivial⟩ ?_
  refine cF (some 84) 99 #[pt B 0, .int .i64 t.iv.se, wn (amV t)] ((shrinkI_any ({ s with pu := (gul4 s t).1 }) _ hz.1 HS.out hn _ hM.a1).mono ?_)
  rintro e W1 h
  rcases h.two with ⟨h0, rfl, hg, hN⟩ | ⟨h0, rfl, _⟩
  case inr => exact And.intro rfl (EndL.fail hM.g hb0 h h0 (by unfold canP; rw [if_neg h1.out, if_neg hs0.out, if_neg h2.out, if_neg h3.out, if_pos h0]))
  rw [shrinkE_ok h0] at hN
  replace hM := hM.call 1 (cs' := stc { s with pu := (gul4 s t).1, he := updB s.he t.iv.se.toNat (s.he t.iv.se.toNat - amV t) } v) rfl rfl hg hN
  have h7 := Lib.hid (not_not_intro h0)
  clear h h0 hg hN
  refine eF ?_
  go_upto_region 9 with fail
  refine wp_region_fromM _ hM ?_
  clear hM
  rintro Y17 hM
  have hO := HO.out.grown hBb hM.g
  obtain ⟨g, o, W2, hi, hst, hg, hgr, hO2⟩ := own_end hO HX.out 3
  have HI := Lib.hid hi
  clear hi
  refine tF 7 [.v 0 85 (pt B 0), .v 1 86 (pt B 0), .v 2 87 (pt B 150), .l 3 88 32 (pt B 150) (v), .v 4 89 (.int .i64 ((openE orcB s t).1 : Int)), .x 5 90 32 (v) (.int .i64 ((openE orcB s t).1 : Int)) (pt g o), .v 6 91 (pt g (o + 2))] ⟨ld_lk (s := { s with pu := (gul4 s t).1, he := updB s.he t.iv.se.toNat (s.he t.iv.se.toNat - amV t) }) hM.a1, HI.out _, trivial⟩ ?_
  refine sF _ _ _ (hst) ?_
  refine eF ?_
  have fin : EndL w B b0 (canP s t) (.returned (.tuple #[])) W2 := end_fin (s' := { s with pu := (gul4 s t).1, he := updB s.he t.iv.se.toNat (s.he t.iv.se.toNat - amV t), lk := endE s.lk (openE orcB s t).1 3 }) hBb hb0 hM hM.a1 hg hgr (by unfold canP; rw [if_neg h1.out, if_neg hs0.out, if_neg h2.out, if_neg h3.out, if_neg h7.out]) (fun u => rfl) hO2
  clear hs0 h1
  go_wp2_with fail
  go_end0
  exact fin
 go_upto_region 6 with fail
 refine wp_region_fromM _ hM ?_
 clear hM
 rintro Y18 hM
 refine tF 10 [.a 0 46 (.bool (decide (s.tm < t.vr.x))) (.bool false), .v 1 47 (.bool true), .v 2 48 (.bool true), .skip 3 (some 49), .skip 4 (some 50), .skip 5 (some 51), .skip 6 (some 52), .skip 7 (some 53), .skip 8 (some 54), .v 9 55 (.bool true)] ⟨cB (decide_eq_false hl), trivial⟩ ?_
 refine cF (some 56) 59 #[.bool true, .int .i64 37] ((demand_any _ _ _).mono ?_)
 rintro e W1 (⟨h, rfl, rfl⟩ | ⟨h, rfl, rfl⟩)
 case inr => exact absurd h (by decide)
 have h2 : Hid (¬ (s.tm < t.vr.x ∧ ¬ t.fr = t.iv.ro)) := Lib.hid (fun e => hl e.1)
 clear h
 refine eF ?_
 go_upto_region 7 with fail
 refine wp_region_M (fun W => Mem w (some B) [(w.heap.size, 50, txc t)] W) (fun W => Mem w (some B) [(w.heap.size, 50, txc t), (B, 34, stc s v)] W) hmx hM.drew ?_
 clear hM
 rintro Y19 hM
 have hS := hM.sub (.cons_cons _ (.cons _ .slnil))
 refine tD 8 [.v 0 57 (pt B 0), .v 1 58 (pt B 0), .v 2 59 (pt B 0), .v 3 60 (pt B 2), .v 5 62 (pt w.heap.size 8), .v 6 63 (pt w.heap.size 8), .l 7 64 3 (pt w.heap.size 8) (.int .i64 t.iv.us), .v 8 65 (pt w.heap.size 8), .v 9 66 (pt w.heap.size 11), .l 10 67 3 (pt w.heap.size 11) (.int .i64 t.iv.se), .v 11 68 (pt w.heap.size 15), .v 12 69 (pt w.heap.size 15), .l 13 70 27 (pt w.heap.size 15) (wn (amV t))] ⟨fun W h => ld_int h.a0 8 rfl, fun W h => ld_int h.a0 11 rfl, fun W h => ld_av h.a0 ht, trivial⟩ hS ?_
 refine oD 4 7 (lD (some 61) 30 (pt B 2) (bkv s.pu) (ld_pu (s := s) hM.a1) (hS) ?_)
 refine oD 14 6 (cD (some 71) _ _ ((HB.out _).mono ?_))
 rintro e W1 ⟨rfl, hb⟩
 refine And.intro (hS.below hb) ?_
 replace hS := hS.below hb
 replace hM := hM.below hb
 clear hb
 refine tD 4 [.v 15 72 (bkv ((gul4 s t).1)), .v 16 73 (.int .i64 ((gul4 s t).2))] trivial hS ?_
 refine oD 17 3 (cD (some 74) 62 #[bkv ((gul4 s t).1), .int .i64 ((gul4 s t).2)] ((must_two _ _ _).mono ?_))
 rintro e W2 (⟨hc, rfl, hb⟩ | ⟨hc, rfl, hb⟩)
 case inr =>
  replace hM := hM.below hb
  exact And.intro rfl (EndL.pan hM.g hb0 hc (by unfold canP; rw [if_neg h1.out, if_neg hs0.out, if_neg h2.out, if_pos hc]) rfl (BlkN.of hM.a1))
 refine And.intro (hS.below hb) ?_
 replace hS := hS.below hb
 replace hM := hM.below hb
 clear hb
 refine tD 1 [.v 18 75 (pt B 0), .v 19 76 (pt B 2)] trivial hS ?_
 have hM1 := hM.set 1 (cs' := stc ({ s with pu := (gul4 s t).1 }) v) rfl rfl
 refine oD 20 0 (sD _ _ (bkv ((gul4 s t).1)) (sto_pu hM.a1 _) (hM1.sub (.cons_cons _ (.cons _ .slnil))) ?_)
 replace hS := hM1.sub (.cons_cons _ (.cons _ .slnil))
 replace hM := hM1
 clear hM1
 generalize World.setRow _ _ _ = Y20 at *
 refine eD ?_
 clear hS
 have h3 := Lib.hid (not_not_intro hc)
 clear hc
 go_upto_region 8 with fail
 refine wp_region_fromM _ hM ?_
 clear hM
 rintro Y21 hM
 refine tF 7 [.v 0 77 (pt B 0), .v 1 78 (pt w.heap.size 8), .v 2 79 (pt w.heap.size 11), .l 3 80 3 (pt w.heap.size 11) (.int .i64 t.iv.se), .v 4 81 (pt w.heap.size 15), .v 5 82 (pt w.heap.size 15), .l 6 83 27 (pt w.heap.size 15) (wn (amV t))] ⟨ld_int hM.a0 11 rfl, ld_av hM.a0 ht, trivial⟩ ?_
 refine cF (some 84) 99 #[pt B 0, .int .i64 t.iv.se, wn (amV t)] ((shrinkI_any ({ s with pu := (gul4 s t).1 }) _ hz.1 HS.out hn _ hM.a1).mono ?_)
 rintro e W1 h
 rcases h.two with ⟨h0, rfl, hg, hN⟩ | ⟨h0, rfl, _⟩
 case inr => exact And.intro rfl (EndL.fail hM.g hb0 h h0 (by unfold canP; rw [if_neg h1.out, if_neg hs0.out, if_neg h2.out, if_neg h3.out, if_pos h0]))
 rw [shrinkE_ok h0] at hN
 replace hM := hM.call 1 (cs' := stc { s with pu := (gul4 s t).1, he := updB s.he t.iv.se.toNat (s.he t.iv.se.toNat - amV t) } v) rfl rfl hg hN
 have h7 := Lib.hid (not_not_intro h0)
 clear h h0 hg hN
 refine eF ?_
 go_upto_region 9 with fail
 refine wp_region_fromM _ hM ?_
 clear hM
 rintro Y22 hM
 have hO := HO.out.grown hBb hM.g
 obtain ⟨g, o, W2, hi, hst, hg, hgr, hO2⟩ := own_end hO HX.out 3
 have HI := Lib.hid hi
 clear hi
 refine tF 7 [.v 0 85 (pt B 0), .v 1 86 (pt B 0), .v 2 87 (pt B 150), .l 3 88 32 (pt B 150) (v), .v 4 89 (.int .i64 ((openE orcB s t).1 : Int)), .x 5 90 32 (v) (.int .i64 ((openE orcB s t).1 : Int)) (pt g o), .v 6 91 (pt g (o + 2))] ⟨ld_lk (s := { s with pu := (gul4 s t).1, he := updB s.he t.iv.se.toNat (s.he t.iv.se.toNat - amV t) }) hM.a1, HI.out _, trivial⟩ ?_
 refine sF _ _ _ (hst) ?_
 refine eF ?_
 have fin : EndL w B b0 (canP s t) (.returned (.tuple #[])) W2 := end_fin (s' := { s with pu := (gul4 s t).1, he := updB s.he t.iv.se.toNat (s.he t.iv.se.toNat - amV t), lk := endE s.lk (openE orcB s t).1 3 }) hBb hb0 hM hM.a1 hg hgr (by unfold canP; rw [if_neg h1.out, if_neg hs0.out, if_neg h2.out, if_neg h3.out, if_neg h7.out]) (fun u => rfl) hO2
 clear hs0 h1
 go_wp2_with fail
 go_end0
 exact fin
end Go.Proofs.YthhmdgmmeedhdaaGreat
