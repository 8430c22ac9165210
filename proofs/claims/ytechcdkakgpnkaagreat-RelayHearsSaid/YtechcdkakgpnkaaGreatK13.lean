/-
  What is heard of octets: facts for the laws; What is put of an ask: bid's PutAsk; What is put of a message: mail's putBid and Put; DERIVED: THE SHELF's CONTRACTS AT THIS DUMP, IN PLAIN WORDS (tools/lay-plain.mjs out of 'TryzShelf.lean', which tools/lay-shelf.mjs wrote): THE SAME DECLARATIONS UNDER THE SAME NAMES: 'import', 'namespace', 'open', 'def', 'theorem' AND NOTHING ELSE: no command of the s
-/
import Derived.Outline
import Derived.Shelf.Strings.Builder1
import Derived.Shelf.Strings.Builder2
import Derived.Shelf.Strings.OnBuilder
import Derived.Test.YtechcdkakgpnkaaGreatProg
import Derived.Test.YtechcdkakgpnkaaGreatK12
namespace Go.Proofs.YtechcdkakgpnkaaGreat
open Go.RowKit Go.Shelf
theorem tx_ext {a b : ByteArray} (h : (a.toList == b.toList) = true) : a = b := by
  have h := beq_iff_eq.1 h
  rw [ByteArray.toList_eq, ByteArray.toList_eq] at h
  exact ByteArray.ext (Array.toList_inj.1 h)
theorem wEq_nat {a0 a1 a2 a3 b0 b1 b2 b3 : Nat} (h : wEq (a0 : Nat) (a1 : Nat) (a2 : Nat) (a3 : Nat) (b0 : Nat) (b1 : Nat) (b2 : Nat) (b3 : Nat) = true) : a0 = b0 ∧ a1 = b1 ∧ a2 = b2 ∧ a3 = b3 := by
  have h := of_decide_eq_true h
  omega
theorem eqI_eq {a b : Trf} (h : eqI a b = true) : a = b := by
  simp only [eqI, Bool.and_eq_true, Bool.and_true] at h
  obtain ⟨h1, h2, h3, h4, h5, h6, h7⟩ := h
  cases a; cases b
  simp only [Trf.mk.injEq]
  exact ⟨beq_iff_eq.1 h1, tx_ext h2, beq_iff_eq.1 h3, beq_iff_eq.1 h4, beq_iff_eq.1 h5, beq_iff_eq.1 h6, tx_ext h7⟩
theorem eqV_eq {a b : Sid} (h : eqV a b = true) : a = b := by
  simp only [eqV, Bool.and_eq_true, Bool.and_true] at h
  obtain ⟨h1, h2⟩ := h
  obtain ⟨e0, e1, e2, e3⟩ := wEq_nat h1
  cases a; cases b
  simp only [Sid.mk.injEq]
  exact ⟨e0, e1, e2, e3, beq_iff_eq.1 h2⟩
theorem eqM_enc {a b : Ms} (h : eqM a b = true) (ka : a.kd = 3) : encG a = encG b := by
  simp only [eqM, Bool.and_eq_true, Bool.and_true] at h
  obtain ⟨h1, _, _, h4, h5, h6, h7⟩ := h
  have h1 := beq_iff_eq.1 h1
  obtain ⟨e0, e1, e2, e3⟩ := wEq_nat h6
  unfold encG
  rw [if_neg (by omega), if_neg (by omega), if_neg (by omega), if_neg (by omega), ← h1]
  unfold encR
  rw [eqI_eq h4, eqV_eq h5, e0, e1, e2, e3, tx_ext h7]
theorem plain_kd (m : Ms) : (plainM m).kd = m.kd := by
  unfold plainM
  split
  · rfl
  · split
    · rfl
    · split <;> rfl
theorem plain_fe {m : Ms} (h : m.kd = 3) : feZ (plainM m) = feZ m := by
  unfold plainM
  rw [if_neg (by omega), if_neg (by omega), if_pos h]
  rfl
theorem plain_enc {m : Ms} (h : m.kd = 3) : encG (plainM m) = encG m := by
  have e : plainM m = { noM with kd := m.kd, iv := m.iv, vr := m.vr, f0 := m.f0, f1 := m.f1, f2 := m.f2, f3 := m.f3, sg := m.sg } := by
    unfold plainM
    rw [if_neg (by omega), if_neg (by omega), if_pos h]
  rw [e]
  unfold encG
  rw [if_neg (show ¬ m.kd = 1 by omega), if_neg (show ¬ m.kd = 2 by omega)]
  rw [if_neg (show ¬ m.kd = 1 by omega), if_neg (show ¬ m.kd = 2 by omega)]
  rfl
def relI : Trf := ⟨1, rootB ⟨#[117]⟩, 2, 0, 0, 6, ⟨#[100, 101, 97, 108]⟩⟩
def relM (fee leaf : Nat) : Ms := { noM with kd := 3, iv := relI, vr := ⟨50, 0, 0, 0, 150⟩, f0 := fee, sg := sigB ⟨#[117]⟩ leaf (payL 1 (keyB relI) fee 0 0 0) }
theorem relI_may : maybeI relI := ⟨by decide, rootB_size _, by decide, by decide, by decide, by decide, by decide, by decide⟩
theorem relM_err {fee leaf : Nat} (h : leaf < 8) : errG (relM fee leaf) = 0 := by
  have hs : (relM fee leaf).sg.size ≤ 1024 := by
    show (sigB _ _ _).size ≤ 1024
    rw [sigB_size h]; decide
  unfold errG
  rw [if_neg (show ¬ (relM fee leaf).kd = 1 from by show ¬ (3 : Int) = 1; decide), if_neg (show ¬ (relM fee leaf).kd = 2 from by show ¬ (3 : Int) = 2; decide), if_pos (show (relM fee leaf).kd = 3 from rfl)]
  unfold errL
  rw [if_pos (show maybeI (relM fee leaf).iv from relI_may), if_pos (show maybeV (relM fee leaf).vr from show maybeV ⟨50, 0, 0, 0, 150⟩ from by decide), if_pos hs]
theorem relM_ok {fee leaf : Nat} (h : fee < M) : OkM (relM fee leaf) := ⟨okA_no, okB_no, ⟨by show 50 < M; unfold M; decide, M_pos, M_pos, M_pos⟩, ⟨h, M_pos, M_pos, M_pos⟩⟩
theorem relM_plain (fee leaf : Nat) : plainM (relM fee leaf) = relM fee leaf := by
  unfold plainM
  rw [if_neg (show ¬ (relM fee leaf).kd = 1 from by show ¬ (3 : Int) = 1; decide), if_neg (show ¬ (relM fee leaf).kd = 2 from by show ¬ (3 : Int) = 2; decide), if_pos (show (relM fee leaf).kd = 3 from rfl)]
  rfl
theorem relM_back {fee leaf : Nat} (h : leaf < 8) (hf : fee < M) : readG (openS (encG (relM fee leaf))) = (relM fee leaf, 0) := by
  rw [(msg_back (relM_err h) (relM_ok hf)).2.2, relM_plain]
theorem relM_fe {fee leaf : Nat} (h : fee ≠ 0) : feZ (relM fee leaf) = false := decide_eq_false fun e => by
  have e := e.1
  rw [show nw 0 0 = 0 from rfl] at e
  exact h (by have e : ((fee : Nat) : Int) = ((0 : Nat) : Int) := e; omega)
theorem hear_first {m : Ms} (hk : m.kd = 3) (hf : feZ m = false) : hearM [] m 0 = ([m], true) := by
  unfold hearM
  rw [if_neg (by decide), if_neg (by decide), if_neg (fun h => h hk), if_neg (by rw [hf]; decide)]
  rfl
theorem read_nil : (readG (openS [])).2 ≠ 0 :=
  msg_cut (m := relM 1 1) (relM_err (by decide)) (relM_ok (by unfold M; decide)) (c := 0) (by unfold encG; rw [List.length_append, encN_length]; omega)
section
variable {m y : Ms} {c : Int} {b : List UInt8}
theorem hear_nil : hearM [] (readG (openS [])).1 (readG (openS [])).2 = ([], false) := by
  unfold hearM
  rw [if_neg (by decide), if_pos read_nil]
theorem hear_k1 (h : (m.kd == 3) = false) : hearM [] (plainM m) 0 = ([], false) := by
  unfold hearM
  rw [if_neg (by decide), if_neg (by decide), if_pos (by rw [plain_kd]; simpa using h)]
theorem hear_f1 (h : (m.kd == 3) = true) (hf : feZ m = true) : hearM [] (plainM m) 0 = ([], false) := by
  have h := beq_iff_eq.1 h
  unfold hearM
  rw [if_neg (by decide), if_neg (by decide), if_neg (by rw [plain_kd]; omega), if_pos (by rw [plain_fe h]; exact hf)]
theorem hear_d1 (h : (m.kd == 3) = true) (hf : feZ m = false) : hearM [] (plainM m) 0 = ([plainM m], true) :=
  hear_first (by rw [plain_kd]; exact beq_iff_eq.1 h) (by rw [plain_fe (beq_iff_eq.1 h)]; exact hf)
theorem hear_d2 (h : (m.kd == 3) = true) (hf : feZ m = false) : hearM [plainM m] (plainM m) 0 = ([plainM m], false) := by
  have h := beq_iff_eq.1 h
  unfold hearM
  rw [if_neg (show ¬ 16 ≤ [plainM m].length from by show ¬ 16 ≤ 1; decide), if_neg (by decide), if_neg (by rw [plain_kd]; omega), if_neg (by rw [plain_fe h, hf]; decide), if_pos]
  rw [List.filter_cons, if_pos (show isM (plainM m) (plainM m) = true from eqM_refl _)]
  exact Nat.zero_lt_succ _
theorem hear_no (l : List Ms) (hl : l.length ≤ 1) (h : (c == 0) = false ∨ (y.kd == 3) = false ∨ feZ y = true) : hearM l y c = (l, false) := by
  unfold hearM
  rw [if_neg (by omega)]
  by_cases h1 : c ≠ 0
  · rw [if_pos h1]
  · rw [if_neg h1]
    by_cases h2 : y.kd ≠ 3
    · rw [if_pos h2]
    · rw [if_neg h2, if_pos]
      rcases h with h | h | h
      · exact absurd (by simpa using h) h1
      · exact absurd (by simpa using h) h2
      · exact h
theorem hear_y1 (h : (c == 0) = true) (h1 : (y.kd == 3) = true) (h2 : feZ y = false) : hearM [] y c = ([y], true) := by
  obtain rfl := beq_iff_eq.1 h
  exact hear_first (beq_iff_eq.1 h1) h2
theorem hear_same (hy : readG (openS b) = (y, c)) (hk : (m.kd == 3) = true) (hf : feZ m = false) (he : errG m = 0) (hm : OkM m) (h : decide (b = encG m) = true) : hearM [plainM m] y c = ([plainM m], false) := by
  rw [of_decide_eq_true h, (msg_back he hm).2.2] at hy
  cases hy
  exact hear_d2 hk hf
theorem hear_new (hy : readG (openS b) = (y, c)) (hc : (c == 0) = true) (h1 : (y.kd == 3) = true) (h2 : feZ y = false) (hk : (m.kd == 3) = true) (h : decide (b = encG m) = false) : hearM [plainM m] y c = ([plainM m, y], true) := by
  obtain rfl := beq_iff_eq.1 hc
  have hk := beq_iff_eq.1 hk
  have hn : eqM (plainM m) y = false := by
    cases e : eqM (plainM m) y with
    | false => rfl
    | true =>
      have h3 := eqM_enc e (by rw [plain_kd]; exact hk)
      have h4 := (msg_octets (b := b) (by rw [hy])).2.2.2.1
      rw [hy] at h4
      rw [plain_enc hk] at h3
      exact absurd (h4.trans h3.symm) (of_decide_eq_false h)
  unfold hearM
  rw [if_neg (show ¬ 16 ≤ [plainM m].length from by show ¬ 16 ≤ 1; decide), if_neg (by decide), if_neg (fun e => e (beq_iff_eq.1 h1)), if_neg (by rw [h2]; decide), if_neg]
  · rfl
  · rw [List.filter_cons, if_neg (show ¬ isM y (plainM m) = true from by unfold isM; rw [hn]; decide)]
    exact Nat.lt_irrefl 0
theorem tx_ne {a b : List UInt8} (h : a ≠ b) : (!((txB a).toList == (txB b).toList)) = true := by
  rw [Bool.not_eq_true', beq_eq_false_iff_ne]
  intro e
  rw [ByteArray.toList_eq, ByteArray.toList_eq] at e
  exact h e
theorem tx_eq {a b : List UInt8} (h : decide (a = b) = true) : (!((txB a).toList == (txB b).toList)) = false := by
  rw [of_decide_eq_true h, beq_self_eq_true]; rfl
theorem ne_nil (hy : readG (openS b) = (y, c)) (hc : (c == 0) = true) : b ≠ [] := by
  rintro rfl
  exact read_nil ((congrArg Prod.snd hy).trans (beq_iff_eq.1 hc))
theorem ne_kd (hy : readG (openS b) = (y, c)) (h1 : (y.kd == 3) = true) (he : errG m = 0) (hm : OkM m) (hk : (m.kd == 3) = false) : b ≠ encG m := by
  rintro rfl
  rw [(msg_back he hm).2.2] at hy
  cases hy
  rw [plain_kd, hk] at h1
  cases h1
theorem ne_fe (hy : readG (openS b) = (y, c)) (h2 : feZ y = false) (he : errG m = 0) (hm : OkM m) (hk : (m.kd == 3) = true) (hf : feZ m = true) : b ≠ encG m := by
  rintro rfl
  rw [(msg_back he hm).2.2] at hy
  cases hy
  rw [plain_fe (beq_iff_eq.1 hk), hf] at h2
  cases h2
end
def kpI : Trf := ⟨0, ⟨#[49, 50, 51, 52, 53, 54, 55, 56]⟩, 2, 0, 0, 0, ⟨#[120]⟩⟩
def kpM (k : Nat) : Ms := { noM with kd := 3, iv := kpI, vr := ⟨50, 0, 0, 0, 0⟩, f0 := k + 1 }
def keepL (j : Nat) : List Ms := (List.range (min j 16)).map kpM
theorem kp_err (k : Nat) : errG (kpM k) = 0 := by
  unfold errG
  rw [if_neg (show ¬ (kpM k).kd = 1 from by show ¬ (3 : Int) = 1; decide), if_neg (show ¬ (kpM k).kd = 2 from by show ¬ (3 : Int) = 2; decide), if_pos (show (kpM k).kd = 3 from rfl)]
  unfold errL
  rw [if_pos (show maybeI (kpM k).iv from show maybeI kpI from by decide), if_pos (show maybeV (kpM k).vr from show maybeV ⟨50, 0, 0, 0, 0⟩ from by decide), if_pos (show (kpM k).sg.size ≤ 1024 from by show 0 ≤ 1024; decide)]
theorem kp_ok {k : Nat} (h : k < 24) : OkM (kpM k) := ⟨okA_no, okB_no, ⟨by show 50 < M; unfold M; decide, M_pos, M_pos, M_pos⟩, ⟨by show k + 1 < M; unfold M; omega, M_pos, M_pos, M_pos⟩⟩
theorem kp_plain (k : Nat) : plainM (kpM k) = kpM k := by
  unfold plainM
  rw [if_neg (show ¬ (kpM k).kd = 1 from by show ¬ (3 : Int) = 1; decide), if_neg (show ¬ (kpM k).kd = 2 from by show ¬ (3 : Int) = 2; decide), if_pos (show (kpM k).kd = 3 from rfl)]
  rfl
theorem kp_back {k : Nat} (h : k < 24) : readG (openS (encG (kpM k))) = (kpM k, 0) := by
  rw [(msg_back (kp_err k) (kp_ok h)).2.2, kp_plain]
theorem kp_fe (k : Nat) : feZ (kpM k) = false := wEq_not fun e => by
  have e := e.1
  rw [show nw 0 0 = 0 from rfl] at e
  have e : ((k + 1 : Nat) : Int) = ((0 : Nat) : Int) := e
  omega
theorem kp_len (j : Nat) : (keepL j).length = min j 16 := by unfold keepL; rw [List.length_map, List.length_range]
theorem kp_ne {i j : Nat} (h : i ≠ j) : eqM (kpM i) (kpM j) = false := by
  cases e : eqM (kpM i) (kpM j) with
  | false => rfl
  | true =>
    simp only [eqM, Bool.and_eq_true, Bool.and_true] at e
    have h6 := (wEq_nat e.2.2.2.2.2.1).1
    exact absurd (show i = j by have : i + 1 = j + 1 := h6; omega) h
theorem kp_hear (j : Nat) : hearM (keepL j) (kpM j) 0 = (keepL (j + 1), decide ((j : Int) < 16)) := by
  unfold hearM
  rw [kp_len]
  by_cases h : j < 16
  · rw [if_neg (by omega), if_neg (by decide), if_neg (fun e => e rfl), if_neg (by rw [kp_fe]; decide), if_neg, decide_eq_true (by omega)]
    · congr 1
      unfold keepL
      rw [show min (j + 1) 16 = min j 16 + 1 by omega, List.range_succ, List.map_append, show min j 16 = j by omega]
      rfl
    · rw [List.filter_eq_nil_iff.2]
      · decide
      · intro x hx
        obtain ⟨i, hi, rfl⟩ := List.mem_map.1 hx
        have hi := List.mem_range.1 hi
        unfold isM
        rw [kp_ne (by omega)]
        decide
  · rw [if_pos (by omega), decide_eq_false (by omega)]
    congr 1
    unfold keepL
    rw [show min (j + 1) 16 = min j 16 by omega]
theorem kp_count (q : Nat) : (((keepL q).length : Int) == min2I (q : Int) 16) = true := by
  rw [kp_len, beq_iff_eq]
  unfold min2I
  split <;> omega
end Go.Proofs.YtechcdkakgpnkaaGreat
namespace Go.Proofs.YtechcdkakgpnkaaGreat
open Go.RowKit Go.Shelf
def nA (a : Ak) (k : Nat) : Int := match k with | 0 => a.us | 1 => a.se | 2 => a.re | _ => a.to
def numA (s : St) (a : Ak) (k : Nat) : St := match k with | 0 => s | k + 1 => numS (numA s a k) (nA a k)
set_option maxRecDepth 100000 in
theorem idx_ask4 (a : Ak) (w : World) {k : Nat} (hk : k < 4) :
    (Instr.index 138 (.agg #[.int .i64 a.us, .int .i64 a.se, .int .i64 a.re, .int .i64 a.to]) (.int .i64 k)).run Tryz.prog w = .ok (.int .i64 (nA a k)) w := by
  have hs : ∀ j : Nat, (sizeOf 3).run Tryz.prog w = .ok 1 w := fun _ => by kernel_rfl
  have h1 : (0 : Int) ≤ (k : Int) ∧ (k : Int) < 4 := ⟨by omega, by omega⟩
  obtain rfl | rfl | rfl | rfl : k = 0 ∨ k = 1 ∨ k = 2 ∨ k = 3 := by omega
  all_goals
    simp [Instr.index, run_underlying Tryz.underlying138, asIntOf, hs 0, go_sem, nA]
set_option maxRecDepth 100000 in
set_option maxHeartbeats 2000000 in
theorem bidPutAsk_any {p : Option Addr} {s : St} (a : Ak) (ha : Ok4 a.a0 a.a1 a.a2 a.a3) (w : World) (h : ObjP 134 w p s) :
    Calls Tryz.prog 25 #[.pointer p, akv a] w (DidS 134 p (putA s a) w) := by
  have HNE := Lib.hid (ptr_lt h (Nat.le_refl _))
  have HP : Hid (putA s a = txtS (wideS (numA s a 4) a.a0 a.a1 a.a2 a.a3) a.id) := Lib.hid rfl
  have kB := (Blk.new w 26 (akc a))
  have hG := World.grownBy_alloc w (.cells (akc a).toArray 26) (p.map (·.block))
  have hO := h.below (chain0 w (.cells (akc a).toArray 26))
  clear h
  go_enter Tryz.func25, Tryz.ntmps25
  go_wp2_with fail
  go_loopw [15] (fun n wr => ∃ k : Nat, k ≤ 4 ∧ n = .int .i64 k ∧ ObjP 134 wr p (numA s a k) ∧ w.grownBy wr (p.map (·.block)) ∧ Blk wr w.heap.size 26 (akc a)) (fun n _ => 4 - (intOf n).toNat)
  case atStart => exact ⟨0, by omega, rfl, hO, hG, kB⟩
  case round =>
    clear hO hG kB
    obtain ⟨k, hk, rfl, hO, hG, kB⟩ := hrel
    by_cases hlt : k < 4
    · have hlt' : (k : Int) < 4 := by omega
      have HI := Lib.hid (fun W => idx_ask4 a W hlt)
      have HS : Hid (numA s a (k + 1) = numS (numA s a k) (nA a k)) := Lib.hid rfl
      generalize numA s a k = st at *
      generalize nA a k = x at *
      go_wp2_with (first
        | (refine wpList_indexTo rfl 138 (.tmp 14) (.tmp 15) rfl (some 17) rfl _ (HI.out _) ?_)
        | (go_at_call 24; refine (outNum_any _ _ hO).mono ?_; rintro e W1 ⟨rfl, hO1, hG1⟩))
      go_roundw
      case rel => exact ⟨k + 1, by omega, by go_num, by rw [HS.out]; exact hO1, hG.trans hG1, kB.kept hG1 HNE.out⟩
      case measure => simp [intOf]; omega
    · obtain rfl : k = 4 := by omega
      generalize numA s a 4 = st at *
      obtain ⟨c0, c1, c2, c3, c4, c5, c6, c7, c8⟩ := Blk.c9 kB
      go_wp2_with (first
        | (go_at_call 29; refine (outWide_any ha _ hO).mono ?_; rintro e W1 ⟨rfl, hO1, hG1⟩; replace hO := hO1; replace hG := hG.trans hG1; replace kB := kB.kept hG1 HNE.out; clear c0 c1 c2 c3 c4 c5 c6 c7 c8 hO1 hG1; have c8 := (kB.cell 8).trans rfl)
        | (go_at_call 30; refine (outText_any _ _ hO).mono ?_; rintro e W1 ⟨rfl, hO1, hG1⟩))
      go_end0
      exact ⟨rfl, by rw [HP.out]; exact hO1, hG.trans hG1⟩
end Go.Proofs.YtechcdkakgpnkaaGreat
namespace Go.Proofs.YtechcdkakgpnkaaGreat
open Go.RowKit Go.Shelf
set_option maxRecDepth 100000 in
set_option maxHeartbeats 4000000 in
theorem putBid_any {p : Option Addr} {s : St} (b : Bd) (hb : OkB b) (w : World) (h : ObjP 134 w p s) :
    Calls Tryz.prog 26 #[.pointer p, bdv b] w (DidS 134 p (putD s b) w) := by
  have HNE := Lib.hid (ptr_lt h (Nat.le_refl _))
  have HP : Hid (putD s b = txtS (numS (wideS (putA (numS s b.ro) b.k) b.b0 b.b1 b.b2 b.b3) b.un) b.sg) := Lib.hid rfl
  obtain ⟨hbk, hbb⟩ := hb
  have kB := (Blk.new w 28 (bdc b))
  have hG := World.grownBy_alloc w (.cells (bdc b).toArray 28) (p.map (·.block))
  have hO := h.below (chain0 w (.cells (bdc b).toArray 28))
  clear h
  have c0 := (kB.cell 0).trans rfl
  have c14 := (kB.cell 14).trans rfl
  have c15 := (kB.cell 15).trans rfl
  go_enter Tryz.func26, Tryz.ntmps26
  go_wp2_with (first
    | ((with_reducible refine wpList_loadIf 26 (.tmp 9) ?_ (some 10) ?_ ?_ (akv b.k) ?_ ?_); (· rfl); (· rfl); (· rfl); (· exact load_bk kB))
    | ((with_reducible refine wpList_loadIf 24 (.tmp 13) ?_ (some 14) ?_ ?_ (wv b.b0 b.b1 b.b2 b.b3) ?_ ?_); (· rfl); (· rfl); (· rfl); (· exact load_ba kB))
    | (go_at_call 24; refine (outNum_any _ _ hO).mono ?_; rintro e W1 ⟨rfl, hO1, hG1⟩; replace hO := hO1; replace hG := hG.trans hG1; replace kB := kB.kept hG1 HNE.out; clear hO1 hG1 c0 c14 c15; have c0 := (kB.cell 0).trans rfl; have c14 := (kB.cell 14).trans rfl; have c15 := (kB.cell 15).trans rfl)
    | (go_at_call 25; refine (bidPutAsk_any b.k hbk _ hO).mono ?_; rintro e W1 ⟨rfl, hO1, hG1⟩; replace hO := hO1; replace hG := hG.trans hG1; replace kB := kB.kept hG1 HNE.out; clear hO1 hG1 c0 c14 c15; have c0 := (kB.cell 0).trans rfl; have c14 := (kB.cell 14).trans rfl; have c15 := (kB.cell 15).trans rfl)
    | (go_at_call 29; refine (outWide_any hbb _ hO).mono ?_; rintro e W1 ⟨rfl, hO1, hG1⟩; replace hO := hO1; replace hG := hG.trans hG1; replace kB := kB.kept hG1 HNE.out; clear hO1 hG1 c0 c14 c15; have c0 := (kB.cell 0).trans rfl; have c14 := (kB.cell 14).trans rfl; have c15 := (kB.cell 15).trans rfl)
    | (go_at_call 30; refine (outText_any _ _ hO).mono ?_; rintro e W1 ⟨rfl, hO1, hG1⟩; replace hO := hO1; replace hG := hG.trans hG1; replace kB := kB.kept hG1 HNE.out; clear hO1 hG1 c0 c14 c15; have c0 := (kB.cell 0).trans rfl; have c14 := (kB.cell 14).trans rfl; have c15 := (kB.cell 15).trans rfl))
  go_end0
  exact ⟨rfl, by rw [HP.out]; exact hO, hG⟩
theorem errG_kinds {m : Ms} (h : errG m = 0) : m.kd = 1 ∨ m.kd = 2 ∨ m.kd = 3 := by
  unfold errG at h
  by_cases k1 : m.kd = 1
  · exact .inl k1
  · rw [if_neg k1] at h
    by_cases k2 : m.kd = 2
    · exact .inr (.inl k2)
    · rw [if_neg k2] at h
      by_cases k3 : m.kd = 3
      · exact .inr (.inr k3)
      · rw [if_neg k3] at h; exact absurd h (by decide)
set_option maxRecDepth 100000 in
set_option maxHeartbeats 4000000 in
theorem mailPut_own (m : Ms) (hm : OkM m) (w : World) :
    Calls Tryz.prog 8 #[msv m] w (ToldO (octG m) w) := by
  have HC := Lib.hid (mailCheck_any m hm)
  have HD : Hid (∀ p s W, ObjP 134 W p s → Calls Tryz.prog 26 #[.pointer p, bdv m.bd] W (DidS 134 p (putD s m.bd) W)) := Lib.hid fun p s W h => putBid_any m.bd hm.b W h
  obtain ⟨⟨hma⟩, hmb, hmv, hmf⟩ := hm
  have kB := Blk.new w 34 (msc m)
  have hB := chain0 w (.cells (msc m).toArray 34)
  by_cases h : errG m = 0
  · have HE := Lib.hid h
    have HX := Lib.hid (octG_yes h)
    have hk := errG_kinds h
    clear h
    by_cases k1 : m.kd = 1
    · have HP : Hid (putG m = putA (numS ([], 0) m.kd) m.ak) := Lib.hid (if_pos k1)
      have q1 : (m.kd == 1) = true := by simpa using k1
      clear k1 hk HD
      go_enter Tryz.func8, Tryz.ntmps8
      go_wp2_with (first
        | ((with_reducible refine wpList_loadIf 34 (.tmp 1) ?_ (some 6) ?_ ?_ (msv m) ?_ ?_); (· rfl); (· rfl); (· rfl); (· exact load_ms kB))
        | (go_at_call 22; refine (HC.out _).mono ?_; rw [HE.out]; rintro e w1 ⟨rfl, hb⟩; replace kB := kB.below hb kB.lt; replace hB := chain hB hb; clear hb)
        | (go_at_call 23; refine (outNewO_any _).mono ?_; rintro e w2 ⟨NB, rfl, hN, hO, hb⟩; have hNw := Nat.le_trans hB.size hN; have hBN : some w.heap.size ≠ some NB := (fun e => by cases e; have := kB.lt; omega); replace kB := kB.below hb kB.lt; replace hB := chain hB hb; clear hb hN; have c0 := (kB.cell 0).trans rfl; have c42 := (kB.cell 42).trans rfl)
        | (go_at_call 24; refine (outNum_any _ _ hO).mono ?_; rintro e W1 hd; replace hB := below_did hB hNw hd; obtain ⟨rfl, hO1, hG1⟩ := hd; replace hO := hO1; replace kB := kB.kept hG1 hBN; clear hO1 hG1 c0 c42; have c0 := (kB.cell 0).trans rfl; have c42 := (kB.cell 42).trans rfl)
        | ((with_reducible refine wpList_loadIf 26 (.tmp 21) ?_ (some 22) ?_ ?_ (akv m.ak) ?_ ?_); (· rfl); (· rfl); (· rfl); (· exact load_mak kB))
        | (go_at_call 25; refine (bidPutAsk_any m.ak hma _ hO).mono ?_; rintro e W1 hd; replace hB := below_did hB hNw hd; obtain ⟨rfl, hO1, hG1⟩ := hd; replace hO := hO1; replace kB := kB.kept hG1 hBN; clear hO1 hG1 c0 c42; have c0 := (kB.cell 0).trans rfl; have c42 := (kB.cell 42).trans rfl)
        | (go_at_call 31; refine (outDone_own _ hO).mono ?_; rintro e w4 ⟨sv, rfl, hsv, hb⟩; replace hsv := hsv.mono hB.size (Nat.le_refl _); replace hB := chain hB hb; obtain ⟨va, vm, vc, rfl⟩ := hsv.shape3))
      go_ret2
      exact ⟨.slice va vm vc, by rw [HX.out, HP.out]; rfl, by rw [HX.out, HP.out]; exact hsv, hB⟩
    · have q1 : (m.kd == 1) = false := by simpa using k1
      by_cases k2 : m.kd = 2
      · have HP : Hid (putG m = putD (numS ([], 0) m.kd) m.bd) := Lib.hid (by rw [putG, if_neg k1, if_pos k2])
        have q2 : (m.kd == 2) = true := by simpa using k2
        clear k1 k2 hk
        go_enter Tryz.func8, Tryz.ntmps8
        go_wp2_with (first
          | ((with_reducible refine wpList_loadIf 34 (.tmp 1) ?_ (some 6) ?_ ?_ (msv m) ?_ ?_); (· rfl); (· rfl); (· rfl); (· exact load_ms kB))
          | (go_at_call 22; refine (HC.out _).mono ?_; rw [HE.out]; rintro e w1 ⟨rfl, hb⟩; replace kB := kB.below hb kB.lt; replace hB := chain hB hb; clear hb)
          | (go_at_call 23; refine (outNewO_any _).mono ?_; rintro e w2 ⟨NB, rfl, hN, hO, hb⟩; have hNw := Nat.le_trans hB.size hN; have hBN : some w.heap.size ≠ some NB := (fun e => by cases e; have := kB.lt; omega); replace kB := kB.below hb kB.lt; replace hB := chain hB hb; clear hb hN; have c0 := (kB.cell 0).trans rfl; have c42 := (kB.cell 42).trans rfl)
          | (go_at_call 24; refine (outNum_any _ _ hO).mono ?_; rintro e W1 hd; replace hB := below_did hB hNw hd; obtain ⟨rfl, hO1, hG1⟩ := hd; replace hO := hO1; replace kB := kB.kept hG1 hBN; clear hO1 hG1 c0 c42; have c0 := (kB.cell 0).trans rfl; have c42 := (kB.cell 42).trans rfl)
          | ((with_reducible refine wpList_loadIf 28 (.tmp 27) ?_ (some 28) ?_ ?_ (bdv m.bd) ?_ ?_); (· rfl); (· rfl); (· rfl); (· exact load_mbd kB))
          | (go_at_call 26; refine (HD.out _ _ _ hO).mono ?_; rintro e W1 hd; replace hB := below_did hB hNw hd; obtain ⟨rfl, hO1, hG1⟩ := hd; replace hO := hO1; replace kB := kB.kept hG1 hBN; clear hO1 hG1 c0 c42; have c0 := (kB.cell 0).trans rfl; have c42 := (kB.cell 42).trans rfl)
          | (go_at_call 31; refine (outDone_own _ hO).mono ?_; rintro e w4 ⟨sv, rfl, hsv, hb⟩; replace hsv := hsv.mono hB.size (Nat.le_refl _); replace hB := chain hB hb; obtain ⟨va, vm, vc, rfl⟩ := hsv.shape3))
        go_ret2
        exact ⟨.slice va vm vc, by rw [HX.out, HP.out]; rfl, by rw [HX.out, HP.out]; exact hsv, hB⟩
      · have q2 : (m.kd == 2) = false := by simpa using k2
        have HP : Hid (putG m = txtS (wideS (putV (putI (numS ([], 0) m.kd) m.iv) m.vr) m.f0 m.f1 m.f2 m.f3) m.sg) := Lib.hid (by rw [putG, if_neg k1, if_neg k2]; rfl)
        have q3 : (m.kd == 3) = true := by simp; omega
        clear k1 k2 hk HD
        go_enter Tryz.func8, Tryz.ntmps8
        go_wp2_with (first
          | ((with_reducible refine wpList_loadIf 34 (.tmp 1) ?_ (some 6) ?_ ?_ (msv m) ?_ ?_); (· rfl); (· rfl); (· rfl); (· exact load_ms kB))
          | (go_at_call 22; refine (HC.out _).mono ?_; rw [HE.out]; rintro e w1 ⟨rfl, hb⟩; replace kB := kB.below hb kB.lt; replace hB := chain hB hb; clear hb)
          | (go_at_call 23; refine (outNewO_any _).mono ?_; rintro e w2 ⟨NB, rfl, hN, hO, hb⟩; have hNw := Nat.le_trans hB.size hN; have hBN : some w.heap.size ≠ some NB := (fun e => by cases e; have := kB.lt; omega); replace kB := kB.below hb kB.lt; replace hB := chain hB hb; clear hb hN; have c0 := (kB.cell 0).trans rfl; have c42 := (kB.cell 42).trans rfl)
          | (go_at_call 24; refine (outNum_any _ _ hO).mono ?_; rintro e W1 hd; replace hB := below_did hB hNw hd; obtain ⟨rfl, hO1, hG1⟩ := hd; replace hO := hO1; replace kB := kB.kept hG1 hBN; clear hO1 hG1 c0 c42; have c0 := (kB.cell 0).trans rfl; have c42 := (kB.cell 42).trans rfl)
          | ((with_reducible refine wpList_loadIf 30 (.tmp 33) ?_ (some 34) ?_ ?_ (ivv m.iv) ?_ ?_); (· rfl); (· rfl); (· rfl); (· exact load_miv kB))
          | (go_at_call 27; refine (dealPut_any m.iv _ hO).mono ?_; rintro e W1 hd; replace hB := below_did hB hNw hd; obtain ⟨rfl, hO1, hG1⟩ := hd; replace hO := hO1; replace kB := kB.kept hG1 hBN; clear hO1 hG1 c0 c42; have c0 := (kB.cell 0).trans rfl; have c42 := (kB.cell 42).trans rfl)
          | ((with_reducible refine wpList_loadIf 32 (.tmp 37) ?_ (some 38) ?_ ?_ (svv m.vr) ?_ ?_); (· rfl); (· rfl); (· rfl); (· exact load_mvr kB))
          | (go_at_call 28; refine (dealPutVar_any m.vr hmv _ hO).mono ?_; rintro e W1 hd; replace hB := below_did hB hNw hd; obtain ⟨rfl, hO1, hG1⟩ := hd; replace hO := hO1; replace kB := kB.kept hG1 hBN; clear hO1 hG1 c0 c42; have c0 := (kB.cell 0).trans rfl; have c42 := (kB.cell 42).trans rfl)
          | ((with_reducible refine wpList_loadIf 24 (.tmp 41) ?_ (some 42) ?_ ?_ (wv m.f0 m.f1 m.f2 m.f3) ?_ ?_); (· rfl); (· rfl); (· rfl); (· exact load_mfe kB))
          | (go_at_call 29; refine (outWide_any hmf _ hO).mono ?_; rintro e W1 hd; replace hB := below_did hB hNw hd; obtain ⟨rfl, hO1, hG1⟩ := hd; replace hO := hO1; replace kB := kB.kept hG1 hBN; clear hO1 hG1 c0 c42; have c0 := (kB.cell 0).trans rfl; have c42 := (kB.cell 42).trans rfl)
          | (go_at_call 30; refine (outText_any _ _ hO).mono ?_; rintro e W1 hd; replace hB := below_did hB hNw hd; obtain ⟨rfl, hO1, hG1⟩ := hd; replace hO := hO1; replace kB := kB.kept hG1 hBN; clear hO1 hG1 c0 c42; have c0 := (kB.cell 0).trans rfl; have c42 := (kB.cell 42).trans rfl)
          | (go_at_call 31; refine (outDone_own _ hO).mono ?_; rintro e w4 ⟨sv, rfl, hsv, hb⟩; replace hsv := hsv.mono hB.size (Nat.le_refl _); replace hB := chain hB hb; obtain ⟨va, vm, vc, rfl⟩ := hsv.shape3))
        go_ret2
        exact ⟨.slice va vm vc, by rw [HX.out, HP.out]; rfl, by rw [HX.out, HP.out]; exact hsv, hB⟩
  · have HX := Lib.hid (octG_no h)
    have q1 : (errG m != 0) = true := by simpa using h
    have q2 : (errG m == 0) = false := by simpa using h
    clear h HD
    go_enter Tryz.func8, Tryz.ntmps8
    go_wp2_with (first
      | ((with_reducible refine wpList_loadIf 34 (.tmp 1) ?_ (some 6) ?_ ?_ (msv m) ?_ ?_); (· rfl); (· rfl); (· rfl); (· exact load_ms kB))
      | (go_at_call 22; refine (HC.out _).mono ?_; rintro e w1 ⟨rfl, hb⟩; replace kB := kB.below hb kB.lt; replace hB := chain hB hb; clear hb))
    go_ret2
    exact ⟨.slice none 0 0, by rw [HX.out]; rfl, by rw [HX.out]; exact ⟨none, 0, rfl, Nat.le_refl 0, .inl rfl⟩, hB⟩
end Go.Proofs.YtechcdkakgpnkaaGreat
namespace Go.Proofs
open Go.Shelf
open Go.RowKit in
open Go.RowKit in
open Go.RowKit in
open Go.RowKit in
open Go.RowKit in
def Tryz.lays156_ren : Go.Shelf.Ren := ⟨fun | 156 => 105 | 165 => 153 | 166 => 154 | 169 => 155 | 240 => 192 | 241 => 193 | 276 => 214 | 277 => 215 | n => n, fun | 31 => 157 | 9 => 9 | 3 => 3 | 4 => 4 | 0 => 0 | 20 => 20 | 72 => 225 | 76 => 228 | 70 => 223 | 37 => 35 | 75 => 227 | 127 => 270 | 164 => 284 | 5 => 5 | 80 => 230 | n => n, fun | n => n⟩
theorem Tryz.lays156 : Go.Proofs.Lays.n156 Tryz.prog Tryz.lays156_ren := {
  mixed := by kernel_rfl
  f156 := Tryz.func105.trans (congrArg some (by kernel_rfl))
  f165 := Tryz.func153.trans (congrArg some (by kernel_rfl))
  f166 := Tryz.func154.trans (congrArg some (by kernel_rfl))
  f169 := Tryz.func155.trans (congrArg some (by kernel_rfl))
  f240 := Tryz.func192.trans (congrArg some (by kernel_rfl))
  f241 := Tryz.func193.trans (congrArg some (by kernel_rfl))
  f276 := Tryz.func214.trans (congrArg some (by kernel_rfl))
  f277 := Tryz.func215.trans (congrArg some (by kernel_rfl))
  t0 := Tryz.underlying0
  a0 := Tryz.isAgg0
  z0 := Tryz.sizeOf0
  v0 := Tryz.zeroValue0
  t3 := Tryz.underlying3
  a3 := Tryz.isAgg3
  z3 := Tryz.sizeOf3
  v3 := Tryz.zeroValue3
  t4 := Tryz.underlying4
  a4 := Tryz.isAgg4
  z4 := Tryz.sizeOf4
  v4 := Tryz.zeroValue4
  t9 := Tryz.underlying9
  a9 := Tryz.isAgg9
  z9 := Tryz.sizeOf9
  v9 := Tryz.zeroValue9
  t20 := Tryz.underlying20
  a20 := Tryz.isAgg20
  z20 := Tryz.sizeOf20
  v20 := Tryz.zeroValue20
  t31 := Tryz.underlying157
  a31 := Tryz.isAgg157
  z31 := Tryz.sizeOf157
  v31 := Tryz.zeroValue157
  t37 := Tryz.underlying35
  a37 := Tryz.isAgg35
  z37 := Tryz.sizeOf35
  v37 := Tryz.zeroValue35
  t70 := Tryz.underlying223
  a70 := Tryz.isAgg223
  z70 := Tryz.sizeOf223
  v70 := Tryz.zeroValue223
  t72 := Tryz.underlying225
  a72 := Tryz.isAgg225
  z72 := Tryz.sizeOf225
  v72 := Tryz.zeroValue225
  t75 := Tryz.underlying227
  a75 := Tryz.isAgg227
  z75 := Tryz.sizeOf227
  v75 := Tryz.zeroValue227
  t76 := Tryz.underlying228
  a76 := Tryz.isAgg228
  z76 := Tryz.sizeOf228
  v76 := Tryz.zeroValue228
  t127 := Tryz.underlying270
  a127 := Tryz.isAgg270
  z127 := Tryz.sizeOf270
  v127 := Tryz.zeroValue270
  t164 := Tryz.underlying284
  a164 := Tryz.isAgg284
  z164 := Tryz.sizeOf284
  v164 := Tryz.zeroValue284 }
theorem Tryz.Builder_Extra_156 : Builder.Extra Tryz.prog Tryz.lays156_ren := {
  sizeBuilder := by kernel_rfl
  liesBuilder := by kernel_rfl
  t5 := Tryz.underlying5
  a5 := Tryz.isAgg5
  z5 := Tryz.sizeOf5
  v5 := Tryz.zeroValue5
  infoByte := by kernel_rfl
  cellsByte := by kernel_rfl
  sizeByte := by kernel_rfl
  neB5 := by decide }
open Go.RowKit in
open Go.RowKit in
theorem Tryz.strings_Join (bk o c : Nat) (xs : List ByteArray) (sep : ByteArray) (w : World) (hcells : ∀ (j : Nat) x, xs[j]? = some x → w.cell? ⟨bk, o + j, none⟩ = some (.string x)) (hbk : bk < w.heap.size) (hN : xs.length ≤ 140737488355328) (hcap : xs.length ≤ c) (hlen : (Lib.join (xs.map (·.data.toList)) sep.data.toList).length ≤ 140737488355328) :
    Calls Tryz.prog 105 #[.slice (some ⟨bk, o, none⟩) xs.length c, .string sep] w fun e w' => e = .returned (.string ⟨(Lib.join (xs.map (·.data.toList)) sep.data.toList).toArray⟩) ∧ Below w.heap.size w w' := Any.strings_Join Tryz.lays156 Tryz.Builder_Extra_156 bk o c xs sep w hcells hbk hN hcap hlen
end Go.Proofs
namespace Go.Proofs.YtechcdkakgpnkaaGreat
open Go.RowKit Go.Shelf
theorem join_flat (xs : List (List UInt8)) : Lib.join xs [] = xs.flatten := by
  cases xs with
  | nil => rfl
  | cons x r =>
    rw [Lib.join_cons]
    unfold Lib.joinTail
    simp
theorem joinAll (zs : List ByteArray) (g c : Nat) (w : World) (hg : g < w.heap.size) (hn : zs.length ≤ 1000) (hc : zs.length ≤ c) (hz : ∀ x ∈ zs, x.size ≤ 8) (hcells : ∀ k x, zs[k]? = some x → w.cell? ⟨g, k, none⟩ = some (.string x)) :
    Calls Tryz.prog 105 #[.slice (some ⟨g, 0, none⟩) zs.length c, .string ⟨#[]⟩] w fun e W' => e = .returned (.string (catL zs)) ∧ Below w.heap.size w W' := by
  have e : Lib.join (zs.map (·.data.toList)) (⟨#[]⟩ : ByteArray).data.toList = (catL zs).data.toList := by
    rw [catL_list, show (⟨#[]⟩ : ByteArray).data.toList = [] from rfl, join_flat]
  have hl := catL_le zs 8 hz
  have h := Tryz.strings_Join g 0 c zs ⟨#[]⟩ w (fun j x hj => by rw [Nat.zero_add]; exact hcells j x hj) hg (by omega) hc (by rw [e]; show (catL zs).size ≤ _; omega)
  rw [e] at h
  exact h
def GotSig (s : ByteArray) (n : Nat) (l : List UInt8) (w : World) (e : Ending) (W' : World) : Prop := e = .returned (.tuple #[.string (sigB s n l), .agg #[.string s, .int .i64 ((n : Int) + 1)], .int .i64 0]) ∧ Below w.heap.size w W'
set_option maxRecDepth 100000 in
set_option maxHeartbeats 8000000 in
theorem mssSign_any (s : ByteArray) (hs : s.size ≤ 140737488352000) (n : Nat) (hn : n < 8) (l : List UInt8) (tx : Value) (w : World) (hreach : l.length ≤ 140737488353000) (htx : BSl 0 w.heap.size w tx l) :
    Calls Tryz.prog 55 #[.agg #[.string s, .int .i64 (n : Int)], tx] w (GotSig s n l w) := by
  have hmx : Tryz.prog.follows .mixedOrders = true := by kernel_rfl
  have hp : Hid (sigB s n l = oneB n ++ catL (sigL s n l)) := Lib.hid rfl
  have hS1 := sign_any s hs (n : Int) l tx
  rw [lfN_small (by omega)] at hS1
  have HSG := Lib.hid hS1
  have HPA := Lib.hid (fun w => path_any s hs (n : Int) w)
  have HSL : Hid (sigL s n l = signL s n l ++ pathL s (n : Int)) := Lib.hid rfl
  have HPL := Lib.hid (pathL_length (s := s) hn)
  have HQL := Lib.hid (signL_length s n l)
  have HGL := Lib.hid (sigL_length (s := s) l hn)
  have HM := Lib.hid (fun x (h : x ∈ sigL s n l) => Nat.le_of_eq (sigL_size h))
  have HN := Lib.hid hn
  have h0 : ¬ (n : Int) < 0 := by omega
  have h8 : ¬ 8 < (n : Int) := by omega
  have h9 : ((n : Int) == 8) = false := by simp; omega
  have hc1 : ¬ 9223372036854775807 < (oneB n).size + (catL (sigL s n l)).size := by
    have := catL_le (sigL s n l) 8 HM.out
    rw [HGL.out] at this
    rw [oneB_size]
    omega
  have HC1 := Lib.hid hc1
  have HNum := Lib.hid (fun w => numO_any (n : Int) 1 (by omega) (by omega) w)
  have h1' : octs (two (n : Int)) (clamp 1) = [UInt8.ofNat n] := octs_one (by omega)
  have H1' := Lib.hid h1'
  have HO : Hid ((⟨([UInt8.ofNat n] : List UInt8).toArray⟩ : ByteArray) = oneB n) := Lib.hid rfl
  have htx0 := htx
  obtain ⟨ta, tc, rfl⟩ := bsl_slice htx
  clear htx hS1 hn hc1 h1'
  generalize sigL s n l = Z at *
  generalize signL s n l = zs1 at *
  generalize pathL s (n : Int) = zs2 at *
  generalize hcz : catL Z = cz at *
  have HCZ := Lib.hid hcz
  clear hcz
  go_enter Tryz.func55, Tryz.ntmps55
  go_wp2_with fail
  generalize hW5 : World.alloc _ _ = W5
  have kb : Blk W5 w.heap.size 119 [.string s, .int .i64 (n : Int)] := by rw [← hW5]; exact (Blk.new w _ [.string s, .int .i64 (n : Int)]).alloc _
  have kr : Blk W5 (w.heap.size + 1) 119 [.string ⟨#[]⟩, .int .i64 0] := by rw [← hW5]; exact Blk.new' (vs := [.string ⟨#[]⟩, .int .i64 0]) (by simp)
  have hb0 : Below w.heap.size w W5 := by rw [← hW5]; exact chainA (chain0 _ _) _
  have hz5 : W5.heap.size = w.heap.size + 2 := by rw [← hW5]; simp
  clear hW5
  have c0 : W5.cell? ⟨w.heap.size, 0, none⟩ = some (.string s) := kb.cell 0
  have c1 : W5.cell? ⟨w.heap.size, 1, none⟩ = some (.int .i64 (n : Int)) := kb.cell 1
  have htx5 := (htx0.below hb0 (Nat.le_refl _)).mono (Nat.le_refl _) hb0.size
  have hbw : w.heap.size < W5.heap.size := by omega
  have hrw : w.heap.size + 1 < W5.heap.size := by omega
  clear htx0 kb hz5
  generalize hBk : w.heap.size = B at *
  generalize hRk : B + 1 = R at *
  have HBR : Hid (B ≠ R) := Lib.hid (by omega)
  have HRB : Hid (B ≤ R) := Lib.hid (by omega)
  clear hRk
  refine wp_region_held_drew (S := fun W => Below W5.heap.size W5 W) hmx (Below.refl _ W5).drew ?_
  intro hS
  generalize W5.drew = Y at *
  refine' wpAnyH_take (i := 0) (oi := _) (v := _) ?hi1 (by kernel_rfl) (by kernel_rfl) (by kernel_rfl) ?hQ1 (Or.inl ⟨?hw1, ?hy1⟩) hS ?rest1
  case hi1 => simp only [List.getElem?_toArray, List.getElem?_cons_zero]; rfl
  case hQ1 => exact fun _ _ _ h => h
  case hw1 => rfl
  case hy1 => intro W' hS'; go_simp; with_reducible rfl
  try simp only [Act.put, List.setIfInBounds_toArray, List.set_cons_zero, List.set_cons_succ]
  refine' wpAnyH_take (i := 1) (oi := _) (v := _) ?hi2 (by kernel_rfl) (by kernel_rfl) (by kernel_rfl) ?hQ2 (Or.inl ⟨?hw2, ?hy2⟩) hS ?rest2
  case hi2 => simp only [List.getElem?_toArray, List.getElem?_cons_succ, List.getElem?_cons_zero]; rfl
  case hQ2 => exact fun _ _ _ h => h
  case hw2 => rfl
  case hy2 => intro W' hS'; have hc := (hS'.cell (p := ⟨B, 0, none⟩) hbw).trans c0; go_simp; with_reducible rfl
  try simp only [Act.put, List.setIfInBounds_toArray, List.set_cons_zero, List.set_cons_succ]
  refine' wpAnyH_take (i := 2) (oi := _) (v := _) ?hi3 (by kernel_rfl) (by kernel_rfl) (by kernel_rfl) ?hQ3 (Or.inl ⟨?hw3, ?hy3⟩) hS ?rest3
  case hi3 => simp only [List.getElem?_toArray, List.getElem?_cons_succ, List.getElem?_cons_zero]; rfl
  case hQ3 => exact fun _ _ _ h => h
  case hw3 => rfl
  case hy3 => intro W' hS'; go_simp; with_reducible rfl
  try simp only [Act.put, List.setIfInBounds_toArray, List.set_cons_zero, List.set_cons_succ]
  refine' wpAnyH_take (i := 3) (oi := _) (v := _) ?hi4 (by kernel_rfl) (by kernel_rfl) (by kernel_rfl) ?hQ4 (Or.inl ⟨?hw4, ?hy4⟩) hS ?rest4
  case hi4 => simp only [List.getElem?_toArray, List.getElem?_cons_succ, List.getElem?_cons_zero]; rfl
  case hQ4 => exact fun _ _ _ h => h
  case hw4 => rfl
  case hy4 => intro W' hS'; have hc := (hS'.cell (p := ⟨B, 1, none⟩) hbw).trans c1; go_simp; with_reducible rfl
  try simp only [Act.put, List.setIfInBounds_toArray, List.set_cons_zero, List.set_cons_succ]
  refine' wpAnyH_take (i := 4) (oi := _) (v := _) ?hi5 (by kernel_rfl) (by kernel_rfl) (by kernel_rfl) ?hQ5 (Or.inl ⟨?hw5, ?hy5⟩) hS ?rest5
  case hi5 => simp only [List.getElem?_toArray, List.getElem?_cons_succ, List.getElem?_cons_zero]; rfl
  case hQ5 => exact fun _ _ _ h => h
  case hw5 => rfl
  case hy5 => intro W' hS'; go_simp; with_reducible rfl
  try simp only [Act.put, List.setIfInBounds_toArray, List.set_cons_zero, List.set_cons_succ]
  refine' wpAnyH_take (i := 6) (oi := _) (v := _) ?hi6 (by kernel_rfl) (by kernel_rfl) (by kernel_rfl) ?hQ6 (Or.inl ⟨?hw6, ?hy6⟩) hS ?rest6
  case hi6 => simp only [List.getElem?_toArray, List.getElem?_cons_succ, List.getElem?_cons_zero]; rfl
  case hQ6 => exact fun _ _ _ h => h
  case hw6 => rfl
  case hy6 => intro W' hS'; go_simp; with_reducible rfl
  try simp only [Act.put, List.setIfInBounds_toArray, List.set_cons_zero, List.set_cons_succ]
  refine' wpAnyH_take (i := 7) (oi := _) (v := _) ?hi7 (by kernel_rfl) (by kernel_rfl) (by kernel_rfl) ?hQ7 (Or.inl ⟨?hw7, ?hy7⟩) hS ?rest7
  case hi7 => simp only [List.getElem?_toArray, List.getElem?_cons_succ, List.getElem?_cons_zero]; rfl
  case hQ7 => exact fun _ _ _ h => h
  case hw7 => rfl
  case hy7 => intro W' hS'; have hc := (hS'.cell (p := ⟨B, 0, none⟩) hbw).trans c0; go_simp; with_reducible rfl
  try simp only [Act.put, List.setIfInBounds_toArray, List.set_cons_zero, List.set_cons_succ]
  refine' wpAnyH_take (i := 8) (oi := _) (v := _) ?hi8 (by kernel_rfl) (by kernel_rfl) (by kernel_rfl) ?hQ8 (Or.inl ⟨?hw8, ?hy8⟩) hS ?rest8
  case hi8 => simp only [List.getElem?_toArray, List.getElem?_cons_succ, List.getElem?_cons_zero]; rfl
  case hQ8 => exact fun _ _ _ h => h
  case hw8 => rfl
  case hy8 => intro W' hS'; go_simp; with_reducible rfl
  try simp only [Act.put, List.setIfInBounds_toArray, List.set_cons_zero, List.set_cons_succ]
  refine' wpAnyH_take (i := 9) (oi := _) (v := _) ?hi9 (by kernel_rfl) (by kernel_rfl) (by kernel_rfl) ?hQ9 (Or.inl ⟨?hw9, ?hy9⟩) hS ?rest9
  case hi9 => simp only [List.getElem?_toArray, List.getElem?_cons_succ, List.getElem?_cons_zero]; rfl
  case hQ9 => exact fun _ _ _ h => h
  case hw9 => rfl
  case hy9 => intro W' hS'; have hc := (hS'.cell (p := ⟨B, 1, none⟩) hbw).trans c1; go_simp; with_reducible rfl
  try simp only [Act.put, List.setIfInBounds_toArray, List.set_cons_zero, List.set_cons_succ]
  refine wpAnyH_ready (rs := [5]) (by kernel_rfl) (by simp) ?_
  refine' AllReadyH.cons (o := _) ?ho10 (fun K hK => ?st10) AllReadyH.nil
  case ho10 => simp only [List.getElem?_toArray, List.getElem?_cons_succ, List.getElem?_cons_zero]; rfl
  case st10 =>
    go_simp
    refine (HSG.out _ hreach ((htx5.below hS (Nat.le_refl _)).mono (Nat.le_refl _) hS.size)).mono ?_
    rintro e Y1 ⟨v1, rfl, hown1, hb⟩
    obtain ⟨g1, d1, rfl, hg1, hx1⟩ := textCells HQL.out (by omega) hown1
    have HX1 := Lib.hid hx1
    clear hx1 hown1
    refine hK.out _ _ (hS.trans (hb.mono hS.size)) (fun hS => ?_)
    clear hK K
    try simp only [Act.put, List.setIfInBounds_toArray, List.set_cons_zero, List.set_cons_succ]
    clear hb
    refine wpAnyH_ready (rs := [10]) (by kernel_rfl) (by simp) ?_
    refine' AllReadyH.cons (o := _) ?ho11 (fun K hK => ?st11) AllReadyH.nil
    case ho11 => simp only [List.getElem?_toArray, List.getElem?_cons_succ, List.getElem?_cons_zero]; rfl
    case st11 =>
      go_simp
      refine (HPA.out _).mono ?_
      rintro e Y2 ⟨v2, rfl, hown2, hb⟩
      rw [HPL.out] at hown2
      obtain ⟨g2, d2, rfl, hg2, hx2⟩ := textCells HPL.out (by omega) hown2
      have HX2 := Lib.hid hx2
      clear hx2 hown2
      refine hK.out _ _ (hS.trans (hb.mono hS.size)) (fun hS => ?_)
      clear hK K
      try simp only [Act.put, List.setIfInBounds_toArray, List.set_cons_zero, List.set_cons_succ]
      replace HX1 := Lib.hid (fun k x hk => (hb.cell (p := ⟨g1, k, none⟩) hg1).trans (HX1.out k x hk))
      replace hg1 := Nat.lt_of_lt_of_le hg1 hb.size
      clear hb
      refine wpAnyH_ready (rs := [11]) (by kernel_rfl) (by simp) ?_
      refine' AllReadyH.cons (o := _) ?ho12 (fun K hK => ?st12) AllReadyH.nil
      case ho12 => simp only [List.getElem?_toArray, List.getElem?_cons_succ, List.getElem?_cons_zero]; rfl
      case st12 =>
        go_simp
        refine hK.out _ _ (hS.alloc hS.size _) (fun hS => ?_)
        clear hK K
        try simp only [Act.put, List.setIfInBounds_toArray, List.set_cons_zero, List.set_cons_succ]
        have hb : Below Y2.heap.size Y2 (Y2.alloc (.cells #[.slice (some ⟨g1, 0, none⟩) 15 d1, .slice (some ⟨g2, 0, none⟩) 3 d2] 157)) := chain0 _ _
        have kk : Blk (Y2.alloc (.cells #[.slice (some ⟨g1, 0, none⟩) 15 d1, .slice (some ⟨g2, 0, none⟩) 3 d2] 157)) Y2.heap.size 157 [.slice (some ⟨g1, 0, none⟩) 15 d1, .slice (some ⟨g2, 0, none⟩) 3 d2] := Blk.new Y2 _ _
        replace HX1 := Lib.hid (fun k x hk => (hb.cell (p := ⟨g1, k, none⟩) hg1).trans (HX1.out k x hk))
        replace hg1 := Nat.lt_of_lt_of_le hg1 hb.size
        replace HX2 := Lib.hid (fun k x hk => (hb.cell (p := ⟨g2, k, none⟩) hg2).trans (HX2.out k x hk))
        replace hg2 := Nat.lt_of_lt_of_le hg2 hb.size
        clear hb
        generalize (Y2.alloc (.cells #[.slice (some ⟨g1, 0, none⟩) 15 d1, .slice (some ⟨g2, 0, none⟩) 3 d2] 157)) = Y3 at *
        generalize Y2.heap.size = gk at *
        refine wpAnyH_ready (rs := [12]) (by kernel_rfl) (by simp) ?_
        refine' AllReadyH.cons (o := _) ?ho13 (fun K hK => ?st13) AllReadyH.nil
        case ho13 => simp only [List.getElem?_toArray, List.getElem?_cons_succ, List.getElem?_cons_zero]; rfl
        case st13 =>
          go_simp
          refine (concatT_any gk g1 15 d1 g2 3 d2 (zs1.map tv) (zs2.map tv) (by rw [List.length_map, HQL.out]) (by rw [List.length_map, HPL.out]) (by omega) (by omega) (by omega) (by omega) Y3 kk hg1 hg2 (fun k x hk => by rw [List.getElem?_map] at hk; obtain ⟨y, hy, rfl⟩ := Option.map_eq_some_iff.1 hk; exact HX1.out k y hy) (fun k x hk => by rw [List.getElem?_map] at hk; obtain ⟨y, hy, rfl⟩ := Option.map_eq_some_iff.1 hk; exact HX2.out k y hy) (tv_cells zs1) (tv_cells zs2)).mono ?_
          rintro e Y4 ⟨v4, rfl, hown4, hb⟩
          rw [← List.map_append, ← HSL.out] at hown4
          obtain ⟨g4, d4, rfl, hg4, hx4⟩ := textCells HGL.out (by omega) hown4
          have hd4 : 18 ≤ d4 := by
            obtain ⟨_, h0 | ⟨g', cap', cur', e', _, _, hnc, _⟩⟩ := hown4
            · exact absurd h0.2 (by decide)
            · cases e'; exact hnc
          have HX4 := Lib.hid hx4
          clear hx4 hown4
          refine hK.out _ _ (hS.trans (hb.mono hS.size)) (fun hS => ?_)
          clear hK K
          try simp only [Act.put, List.setIfInBounds_toArray, List.set_cons_zero, List.set_cons_succ]
          clear hb kk HX1 HX2 hg1 hg2
          refine wpAnyH_ready (rs := [13]) (by kernel_rfl) (by simp) ?_
          refine' AllReadyH.cons (o := _) ?ho14 (fun K hK => ?st14) AllReadyH.nil
          case ho14 => simp only [List.getElem?_toArray, List.getElem?_cons_succ, List.getElem?_cons_zero]; rfl
          case st14 =>
            go_simp
            refine hK.out _ _ hS (fun hS => ?_)
            clear hK K
            try simp only [Act.put, List.setIfInBounds_toArray, List.set_cons_zero, List.set_cons_succ]
            refine wpAnyH_done (by kernel_rfl) ?_ _
            go_wp2_with fail
            have hBY := hS.size
            have C0 := (hS.cell (p := ⟨B, 0, none⟩) hbw).trans c0
            have C1 := (hS.cell (p := ⟨B, 1, none⟩) hbw).trans c1
            have KR : Blk Y4 R 119 [.string ⟨#[]⟩, .int .i64 0] := kr.below hS hrw
            have hbW : B < Y4.heap.size := by omega
            have hrW : R < Y4.heap.size := by omega
            have hB4 : Below B w Y4 := hb0.trans (hS.mono (by rw [← hBk]; exact hb0.size))
            clear hS hBY
            refine wp_region_held_drew (S := fun W => Below Y4.heap.size Y4 W) hmx (Below.refl _ Y4).drew ?_
            intro hS
            generalize Y4.drew = V at *
            refine' wpAnyH_take (i := 0) (oi := _) (v := _) ?hi15 (by kernel_rfl) (by kernel_rfl) (by kernel_rfl) ?hQ15 (Or.inl ⟨?hw15, ?hy15⟩) hS ?rest15
            case hi15 => simp only [List.getElem?_toArray, List.getElem?_cons_zero]; rfl
            case hQ15 => exact fun _ _ _ h => h
            case hw15 => rfl
            case hy15 => intro W' hS'; go_simp; with_reducible rfl
            try simp only [Act.put, List.setIfInBounds_toArray, List.set_cons_zero, List.set_cons_succ]
            refine' wpAnyH_take (i := 1) (oi := _) (v := _) ?hi16 (by kernel_rfl) (by kernel_rfl) (by kernel_rfl) ?hQ16 (Or.inl ⟨?hw16, ?hy16⟩) hS ?rest16
            case hi16 => simp only [List.getElem?_toArray, List.getElem?_cons_succ, List.getElem?_cons_zero]; rfl
            case hQ16 => exact fun _ _ _ h => h
            case hw16 => rfl
            case hy16 => intro W' hS'; have hc := (hS'.cell (p := ⟨B, 1, none⟩) hbW).trans C1; go_simp; with_reducible rfl
            try simp only [Act.put, List.setIfInBounds_toArray, List.set_cons_zero, List.set_cons_succ]
            refine' wpAnyH_take (i := 4) (oi := _) (v := _) ?hi17 (by kernel_rfl) (by kernel_rfl) (by kernel_rfl) ?hQ17 (Or.inl ⟨?hw17, ?hy17⟩) hS ?rest17
            case hi17 => simp only [List.getElem?_toArray, List.getElem?_cons_succ, List.getElem?_cons_zero]; rfl
            case hQ17 => exact fun _ _ _ h => h
            case hw17 => rfl
            case hy17 => intro W' hS'; go_simp; with_reducible rfl
            try simp only [Act.put, List.setIfInBounds_toArray, List.set_cons_zero, List.set_cons_succ]
            refine wpAnyH_ready (rs := [2]) (by kernel_rfl) (by simp) ?_
            refine' AllReadyH.cons (o := _) ?ho18 (fun K hK => ?st18) AllReadyH.nil
            case ho18 => simp only [List.getElem?_toArray, List.getElem?_cons_succ, List.getElem?_cons_zero]; rfl
            case st18 =>
              go_simp
              refine (HNum.out _).mono ?_
              rintro e V1 ⟨v5, rfl, hown5, hb⟩
              rw [H1'.out] at hown5
              have hv5 := (BSl.of_own hown5).mono (Nat.zero_le _) (Nat.le_refl _)
              obtain ⟨a5, d5, rfl⟩ := bsl_slice hv5
              change BSl 0 V1.heap.size V1 (.slice a5 1 d5) [UInt8.ofNat n] at hv5
              clear hown5
              refine hK.out _ _ (hS.trans (hb.mono hS.size)) (fun hS => ?_)
              clear hK K
              try simp only [Act.put, List.setIfInBounds_toArray, List.set_cons_zero, List.set_cons_succ]
              replace HX4 := Lib.hid (fun k x hk => (hS.cell (p := ⟨g4, k, none⟩) hg4).trans (HX4.out k x hk))
              have hg5 := Nat.lt_of_lt_of_le hg4 hS.size
              clear hb
              refine wpAnyH_mono (S' := fun W => Below V1.heap.size V1 W) (fun W h => hS.trans (h.mono hS.size)) _ _ _ _ ?_
              have hS0 := hS
              replace hS : Below V1.heap.size V1 V1 := Below.refl _ _
              refine' wpAnyH_take (i := 3) (oi := _) (v := _) ?hi19 (by kernel_rfl) (by kernel_rfl) (by kernel_rfl) ?hQ19 (Or.inl ⟨?hw19, ?hy19⟩) hS ?rest19
              case hi19 => simp only [List.getElem?_toArray, List.getElem?_cons_succ, List.getElem?_cons_zero]; rfl
              case hQ19 => exact fun _ _ _ h => h
              case hw19 => rfl
              case hy19 => intro W' hS'; have hcv := run_string (P := Tryz.prog) 35 5 9 Tryz.underlying35 Tryz.underlying5 Tryz.underlying9 W' (hv5.below hS' (Nat.le_refl _)); rw [HO.out] at hcv; go_simp; with_reducible rfl
              try simp only [Act.put, List.setIfInBounds_toArray, List.set_cons_zero, List.set_cons_succ]
              clear hv5
              refine wpAnyH_ready (rs := [5]) (by kernel_rfl) (by simp) ?_
              refine' AllReadyH.cons (o := _) ?ho20 (fun K hK => ?st20) AllReadyH.nil
              case ho20 => simp only [List.getElem?_toArray, List.getElem?_cons_succ, List.getElem?_cons_zero]; rfl
              case st20 =>
                go_simp
                have hj := joinAll Z g4 d4 V1 hg5 (by rw [HGL.out]; omega) (by rw [HGL.out]; exact hd4) HM.out HX4.out
                rw [HGL.out, HCZ.out] at hj
                refine hj.mono ?_
                rintro e V2 ⟨rfl, hb⟩
                refine hK.out _ _ hb (fun hS => ?_)
                clear hK K
                try simp only [Act.put, List.setIfInBounds_toArray, List.set_cons_zero, List.set_cons_succ]
                clear hb HX4
                have hc1 := HC1.out
                refine' wpAnyH_take (i := 6) (oi := _) (v := _) ?hi21 (by kernel_rfl) (by kernel_rfl) (by kernel_rfl) ?hQ21 (Or.inl ⟨?hw21, ?hy21⟩) hS ?rest21
                case hi21 => simp only [List.getElem?_toArray, List.getElem?_cons_succ, List.getElem?_cons_zero]; rfl
                case hQ21 => exact fun _ _ _ h => h
                case hw21 => rfl
                case hy21 => intro W' hS'; go_simp; with_reducible rfl
                try simp only [Act.put, List.setIfInBounds_toArray, List.set_cons_zero, List.set_cons_succ]
                refine wpAnyH_ready (rs := [7]) (by kernel_rfl) (by simp) ?_
                refine' AllReadyH.cons (o := _) ?ho22 (fun K hK => ?st22) AllReadyH.nil
                case ho22 => simp only [List.getElem?_toArray, List.getElem?_cons_succ, List.getElem?_cons_zero]; rfl
                case st22 =>
                  go_simp
                  refine hK.out _ _ hS (fun hS => ?_)
                  clear hK K
                  try simp only [Act.put, List.setIfInBounds_toArray, List.set_cons_zero, List.set_cons_succ]
                  refine wpAnyH_done (by kernel_rfl) ?_ _
                  rw [← hp.out]
                  have hB5 : Below B w V2 := hB4.trans ((hS0.trans (hS.mono hS0.size)).mono (by omega))
                  replace C0 := ((hS0.trans (hS.mono hS0.size)).cell (p := ⟨B, 0, none⟩) hbW).trans C0
                  replace C1 := ((hS0.trans (hS.mono hS0.size)).cell (p := ⟨B, 1, none⟩) hbW).trans C1
                  replace KR : Blk V2 R 119 [.string ⟨#[]⟩, .int .i64 0] := KR.below (hS0.trans (hS.mono hS0.size)) hrW
                  have hbV : B < V2.heap.size := Nat.lt_of_lt_of_le hbW (hS0.trans (hS.mono hS0.size)).size
                  clear hS hS0 hB4 hg5 hc1
                  have hwn : IntKind.i64.wrap ((n : Int) + 1) = (n : Int) + 1 := by rw [IntKind.wrap_i64]; have := HN.out; omega
                  generalize hsg : sigB s n l = sg at *
                  have HSB := Lib.hid hsg
                  clear hsg
                  go_wp2_with fail
                  refine wp_region_held_drew (S := fun W => W.cell? ⟨B, 0, none⟩ = some (.string s) ∧ W.cell? ⟨B, 1, none⟩ = some (.int .i64 (n : Int))) hmx ⟨C0, C1⟩ ?_
                  intro hS
                  replace hB5 : Below B w V2.drew := hB5.drew
                  replace KR : Blk V2.drew R 119 [.string ⟨#[]⟩, .int .i64 0] := KR
                  generalize V2.drew = U at *
                  refine' wpAnyH_take (i := 0) (oi := _) (v := _) ?hi23 (by kernel_rfl) (by kernel_rfl) (by kernel_rfl) ?hQ23 (Or.inl ⟨?hw23, ?hy23⟩) hS ?rest23
                  case hi23 => simp only [List.getElem?_toArray, List.getElem?_cons_zero]; rfl
                  case hQ23 => exact fun _ _ _ h => h
                  case hw23 => rfl
                  case hy23 => intro W' hS'; go_simp; with_reducible rfl
                  try simp only [Act.put, List.setIfInBounds_toArray, List.set_cons_zero, List.set_cons_succ]
                  refine' wpAnyH_take (i := 1) (oi := _) (v := _) ?hi24 (by kernel_rfl) (by kernel_rfl) (by kernel_rfl) ?hQ24 (Or.inl ⟨?hw24, ?hy24⟩) hS ?rest24
                  case hi24 => simp only [List.getElem?_toArray, List.getElem?_cons_succ, List.getElem?_cons_zero]; rfl
                  case hQ24 => exact fun _ _ _ h => h
                  case hw24 => rfl
                  case hy24 => intro W' hS'; go_simp; with_reducible rfl
                  try simp only [Act.put, List.setIfInBounds_toArray, List.set_cons_zero, List.set_cons_succ]
                  refine' wpAnyH_take (i := 2) (oi := _) (v := _) ?hi25 (by kernel_rfl) (by kernel_rfl) (by kernel_rfl) ?hQ25 (Or.inl ⟨?hw25, ?hy25⟩) hS ?rest25
                  case hi25 => simp only [List.getElem?_toArray, List.getElem?_cons_succ, List.getElem?_cons_zero]; rfl
                  case hQ25 => exact fun _ _ _ h => h
                  case hw25 => rfl
                  case hy25 => intro W' hS'; have hc0 := hS'.1; have hc1 := hS'.2; go_simp; with_reducible rfl
                  try simp only [Act.put, List.setIfInBounds_toArray, List.set_cons_zero, List.set_cons_succ]
                  refine' wpAnyH_take (i := 3) (oi := _) (v := _) ?hi26 (by kernel_rfl) (by kernel_rfl) (by kernel_rfl) ?hQ26 (Or.inl ⟨?hw26, ?hy26⟩) hS ?rest26
                  case hi26 => simp only [List.getElem?_toArray, List.getElem?_cons_succ, List.getElem?_cons_zero]; rfl
                  case hQ26 => exact fun _ _ _ h => h
                  case hw26 => rfl
                  case hy26 => intro W' hS'; go_simp; with_reducible rfl
                  try simp only [Act.put, List.setIfInBounds_toArray, List.set_cons_zero, List.set_cons_succ]
                  refine' wpAnyH_take (i := 4) (oi := _) (v := _) ?hi27 (by kernel_rfl) (by kernel_rfl) (by kernel_rfl) ?hQ27 (Or.inl ⟨?hw27, ?hy27⟩) hS ?rest27
                  case hi27 => simp only [List.getElem?_toArray, List.getElem?_cons_succ, List.getElem?_cons_zero]; rfl
                  case hQ27 => exact fun _ _ _ h => h
                  case hw27 => rfl
                  case hy27 => intro W' hS'; have hc0 := hS'.1; have hc1 := hS'.2; go_simp; with_reducible rfl
                  try simp only [Act.put, List.setIfInBounds_toArray, List.set_cons_zero, List.set_cons_succ]
                  refine' wpAnyH_take (i := 5) (oi := _) (v := _) ?hi28 (by kernel_rfl) (by kernel_rfl) (by kernel_rfl) ?hQ28 (Or.inl ⟨?hw28, ?hy28⟩) hS ?rest28
                  case hi28 => simp only [List.getElem?_toArray, List.getElem?_cons_succ, List.getElem?_cons_zero]; rfl
                  case hQ28 => exact fun _ _ _ h => h
                  case hw28 => rfl
                  case hy28 => intro W' hS'; go_simp; with_reducible rfl
                  try simp only [Act.put, List.setIfInBounds_toArray, List.set_cons_zero, List.set_cons_succ]
                  refine' wpAnyH_take (i := 6) (oi := _) (v := _) ?hi29 (by kernel_rfl) (by kernel_rfl) (by kernel_rfl) ?hQ29 (Or.inl ⟨?hw29, ?hy29⟩) hS ?rest29
                  case hi29 => simp only [List.getElem?_toArray, List.getElem?_cons_succ, List.getElem?_cons_zero]; rfl
                  case hQ29 => exact fun _ _ _ h => h
                  case hw29 => rfl
                  case hy29 => intro W' hS'; go_simp; with_reducible rfl
                  try simp only [Act.put, List.setIfInBounds_toArray, List.set_cons_zero, List.set_cons_succ]
                  refine' wpAnyH_take (i := 7) (oi := _) (v := _) ?hi30 (by kernel_rfl) (by kernel_rfl) (by kernel_rfl) ?hQ30 (Or.inl ⟨?hw30, ?hy30⟩) hS ?rest30
                  case hi30 => simp only [List.getElem?_toArray, List.getElem?_cons_succ, List.getElem?_cons_zero]; rfl
                  case hQ30 => exact fun _ _ _ h => h
                  case hw30 => rfl
                  case hy30 => intro W' hS'; go_simp; with_reducible rfl
                  try simp only [Act.put, List.setIfInBounds_toArray, List.set_cons_zero, List.set_cons_succ]
                  refine wpAnyH_ready (rs := [8]) (by kernel_rfl) (by simp) ?_
                  refine' AllReadyH.cons (o := _) ?ho31 (fun K hK => ?st31) AllReadyH.nil
                  case ho31 => simp only [List.getElem?_toArray, List.getElem?_cons_succ, List.getElem?_cons_zero]; rfl
                  case st31 =>
                    have k0 : U.cell? ⟨R, 0, none⟩ = some (.string ⟨#[]⟩) := KR.cell 0
                    have k1 : U.cell? ⟨R, 1, none⟩ = some (.int .i64 0) := KR.cell 1
                    have f0 := KR.frozen 0
                    have f1 := KR.frozen 1
                    go_simp
                    have hkR := (KR.set 0 (.string s)).set 1 (.int .i64 ((n : Int) + 1))
                    have hbR : Below B w ((U.setCell ⟨R, 0, none⟩ (.string s)).setCell ⟨R, 1, none⟩ (.int .i64 ((n : Int) + 1))) := (hB5.setCell (p := ⟨R, 0, none⟩) HRB.out _).setCell (p := ⟨R, 1, none⟩) HRB.out _
                    have hS1 : ((U.setCell ⟨R, 0, none⟩ (.string s)).setCell ⟨R, 1, none⟩ (.int .i64 ((n : Int) + 1))).cell? ⟨B, 0, none⟩ = some (.string s) ∧ ((U.setCell ⟨R, 0, none⟩ (.string s)).setCell ⟨R, 1, none⟩ (.int .i64 ((n : Int) + 1))).cell? ⟨B, 1, none⟩ = some (.int .i64 (n : Int)) := ⟨(World.cell?_of_block (a := ⟨B, 0, none⟩) ((Below.heap_setCell _ _ _ B HBR.out).trans (Below.heap_setCell _ _ _ B HBR.out))).trans hS.1, (World.cell?_of_block (a := ⟨B, 1, none⟩) ((Below.heap_setCell _ _ _ B HBR.out).trans (Below.heap_setCell _ _ _ B HBR.out))).trans hS.2⟩
                    refine hK.out _ _ hS1 (fun hS => ?_)
                    clear hK K hS1 k0 k1 f0 f1
                    try simp only [Act.put, List.setIfInBounds_toArray, List.set_cons_zero, List.set_cons_succ]
                    generalize World.setCell (World.setCell U ⟨R, 0, none⟩ (.string s)) ⟨R, 1, none⟩ (.int .i64 ((n : Int) + 1)) = U2 at *
                    refine' wpAnyH_take (i := 9) (oi := _) (v := _) ?hi32 (by kernel_rfl) (by kernel_rfl) (by kernel_rfl) ?hQ32 (Or.inl ⟨?hw32, ?hy32⟩) hS ?rest32
                    case hi32 => simp only [List.getElem?_toArray, List.getElem?_cons_succ, List.getElem?_cons_zero]; rfl
                    case hQ32 => exact fun _ _ _ h => h
                    case hw32 => rfl
                    case hy32 => intro W' hS'; go_simp; with_reducible rfl
                    try simp only [Act.put, List.setIfInBounds_toArray, List.set_cons_zero, List.set_cons_succ]
                    refine wpAnyH_done (by kernel_rfl) ?_ _
                    have r0 : U2.cell? ⟨R, 0, none⟩ = some (.string s) := hkR.cell 0
                    have r1 : U2.cell? ⟨R, 1, none⟩ = some (.int .i64 ((n : Int) + 1)) := hkR.cell 1
                    go_wp2_with fail
                    exact bodyPost_ret (v := .tuple #[.string sg, .agg #[.string s, .int .i64 ((n : Int) + 1)], .int .i64 0]) (by simp [results, Tryz.results55, go_sem, r0, r1]) rfl ⟨by rw [HSB.out], by rw [hBk]; exact hbR⟩
end Go.Proofs.YtechcdkakgpnkaaGreat
