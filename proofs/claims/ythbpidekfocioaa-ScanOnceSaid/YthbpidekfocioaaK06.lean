/-
  hash.Text; The sum of one text, by hash.Text; A new Out; octets that are handed back; A transfer's key, the digest of a side, the payload of an act; What events tell, as plain things; What events tell: the program's functions; What events tell: the program's functions, which were asked for
-/
import Derived.Outline
import Derived.Test.YthbpidekfocioaaK05
namespace Go.Proofs.Ythbpidekfocioaa
open Go.RowKit Go.Shelf
def sumS (l : List UInt8) : ByteArray := ⟨(sumL cb sq l).toArray⟩
theorem sumS_size (l : List UInt8) : (sumS l).size = 32 := by
  show (sumL cb sq l).toArray.size = 32
  rw [List.size_toArray]
  exact sumTo_length _ 8
set_option maxRecDepth 100000 in
set_option maxHeartbeats 2000000 in
theorem text_any {o : Nat} (sv : Value) (w : World) (zs : List (SX o w.heap.size w)) (hreach : zs.length ≤ 140737488351232) (hfl : (flat zs).length ≤ 140737488353000) (hsv : SSl w.heap.size w sv zs) :
    Calls Try.prog 18 #[sv] w fun e W' => e = .returned (.string (sumS (flat zs))) ∧ Below w.heap.size w W' := by
  have hsv0 := hsv
  obtain ⟨a, cap, rfl, _⟩ := hsv
  go_enter Try.func18, Try.ntmps18
  go_wp2_with fail
  refine (cat_any _ _ zs hreach (by omega) hsv0).mono ?_
  rintro e w1 ⟨cv, rfl, hc, hb1⟩
  go_wp2_with fail
  refine (sum_any (flat zs) _ _ hfl (hc.mono (Nat.zero_le _) (Nat.le_refl _))).mono ?_
  rintro e w2 ⟨sv2, rfl, hown, hb2⟩
  have hcv := run_string (P := Try.prog) 54 5 9 Try.underlying54 Try.underlying5 Try.underlying9 w2 (BSl.of_own hown)
  go_wp2_with fail
  go_ret
  exact ⟨rfl, chain hb1 hb2⟩
end Go.Proofs.Ythbpidekfocioaa
namespace Go.Proofs.Ythbpidekfocioaa
open Go.RowKit Go.Shelf
theorem text1_any (l1 : List UInt8) (s1 : Value) (w : World) (hl : l1.length ≤ 140737488353000) (h1 : BSl 0 w.heap.size w s1 l1) :
    Calls Try.prog 18 #[.slice (some ⟨w.heap.size, 0, none⟩) 1 1] (w.alloc (.cells #[s1] 54)) fun e W' => e = .returned (.string (sumS l1)) ∧ Below w.heap.size w W' := by
  have hb := chain0 w (.cells #[s1] 54)
  have hz : (w.alloc (.cells #[s1] 54)).heap.size = w.heap.size + 1 := by simp
  have k : Blk (w.alloc (.cells #[s1] 54)) w.heap.size 54 [s1] := Blk.new w 54 [s1]
  generalize w.alloc (.cells #[s1] 54) = W at *
  let zs : List (SX 140737488353000 W.heap.size W) := [⟨(s1, l1), (h1.below hb (Nat.le_refl _)).mono (Nat.le_refl _) (by omega), hl⟩]
  have hfl : flat zs = l1 := by simp [flat, zs]
  have := text_any (.slice (some ⟨w.heap.size, 0, none⟩) 1 1) W zs (by simp [zs]) (by rw [hfl]; exact hl)
    ⟨_, _, rfl, .inr ⟨w.heap.size, 0, rfl, by omega, fun i x hx => by
      rw [Nat.zero_add, k.cell i]
      match i, hx with
      | 0, hx => simp only [zs, List.getElem?_cons_zero, Option.some.injEq] at hx; rw [← hx]; rfl
      | i + 1, hx => simp [zs] at hx⟩⟩
  rw [hfl] at this
  exact this.mono fun e W' ⟨h1, h2⟩ => ⟨h1, chain hb h2⟩
end Go.Proofs.Ythbpidekfocioaa
namespace Go.Proofs.Ythbpidekfocioaa
open Go.RowKit Go.Shelf
def NewO (w : World) (e : Ending) (W' : World) : Prop := ∃ NB, e = .returned (.pointer (some ⟨NB, 0, none⟩)) ∧ w.heap.size ≤ NB ∧ ObjP 65 W' (some ⟨NB, 0, none⟩) ([], 0) ∧ Below w.heap.size w W'
theorem outNewO_any (w : World) : Calls Try.prog 16 #[] w (NewO w) :=
  (outNew_any w).mono fun _ _ ⟨h1, _, h3, h4⟩ => ⟨_, h1, Nat.le_refl _, h3, h4⟩
theorem below_did {T : TypeId} {NB : Nat} {s : St} {w W : World} {e : Ending} {W' : World} (hB : Below w.heap.size w W) (hN : w.heap.size ≤ NB) (h : DidS T (some ⟨NB, 0, none⟩) s W e W') : Below w.heap.size w W' :=
  hB.grown h.2.2 hB.size (fun k e => by cases e; exact hN)
end Go.Proofs.Ythbpidekfocioaa
namespace Go.Proofs.Ythbpidekfocioaa
open Go.RowKit Go.Shelf
def keyB (i : Trf) : ByteArray := if maybeI i then sumS (putI ([], 0) i).1 else ⟨#[]⟩
set_option maxRecDepth 100000 in
set_option maxHeartbeats 1000000 in
theorem key_any (i : Trf) (w : World) :
    Calls Try.prog 7 #[ivv i] w fun e W' => e = .returned (.string (keyB i)) ∧ Below w.heap.size w W' := by
  have kB := Blk.new w 29 (ivc i)
  have hB := chain0 w (.cells (ivc i).toArray 29)
  have HC := Lib.hid (check_any i)
  by_cases hm : maybeI i
  · have HE := Lib.hid (errI_zero hm)
    have e1 : keyB i = sumS (putI ([], 0) i).1 := if_pos hm
    rw [e1]
    have hlen := (okS_putI okS_new i).2
    have HLE := Lib.hid hlen
    clear hm e1 hlen
    go_enter Try.func7, Try.ntmps7
    go_wp2_with (first
      | (go_at_call 15; refine (HC.out _).mono ?_; rw [HE.out]; rintro e W1 ⟨rfl, hb1⟩; replace kB := kB.below hb1 kB.lt; replace hB := chain hB hb1; clear hb1)
      | (go_at_call 16; refine (outNewO_any _).mono ?_; rintro e W2 ⟨NB, rfl, hN, hO, hb2⟩; have hne : some w.heap.size ≠ some NB := (fun e => by cases e; exact absurd kB.lt (by omega)); replace kB := kB.below hb2 kB.lt; have hNw := Nat.le_trans hB.size hN; replace hB := chain hB hb2; obtain ⟨c0, c1, c2, c3, c4, c5, c6⟩ := kB.c7; clear hb2)
      | (go_at_call 17; refine (dealPut_any i _ hO).mono ?_; rintro e W3 hD; replace hB := below_did hB hNw hD; obtain ⟨rfl, hO3, hG3⟩ := hD)
      | (go_at_call 19; refine (dealOctets_any _ hO3).mono ?_; rintro e W4 ⟨sv, rfl, hsv, hb4⟩; replace hB := chain hB hb4; obtain ⟨va, vm, vc, rfl⟩ := hsv.shape3)
      | (go_at_call 18; refine (text1_any _ _ _ (by have := HLE.out; omega) hsv).mono ?_; rintro e W5 ⟨rfl, hb5⟩))
    go_ret
    exact ⟨rfl, chain hB hb5⟩
  · have HE := Lib.hid (errI_bad hm)
    have e1 : keyB i = ⟨#[]⟩ := if_neg hm
    rw [e1]
    clear hm e1
    go_enter Try.func7, Try.ntmps7
    go_wp2_with (first
      | (go_at_call 15; refine (HC.out _).mono ?_; rw [HE.out]; rintro e W1 ⟨rfl, hb1⟩))
    go_ret
    exact ⟨rfl, chain hB hb1⟩
theorem keyB_yes {i : Trf} (h : maybeI i) : keyB i = sumS (putI ([], 0) i).1 := if_pos h
theorem keyB_size {i : Trf} (h : maybeI i) : (keyB i).size = 32 := (congrArg ByteArray.size (keyB_yes h)).trans (sumS_size _)
-- HERE
end Go.Proofs.Ythbpidekfocioaa
namespace Go.Proofs.Ythbpidekfocioaa
open Go.RowKit Go.Shelf
def isE (key : ByteArray) (kind : Int) (x : Ev) : Bool := decide (x.cd = 0) && (decide (x.tx.kd = kind) && decide (keyB x.tx.iv = key))
def firstE (l : List Ev) (key : ByteArray) (kind : Int) : Option Ev := if key.toList.isEmpty = true then none else l.find? (isE key kind)
def dealsE (l : List Ev) : List Tr := (l.filter fun x => decide (x.cd = 0) && decide (x.tx.kd = 4)).map (·.tx)
def ofE (l : List Ev) (a : Int) : List Ev := l.filter fun x => decide (x.tx.fr = a)
def lastE (m : Int) : List Ev → Int
  | [] => m
  | x :: l => lastE (max m x.tm) l
theorem last_app (m : Int) : ∀ (l k : List Ev), lastE m (l ++ k) = lastE (lastE m l) k
  | [], _ => rfl
  | x :: l, k => last_app (max m x.tm) l k
theorem last_ge : ∀ (l : List Ev) (m : Int), m ≤ lastE m l
  | [], m => Int.le_refl m
  | x :: l, m => Int.le_trans (Int.le_max_left m x.tm) (last_ge l (max m x.tm))
theorem last_max : ∀ (l : List Ev) (m n : Int), lastE (max m n) l = max m (lastE n l)
  | [], _, _ => rfl
  | x :: l, m, n => by
    show lastE (max (max m n) x.tm) l = max m (lastE (max n x.tm) l)
    rw [Int.max_assoc, last_max l m (max n x.tm)]
theorem last_two (l k : List Ev) : lastE (-1) (l ++ k) = max (lastE (-1) l) (lastE (-1) k) := by
  rw [last_app]
  have h := last_ge l (-1)
  have e : lastE (-1) l = max (lastE (-1) l) (-1) := by omega
  rw [e, last_max k (lastE (-1) l) (-1)]
  omega
theorem deals_app (l k : List Ev) : dealsE (l ++ k) = dealsE l ++ dealsE k := by
  unfold dealsE
  rw [List.filter_append, List.map_append]
theorem first_app {l k : List Ev} {key : ByteArray} {kind : Int} {x : Ev} (h : firstE l key kind = some x) : firstE (l ++ k) key kind = some x := by
  unfold firstE at *
  by_cases e : key.toList.isEmpty = true
  · rw [if_pos e] at h
    cases h
  · rw [if_neg e] at h ⊢
    rw [List.find?_append, h]
    rfl
theorem first_is {l : List Ev} {key : ByteArray} {kind : Int} {x : Ev} (h : firstE l key kind = some x) : key.toList.isEmpty = false ∧ x ∈ l ∧ x.cd = 0 ∧ x.tx.kd = kind ∧ keyB x.tx.iv = key := by
  unfold firstE at h
  by_cases e : key.toList.isEmpty = true
  · rw [if_pos e] at h
    cases h
  · rw [if_neg e] at h
    have hp := List.find?_some h
    unfold isE at hp
    rw [Bool.and_eq_true, Bool.and_eq_true, decide_eq_true_eq, decide_eq_true_eq, decide_eq_true_eq] at hp
    exact ⟨by simpa using e, List.mem_of_find?_eq_some h, hp⟩
-- HERE
end Go.Proofs.Ythbpidekfocioaa
namespace Go.Proofs.Ythbpidekfocioaa
open Go.RowKit Go.Shelf
attribute [local irreducible] wpFrom wpAnyH StepH
def isD (kind : Int) (x : Ev) : Bool := decide (x.cd = 0) && decide (x.tx.kd = kind)
def isO (a : Int) (x : Ev) : Bool := decide (x.tx.fr = a)
theorem isE_of {key : ByteArray} {kind : Int} {x : Ev} {b : Bool} (h : isD kind x = b) : isE key kind x = (b && decide (keyB x.tx.iv = key)) := by
  unfold isE
  unfold isD at h
  rw [← Bool.and_assoc, h]
set_option maxRecDepth 100000 in
set_option maxHeartbeats 4000000 in
theorem done1_any {K : Nat} (kind : Int) (x : Ev) (w : World) (hk : Blk w K 3 [.int .i64 kind]) : Calls Try.prog 33 #[evv x, .pointer (some ⟨K, 0, none⟩)] w fun e W' => e = .returned (.bool (isD kind x)) ∧ Below w.heap.size w W' := by
  have hmx : Try.prog.follows .mixedOrders = true := by kernel_rfl
  have HK := Lib.hid hk
  clear hk
  have hM := Sep.start w
  go_enter Try.func33, Try.ntmps33
  go_upto_region 0 with fail
  refine wp_region_fromM (fun W => Sep w [] [] W) hM ?_
  clear hM
  rintro Y1 hM
  refine rF (some 2) (pt Y1.heap.size 0) (Y1.alloc (.cells (evc x).toArray 36)) ?_
  replace hM := hM.alloc 36 (evc x)
  generalize World.alloc _ _ = Y2 at *
  generalize hNe : Y1.heap.size = N2 at *
  clear hNe
  refine tF 2 [.val 1 (some 3) (.bool false)] trivial ?_
  refine dF ?_
  try simp only [puts, Tk.put, Act.put, List.setIfInBounds_toArray, List.set_cons_zero, List.set_cons_succ]
  go_upto_region 1 with fail
  refine wp_region_fromM (fun W => Sep w [] [.blk N2 36 (evc x)] W) hM ?_
  clear hM
  rintro Y3 hM
  refine tF 4 [.val 0 (some 4) (pt N2 1), .load 1 (some 5) 34 (pt N2 1) (.int .i64 x.cd), .val 2 (some 6) (.bool (x.cd == 0)), .val 3 (some 7) (.bool (x.cd == 0))] ⟨ld_any _ _ Try.underlying34 rfl (hM.at 0 rfl) 1 rfl, trivial⟩ ?_
  cases hb1 : x.cd == 0 with
  | false =>
    have Hhb1 := Lib.hid hb1
    clear hb1
    refine tF 11 [.skip 4 (some 8), .skip 5 (some 9), .skip 6 (some 10), .skip 7 (some 11), .skip 8 (some 12), .val 9 (some 13) (.bool false), .val 10 (some 3) (.bool false)] trivial ?_
    refine dF ?_
    try simp only [puts, Tk.put, Act.put, List.setIfInBounds_toArray, List.set_cons_zero, List.set_cons_succ]
    go_wp2_with fail
    go_ret
    exact ⟨by unfold isD; rw [show decide (x.cd = 0) = false from Hhb1.out]; rfl, hM.b⟩
  | true =>
    have Hhb1 := Lib.hid hb1
    clear hb1
    refine tF 11 [.val 4 (some 8) (pt N2 2), .val 5 (some 9) (pt N2 4), .load 6 (some 10) 3 (pt N2 4) (.int .i64 x.tx.kd), .load 7 (some 11) 3 (pt K 0) (.int .i64 kind), .val 8 (some 12) (.bool (x.tx.kd == kind)), .val 9 (some 13) (.bool (x.tx.kd == kind)), .val 10 (some 3) (.bool (x.tx.kd == kind))] ⟨ld_any _ _ Try.underlying3 rfl (hM.at 0 rfl) 4 rfl, ld_any _ _ Try.underlying3 rfl (HK.out.below hM.b HK.out.lt) 0 rfl, trivial⟩ ?_
    refine dF ?_
    try simp only [puts, Tk.put, Act.put, List.setIfInBounds_toArray, List.set_cons_zero, List.set_cons_succ]
    go_wp2_with fail
    go_ret
    exact ⟨by unfold isD; rw [show decide (x.cd = 0) = true from Hhb1.out]; rfl, hM.b⟩
set_option maxRecDepth 100000 in
set_option maxHeartbeats 4000000 in
theorem of1_any {K : Nat} (a : Int) (x : Ev) (w : World) (hk : Blk w K 3 [.int .i64 a]) : Calls Try.prog 23 #[evv x, .pointer (some ⟨K, 0, none⟩)] w fun e W' => e = .returned (.bool (isO a x)) ∧ Below w.heap.size w W' := by
  have hmx : Try.prog.follows .mixedOrders = true := by kernel_rfl
  have HK := Lib.hid hk
  clear hk
  have hM := Sep.start w
  go_enter Try.func23, Try.ntmps23
  go_upto_region 0 with fail
  refine wp_region_fromM (fun W => Sep w [] [] W) hM ?_
  clear hM
  rintro Y1 hM
  refine rF (some 2) (pt Y1.heap.size 0) (Y1.alloc (.cells (evc x).toArray 36)) ?_
  replace hM := hM.alloc 36 (evc x)
  generalize World.alloc _ _ = Y2 at *
  generalize hNe : Y1.heap.size = N2 at *
  clear hNe
  refine tF 2 [.val 1 (some 3) (.bool false)] trivial ?_
  refine dF ?_
  try simp only [puts, Tk.put, Act.put, List.setIfInBounds_toArray, List.set_cons_zero, List.set_cons_succ]
  go_upto_region 1 with fail
  refine wp_region_fromM (fun W => Sep w [] [.blk N2 36 (evc x)] W) hM ?_
  clear hM
  rintro Y3 hM
  refine tF 6 [.val 0 (some 4) (pt N2 2), .val 1 (some 5) (pt N2 2), .load 2 (some 6) 3 (pt N2 2) (.int .i64 x.tx.fr), .load 3 (some 7) 3 (pt K 0) (.int .i64 a), .val 4 (some 8) (.bool (x.tx.fr == a)), .val 5 (some 3) (.bool (x.tx.fr == a))] ⟨ld_any _ _ Try.underlying3 rfl (hM.at 0 rfl) 2 rfl, ld_any _ _ Try.underlying3 rfl (HK.out.below hM.b HK.out.lt) 0 rfl, trivial⟩ ?_
  refine dF ?_
  try simp only [puts, Tk.put, Act.put, List.setIfInBounds_toArray, List.set_cons_zero, List.set_cons_succ]
  go_wp2_with fail
  go_ret
  exact ⟨rfl, hM.b⟩
set_option maxRecDepth 100000 in
set_option maxHeartbeats 4000000 in
theorem first1_any {K D S : Nat} (kind : Int) (key : ByteArray) (x : Ev) (w : World) (hk : Blk w K 3 [.int .i64 kind]) (hd : Blk w D 58 [.func (.func 33) #[] #[.pointer (some ⟨K, 0, none⟩)]]) (hs : Blk w S 9 [.string key]) : Calls Try.prog 32 #[evv x, .pointer (some ⟨D, 0, none⟩), .pointer (some ⟨S, 0, none⟩)] w fun e W' => e = .returned (.bool (isE key kind x)) ∧ Below w.heap.size w W' := by
  have hmx : Try.prog.follows .mixedOrders = true := by kernel_rfl
  have HK := Lib.hid hk
  have HD := Lib.hid hd
  have HS := Lib.hid hs
  clear hk hd hs
  have hM := Sep.start w
  go_enter Try.func32, Try.ntmps32
  go_upto_region 0 with fail
  refine wp_region_fromM (fun W => Sep w [] [] W) hM ?_
  clear hM
  rintro Y1 hM
  refine rF (some 3) (pt Y1.heap.size 0) (Y1.alloc (.cells (evc x).toArray 36)) ?_
  replace hM := hM.alloc 36 (evc x)
  generalize World.alloc _ _ = Y2 at *
  generalize hNe : Y1.heap.size = N2 at *
  clear hNe
  refine tF 2 [.val 1 (some 4) (.bool false)] trivial ?_
  refine dF ?_
  try simp only [puts, Tk.put, Act.put, List.setIfInBounds_toArray, List.set_cons_zero, List.set_cons_succ]
  go_upto_region 1 with fail
  refine wp_region_M (fun W => Sep w [] [.blk N2 36 (evc x)] W) (fun W => Sep w [] [.blk N2 36 (evc x)] W) hmx hM.drew ?_
  clear hM
  rintro Y3 hM
  have hS := hM.sub (.cons_cons _ .slnil)
  refine tD 10 [.load 0 (some 5) 58 (pt D 0) (.func (.func 33) #[] #[.pointer (some ⟨K, 0, none⟩)]), .load 1 (some 6) 36 (pt N2 0) (evv x)] ⟨fun W h => ld_any _ _ Try.underlying58 rfl (HD.out.below h.b HD.out.lt) 0 rfl, fun W h => load_part (h.at 0 rfl) 0 (evc x) rfl _ _ Try.underlying36 rfl (by kernel_rfl), trivial⟩ hS ?_
  refine oD 2 9 (cD (some 7) 33 #[evv x, .pointer (some ⟨K, 0, none⟩)] ((done1_any kind x _ (HK.out.below hM.b HK.out.lt)).mono ?_))
  rintro e Y4 ⟨rfl, hb⟩
  refine And.intro (hS.below hb) ?_
  replace hS := hS.below hb
  replace hM := hM.below hb
  clear hb
  refine tD 8 [.val 3 (some 8) (.bool (isD kind x))] trivial hS ?_
  cases hb1 : isD kind x with
  | false =>
    have Hhb1 := Lib.hid hb1
    clear hb1
    refine tD 4 [.skip 4 (some 9), .skip 5 (some 10), .skip 6 (some 11), .skip 8 (some 13)] trivial hS ?_
    refine oD 7 3 (stepH_not (d := some 12) (by kernel_rfl) (And.intro hS ?_))
    refine tD 0 [.skip 9 (some 14), .val 10 (some 15) (.bool false), .val 11 (some 4) (.bool false)] trivial hS ?_
    refine dD ?_
    try simp only [puts, Tk.put, Act.put, List.setIfInBounds_toArray, List.set_cons_zero, List.set_cons_succ]
    clear hS
    go_wp2_with fail
    go_ret
    exact ⟨by rw [isE_of Hhb1.out]; rfl, hM.b⟩
  | true =>
    have Hhb1 := Lib.hid hb1
    clear hb1
    refine tD 4 [.val 4 (some 9) (pt N2 2), .val 5 (some 10) (pt N2 10), .load 6 (some 11) 29 (pt N2 10) (ivv x.tx.iv), .load 8 (some 13) 9 (pt S 0) (.string key)] ⟨fun W h => load_part (h.at 0 rfl) 10 (ivc x.tx.iv) rfl _ _ Try.underlying29 rfl (by kernel_rfl), fun W h => ld_any _ _ Try.underlying9 rfl (HS.out.below h.b HS.out.lt) 0 rfl, trivial⟩ hS ?_
    refine oD 7 3 (cD (some 12) 7 #[ivv x.tx.iv] ((key_any x.tx.iv _).mono ?_))
    rintro e Y5 ⟨rfl, hb⟩
    refine And.intro (hS.below hb) ?_
    replace hS := hS.below hb
    replace hM := hM.below hb
    clear hb
    refine tD 0 [.alt 9 (some 14) (.bool ((keyB x.tx.iv).toList == key.toList)) (.bool (decide (keyB x.tx.iv = key))), .val 10 (some 15) (.bool (decide (keyB x.tx.iv = key))), .val 11 (some 4) (.bool (decide (keyB x.tx.iv = key)))] ⟨congrArg Value.bool (beqB _ _), trivial⟩ hS ?_
    refine dD ?_
    try simp only [puts, Tk.put, Act.put, List.setIfInBounds_toArray, List.set_cons_zero, List.set_cons_succ]
    clear hS
    go_wp2_with fail
    go_ret
    exact ⟨by rw [isE_of Hhb1.out]; rfl, hM.b⟩
set_option maxRecDepth 100000 in
set_option maxHeartbeats 4000000 in
theorem first1_idx {K D S : Nat} (kind : Int) (key : ByteArray) (l : List Ev) (v : Value) (w : World) {lo hi : Nat} (hl : RSl evc lo hi w v l) (hhi : hi ≤ w.heap.size) (hk : Blk w K 3 [.int .i64 kind]) (hd : Blk w D 58 [.func (.func 33) #[] #[.pointer (some ⟨K, 0, none⟩)]]) (hs : Blk w S 9 [.string key]) : Calls Try.prog 31 #[v, .func (.func 32) #[] #[.pointer (some ⟨D, 0, none⟩), .pointer (some ⟨S, 0, none⟩)]] w fun e W' => e = .returned (.int .i64 (idxG (isE key kind) l)) ∧ Below w.heap.size w W' := by
  have hmx : Try.prog.follows .mixedOrders = true := by kernel_rfl
  have HEl := Lib.hid (fun k x (hx : l[k]? = some x) => hl.elem evc_len hx Try.underlying22 (fun W => by kernel_rfl))
  obtain ⟨pl, cl, rfl⟩ := hl.slice
  have HLl := Lib.hid hl
  have HHl := Lib.hid hhi
  have HLENl := Lib.hid (show l.length ≤ 9223372036854775807 from by have h := hl.len; unfold maxLen at h; omega)
  clear hl hhi
  have HK := Lib.hid hk
  have HD := Lib.hid hd
  have HS := Lib.hid hs
  clear hk hd hs
  have hM := Sep.start w
  go_enter Try.func31, Try.ntmps31
  go_upto_region 0 with fail
  refine wp_region_fromM (fun W => Sep w [] [] W) hM ?_
  clear hM
  rintro Y1 hM
  refine tF 1 [.val 0 (some 4) (.int .i64 0)] trivial ?_
  refine dF ?_
  try simp only [puts, Tk.put, Act.put, List.setIfInBounds_toArray, List.set_cons_zero, List.set_cons_succ]
  go_upto_region 1 with fail
  refine wp_region_fromM (fun W => Sep w [] [] W) hM ?_
  clear hM
  rintro Y2 hM
  refine tF 3 [.val 0 (some 6) (.slice pl l.length cl), .val 1 (some 7) (.int .i64 (l.length : Int)), .val 2 (some 8) (.int .i64 0)] trivial ?_
  refine dF ?_
  try simp only [puts, Tk.put, Act.put, List.setIfInBounds_toArray, List.set_cons_zero, List.set_cons_succ]
  go_wp2_with fail
  go_loopw [5, 8] (fun _ i wr => ∃ j : Nat, j ≤ l.length ∧ i = .int .i64 (j : Int) ∧ (l.take j).any (isE key kind) = false ∧ Sep w [] [] wr) (fun _ i _ => l.length - (intOf i).toNat)
  case atStart => exact ⟨0, Nat.zero_le _, rfl, rfl, hM⟩
  clear hM
  case round =>
    obtain ⟨j, hj, rfl, hno, hM⟩ := hrel
    have HN := Lib.hid hno
    clear hno
    by_cases hlt : j < l.length
    case pos =>
      obtain ⟨x, hx⟩ : ∃ x, l[j]? = some x := ⟨_, List.getElem?_eq_getElem hlt⟩
      obtain ⟨bl, ol, _, _, hit, hct⟩ := HEl.out j x hx
      have HXl := Lib.hid hx
      have HIl := Lib.hid hit
      have HCl := Lib.hid hct
      clear hx hit hct
      have HJ := Lib.hid hlt
      have hlt' : (j : Int) < (l.length : Int) := by omega
      clear hlt
      go_upto_region 2 with fail
      refine wp_region_fromM (fun W => Sep w [] [] W) hM ?_
      clear hM
      rintro Y3 hM
      refine tF 1 [.alt 0 (some 9) (.bool (decide ((j : Int) < (l.length : Int)))) (.bool true)] ⟨congrArg Value.bool (decide_eq_true hlt'), trivial⟩ ?_
      refine dF ?_
      try simp only [puts, Tk.put, Act.put, List.setIfInBounds_toArray, List.set_cons_zero, List.set_cons_succ]
      go_upto_region 3 with fail
      refine wp_region_fromM (fun W => Sep w [] [] W) hM ?_
      clear hM
      rintro Y4 hM
      refine tF 2 [.val 0 (some 10) (.int .i64 (j : Int)), .val 1 (some 5) (.int .i64 (j : Int))] trivial ?_
      refine dF ?_
      try simp only [puts, Tk.put, Act.put, List.setIfInBounds_toArray, List.set_cons_zero, List.set_cons_succ]
      go_upto_region 4 with fail
      refine wp_region_fromM (fun W => Sep w [] [] W) hM ?_
      clear hM
      rintro Y5 hM
      refine tF 5 [.val 0 (some 11) (.func (.func 32) #[] #[.pointer (some ⟨D, 0, none⟩), .pointer (some ⟨S, 0, none⟩)]), .val 1 (some 12) (.slice pl l.length cl), .val 2 (some 13) (.int .i64 (j : Int)), .idx 3 (some 14) 22 (.slice pl l.length cl) (.int .i64 (j : Int)) (pt bl ol), .load 4 (some 15) 36 (pt bl ol) (evv x)] ⟨HIl.out _, ld_cells (evc x) _ _ Try.underlying36 rfl (by kernel_rfl) (HCl.out _ (HLl.out.below hM.b HHl.out)), trivial⟩ ?_
      refine cF (some 16) 32 #[evv x, .pointer (some ⟨D, 0, none⟩),  .pointer (some ⟨S, 0, none⟩)] ((first1_any kind key x _ (HK.out.below hM.b HK.out.lt) (HD.out.below hM.b HD.out.lt) (HS.out.below hM.b HS.out.lt)).mono ?_)
      rintro e Y6 ⟨rfl, hb⟩
      replace hM := hM.below hb
      clear hb
      refine dF ?_
      try simp only [puts, Tk.put, Act.put, List.setIfInBounds_toArray, List.set_cons_zero, List.set_cons_succ]
      cases hb1 : isE key kind x with
      | false =>
        have Hhb1 := Lib.hid hb1
        clear hb1
        go_upto_region 6 with fail
        refine wp_region_fromM (fun W => Sep w [] [] W) hM ?_
        clear hM
        rintro Y7 hM
        refine tF 2 [.alt 0 (some 18) (.int .i64 (IntKind.i64.wrap ((j : Int) + 1))) (.int .i64 ((j + 1 : Nat) : Int)), .val 1 (some 8) (.int .i64 ((j + 1 : Nat) : Int))] ⟨congrArg (Value.int .i64) ((IntWalk.i64_in _ (by have := HLENl.out; have := HJ.out; omega)).trans (by omega)), trivial⟩ ?_
        refine dF ?_
        try simp only [puts, Tk.put, Act.put, List.setIfInBounds_toArray, List.set_cons_zero, List.set_cons_succ]
        go_wp2_with fail
        go_roundw
        case rel => exact ⟨j + 1, HJ.out, rfl, by rw [take_anyG HXl.out, HN.out, Hhb1.out]; rfl, hM⟩
        case measure => have := HJ.out; simp [intOf]; omega
      | true =>
        have Hhb1 := Lib.hid hb1
        clear hb1
        go_upto_region 5 with fail
        refine wp_region_fromM (fun W => Sep w [] [] W) hM ?_
        clear hM
        rintro Y8 hM
        refine tF 2 [.val 0 (some 17) (.int .i64 (j : Int)), .val 1 (some 4) (.int .i64 (j : Int))] trivial ?_
        refine dF ?_
        try simp only [puts, Tk.put, Act.put, List.setIfInBounds_toArray, List.set_cons_zero, List.set_cons_succ]
        go_wp2_with fail
        go_ret
        exact ⟨by rw [idxG_at HXl.out Hhb1.out HN.out]; rfl, hM.b⟩
    case neg =>
      obtain rfl : j = l.length := by omega
      go_upto_region 2 with fail
      refine wp_region_fromM (fun W => Sep w [] [] W) hM ?_
      clear hM
      rintro Y9 hM
      refine tF 1 [.alt 0 (some 9) (.bool (decide ((l.length : Int) < (l.length : Int)))) (.bool false)] ⟨congrArg Value.bool (decide_eq_false (by omega)), trivial⟩ ?_
      refine dF ?_
      try simp only [puts, Tk.put, Act.put, List.setIfInBounds_toArray, List.set_cons_zero, List.set_cons_succ]
      go_upto_region 7 with fail
      refine wp_region_fromM (fun W => Sep w [] [] W) hM ?_
      clear hM
      rintro Y10 hM
      refine tF 1 [.val 0 (some 4) (.int .i64 (-1))] trivial ?_
      refine dF ?_
      try simp only [puts, Tk.put, Act.put, List.setIfInBounds_toArray, List.set_cons_zero, List.set_cons_succ]
      go_wp2_with fail
      go_ret
      exact ⟨by rw [idxG_not HN.out]; rfl, hM.b⟩
def DoneR (kind : Int) (w : World) (e : Ending) (W' : World) : Prop := ∃ K, e = .returned (.func (.func 33) #[] #[.pointer (some ⟨K, 0, none⟩)]) ∧ Sep w [] [.blk K 3 [.int .i64 kind]] W'
def foundE (o : Option Ev) : Ev := o.getD noE
theorem first_idx {l : List Ev} {key : ByteArray} {kind : Int} (hk : key.toList.isEmpty = false) : firstE l key kind = if idxG (isE key kind) l < 0 then none else l[(idxG (isE key kind) l).toNat]? := by
  unfold firstE idxG
  rw [if_neg (by rw [hk]; decide)]
  cases h : l.findIdx? (isE key kind) with
  | none => 
    rw [if_pos (by decide)]
    exact List.find?_eq_none.2 fun x hx => by rw [List.findIdx?_eq_none_iff.1 h x hx]; decide
  | some j =>
    obtain ⟨hj, hp, hno⟩ := List.findIdx?_eq_some_iff_getElem.1 h
    rw [if_neg (by show ¬ ((j : Int) < 0); omega)]
    show _ = l[(j : Int).toNat]?
    rw [Int.toNat_natCast, List.getElem?_eq_getElem hj]
    exact List.find?_eq_some_iff_getElem.2 ⟨hp, j, hj, rfl, fun i hi => by
      have h1 := hno i hi
      simpa using h1⟩
set_option maxRecDepth 100000 in
set_option maxHeartbeats 4000000 in
theorem done_any (kind : Int) (w : World) : Calls Try.prog 22 #[.int .i64 kind] w (DoneR kind w) := by
  have hmx : Try.prog.follows .mixedOrders = true := by kernel_rfl
  have hM := Sep.start w
  go_enter Try.func22, Try.ntmps22
  go_upto_region 0 with fail
  refine wp_region_fromM (fun W => Sep w [] [] W) hM ?_
  clear hM
  rintro Y1 hM
  refine rF (some 1) (pt Y1.heap.size 0) (Y1.alloc (.cells ([.int .i64 kind]).toArray 3)) ?_
  replace hM := hM.alloc 3 ([.int .i64 kind])
  generalize World.alloc _ _ = Y2 at *
  generalize hNe : Y1.heap.size = N2 at *
  clear hNe
  refine tF 2 [.val 1 (some 2) (.nilFunc)] trivial ?_
  refine dF ?_
  try simp only [puts, Tk.put, Act.put, List.setIfInBounds_toArray, List.set_cons_zero, List.set_cons_succ]
  go_upto_region 1 with fail
  refine wp_region_fromM (fun W => Sep w [] [.blk N2 3 ([.int .i64 kind])] W) hM ?_
  clear hM
  rintro Y3 hM
  refine tF 2 [.val 0 (some 3) (.func (.func 33) #[] #[pt N2 0]), .val 1 (some 2) (.func (.func 33) #[] #[pt N2 0])] trivial ?_
  refine dF ?_
  try simp only [puts, Tk.put, Act.put, List.setIfInBounds_toArray, List.set_cons_zero, List.set_cons_succ]
  go_wp2_with fail
  go_ret
  exact ⟨_, rfl, hM⟩
theorem nilB (l : List UInt8) : (l == ([] : List UInt8)) = l.isEmpty := by cases l <;> rfl
theorem first_nil {l : List Ev} {key : ByteArray} {kind : Int} (h : key.toList.isEmpty = true) : firstE l key kind = none := by unfold firstE; rw [if_pos h]
theorem idxG_lt {α : Type} {p : α → Bool} {l : List α} {j : Nat} (h : idxG p l = (j : Int)) : ∃ x, l[j]? = some x := by
  unfold idxG at h
  cases hf : l.findIdx? p with
  | none => rw [hf] at h; exact absurd h (by show ¬ ((-1 : Int) = _); omega)
  | some i =>
    rw [hf] at h
    obtain rfl : i = j := by have h : (i : Int) = (j : Int) := h; omega
    obtain ⟨hi, _⟩ := List.findIdx?_eq_some_iff_getElem.1 hf
    exact ⟨_, List.getElem?_eq_getElem hi⟩
theorem lv_ev {W : World} {B : Nat} {T : TypeId} {x : Ev} (h : Blk W B T (evc x)) : (loadVar 36 ⟨B, 0, none⟩).run Try.prog W = .ok (evv x) W := run_loadVar_row W B T _ (evc x).toArray (0, 0) _ h Try.underlying36 rfl (by kernel_rfl)
theorem lv_tx {W : World} {B : Nat} {T : TypeId} {x : Tr} (h : Blk W B T (txc x)) : (loadVar 33 ⟨B, 0, none⟩).run Try.prog W = .ok (txv x) W := run_loadVar_row W B T _ (txc x).toArray (0, 0) _ h Try.underlying33 rfl (by kernel_rfl)
set_option maxRecDepth 100000 in
set_option maxHeartbeats 4000000 in
theorem first_any (kind : Int) (key : ByteArray) (l : List Ev) (v : Value) (w : World) {lo hi : Nat} (hl : RSl evc lo hi w v l) (hhi : hi ≤ w.heap.size) : Calls Try.prog 20 #[v, .int .i64 kind, .string key] w fun e W' => e = .returned (.tuple #[evv (foundE (firstE l key kind)), .bool (firstE l key kind).isSome]) ∧ Below w.heap.size w W' := by
  have hmx : Try.prog.follows .mixedOrders = true := by kernel_rfl
  have HEl := Lib.hid (fun k x (hx : l[k]? = some x) => hl.elem evc_len hx Try.underlying22 (fun W => by kernel_rfl))
  obtain ⟨pl, cl, rfl⟩ := hl.slice
  have HLl := Lib.hid hl
  have HHl := Lib.hid hhi
  have HLENl := Lib.hid (show l.length ≤ 9223372036854775807 from by have h := hl.len; unfold maxLen at h; omega)
  clear hl hhi
  have hM := Sep.start w
  go_enter Try.func20, Try.ntmps20
  go_upto_region 0 with fail
  refine wp_region_fromM (fun W => Sep w [] [] W) hM ?_
  clear hM
  rintro Y1 hM
  refine rF (some 5) (pt Y1.heap.size 0) (Y1.alloc (.cells ([.string key]).toArray 9)) ?_
  replace hM := hM.alloc 9 ([.string key])
  generalize World.alloc _ _ = Y2 at *
  generalize hNe : Y1.heap.size = N2 at *
  clear hNe
  refine rF (some 6) (pt Y2.heap.size 0) (Y2.alloc (.cells (evc noE).toArray 36)) ?_
  replace hM := hM.alloc 36 (evc noE)
  generalize World.alloc _ _ = Y3 at *
  generalize hNe : Y2.heap.size = N3 at *
  clear hNe
  refine tF 3 [.val 2 (some 7) (.bool false)] trivial ?_
  refine dF ?_
  try simp only [puts, Tk.put, Act.put, List.setIfInBounds_toArray, List.set_cons_zero, List.set_cons_succ]
  go_upto_region 1 with fail
  refine wp_region_fromM (fun W => Sep w [] [.blk N3 36 (evc noE), .blk N2 9 ([.string key])] W) hM ?_
  clear hM
  rintro Y4 hM
  refine tF 2 [.load 0 (some 10) 9 (pt N2 0) (.string key), .alt 1 (some 11) (.bool (key.toList == ([] : List UInt8))) (.bool key.toList.isEmpty)] ⟨ld_any _ _ Try.underlying9 rfl (hM.at 1 rfl) 0 rfl, congrArg Value.bool (nilB _), trivial⟩ ?_
  refine dF ?_
  try simp only [puts, Tk.put, Act.put, List.setIfInBounds_toArray, List.set_cons_zero, List.set_cons_succ]
  cases hb1 : key.toList.isEmpty with
  | false =>
    have Hhb1 := Lib.hid hb1
    clear hb1
    have HBK := Hhb1
    go_upto_region 3 with fail
    refine wp_region_fromM (fun W => Sep w [] [.blk N3 36 (evc noE), .blk N2 9 ([.string key])] W) hM ?_
    clear hM
    rintro Y5 hM
    refine tF 1 [.val 0 (some 13) (.int .i64 kind)] trivial ?_
    refine cF (some 14) 22 #[.int .i64 kind] ((done_any kind _).mono ?_)
    rintro e Y6 ⟨K6, rfl, hR⟩
    replace hM := hM.gain hR
    clear hR
    refine rF (some 8) (pt Y6.heap.size 0) (Y6.alloc (.cells ([.nilFunc]).toArray 58)) ?_
    replace hM := hM.alloc 58 ([.nilFunc])
    generalize World.alloc _ _ = Y7 at *
    generalize hNe : Y6.heap.size = N7 at *
    clear hNe
    have hst := sto_part ([.func (.func 33) #[] #[.pointer (some ⟨K6, 0, none⟩)]]) (hM.at 0 rfl) 0 58 (.func (.func 33) #[] #[.pointer (some ⟨K6, 0, none⟩)]) ([.func (.func 33) #[] #[.pointer (some ⟨K6, 0, none⟩)]]) rfl (by kernel_rfl) (Nat.le_of_ble_eq_true rfl) rfl rfl
    refine sF 58 (pt N7 0) (.func (.func 33) #[] #[.pointer (some ⟨K6, 0, none⟩)]) (hst) ?_
    clear hst
    replace hM := hM.set 0 (cs' := [.func (.func 33) #[] #[.pointer (some ⟨K6, 0, none⟩)]]) rfl rfl
    generalize World.setRow _ _ _ = Y8 at *
    refine dF ?_
    try simp only [puts, Tk.put, Act.put, List.setIfInBounds_toArray, List.set_cons_zero, List.set_cons_succ]
    go_upto_region 4 with fail
    refine wp_region_fromM (fun W => Sep w [] [.blk N7 58 ([.func (.func 33) #[] #[.pointer (some ⟨K6, 0, none⟩)]]), .blk K6 3 ([.int .i64 kind]), .blk N3 36 (evc noE), .blk N2 9 ([.string key])] W) hM ?_
    clear hM
    rintro Y9 hM
    refine tF 2 [.val 0 (some 15) (.slice pl l.length cl), .val 1 (some 16) (.func (.func 32) #[] #[pt N7 0, pt N2 0])] trivial ?_
    refine cF (some 17) 31 #[.slice pl l.length cl, .func (.func 32) #[] #[pt N7 0, pt N2 0]] ((first1_idx kind key l _ _ (HLl.out.below hM.b HHl.out) (Nat.le_trans HHl.out hM.size) (hM.at 1 rfl) (hM.at 0 rfl) (hM.at 3 rfl)).mono ?_)
    rintro e Y10 ⟨rfl, hb⟩
    replace hM := hM.below hb
    clear hb
    refine tF 4 [.val 3 (some 9) (.int .i64 (idxG (isE key kind) l))] trivial ?_
    refine dF ?_
    try simp only [puts, Tk.put, Act.put, List.setIfInBounds_toArray, List.set_cons_zero, List.set_cons_succ]
    go_upto_region 5 with fail
    refine wp_region_fromM (fun W => Sep w [] [.blk N7 58 ([.func (.func 33) #[] #[.pointer (some ⟨K6, 0, none⟩)]]), .blk K6 3 ([.int .i64 kind]), .blk N3 36 (evc noE), .blk N2 9 ([.string key])] W) hM ?_
    clear hM
    rintro Y11 hM
    refine tF 2 [.val 0 (some 18) (.int .i64 (idxG (isE key kind) l)), .val 1 (some 19) (.bool (decide ((idxG (isE key kind) l) < 0)))] trivial ?_
    refine dF ?_
    try simp only [puts, Tk.put, Act.put, List.setIfInBounds_toArray, List.set_cons_zero, List.set_cons_succ]
    cases hb2 : decide ((idxG (isE key kind) l) < 0) with
    | false =>
      have Hhb2 := Lib.hid hb2
      clear hb2
      obtain ⟨j, hj⟩ : ∃ j : Nat, idxG (isE key kind) l = (j : Int) := ⟨_, (Int.toNat_of_nonneg (by have h := of_decide_eq_false Hhb2.out; omega)).symm⟩
      have hf := first_idx (l := l) (kind := kind) HBK.out
      rw [if_neg (of_decide_eq_false Hhb2.out), hj, Int.toNat_natCast] at hf
      obtain ⟨x, hx⟩ : ∃ x, l[j]? = some x := idxG_lt hj
      rw [hx] at hf
      have HF := Lib.hid hf
      clear hf
      rw [hj]
      obtain ⟨bl, ol, _, _, hit, hct⟩ := HEl.out j x hx
      have HIl := Lib.hid hit
      have HCl := Lib.hid hct
      clear hit hct hx hj
      go_upto_region 7 with fail
      refine wp_region_fromM (fun W => Sep w [] [.blk N7 58 ([.func (.func 33) #[] #[.pointer (some ⟨K6, 0, none⟩)]]), .blk K6 3 ([.int .i64 kind]), .blk N3 36 (evc noE), .blk N2 9 ([.string key])] W) hM ?_
      clear hM
      rintro Y12 hM
      refine tF 4 [.val 0 (some 21) (.slice pl l.length cl), .val 1 (some 22) (.int .i64 (j : Int)), .idx 2 (some 23) 22 (.slice pl l.length cl) (.int .i64 (j : Int)) (pt bl ol), .load 3 (some 24) 36 (pt bl ol) (evv x)] ⟨HIl.out _, ld_cells (evc x) _ _ Try.underlying36 rfl (by kernel_rfl) (HCl.out _ (HLl.out.below hM.b HHl.out)), trivial⟩ ?_
      have hst := sto_part (evc x) (hM.at 2 rfl) 0 36 (evv x) (evc x) rfl (by kernel_rfl) (Nat.le_of_ble_eq_true rfl) rfl rfl
      refine sF 36 (pt N3 0) (evv x) (hst) ?_
      clear hst
      replace hM := hM.set 2 (cs' := evc x) rfl rfl
      generalize World.setRow _ _ _ = Y13 at *
      refine tF 6 [.val 5 (some 7) (.bool true)] trivial ?_
      refine dF ?_
      try simp only [puts, Tk.put, Act.put, List.setIfInBounds_toArray, List.set_cons_zero, List.set_cons_succ]
      go_wp2_with fail
      exact bodyPost_ret (v := .tuple #[evv x, .bool true]) (res_two rfl _ rfl rfl (lv_ev (hM.at 2 rfl))) rfl ⟨by rw [HF.out]; rfl, hM.b⟩
    | true =>
      have Hhb2 := Lib.hid hb2
      clear hb2
      have hf := first_idx (l := l) (kind := kind) HBK.out
      rw [if_pos (of_decide_eq_true Hhb2.out)] at hf
      have HF := Lib.hid hf
      clear hf
      go_upto_region 6 with fail
      refine wp_region_fromM (fun W => Sep w [] [.blk N7 58 ([.func (.func 33) #[] #[.pointer (some ⟨K6, 0, none⟩)]]), .blk K6 3 ([.int .i64 kind]), .blk N3 36 (evc noE), .blk N2 9 ([.string key])] W) hM ?_
      clear hM
      rintro Y14 hM
      refine tF 1 [.val 0 (some 20) (evv noE)] trivial ?_
      have hst := sto_part (evc noE) (hM.at 2 rfl) 0 36 (evv noE) (evc noE) rfl (by kernel_rfl) (Nat.le_of_ble_eq_true rfl) rfl rfl
      refine sF 36 (pt N3 0) (evv noE) (hst) ?_
      clear hst
      replace hM := hM.set 2 (cs' := evc noE) rfl rfl
      generalize World.setRow _ _ _ = Y15 at *
      refine tF 3 [.val 2 (some 7) (.bool false)] trivial ?_
      refine dF ?_
      try simp only [puts, Tk.put, Act.put, List.setIfInBounds_toArray, List.set_cons_zero, List.set_cons_succ]
      go_wp2_with fail
      exact bodyPost_ret (v := .tuple #[evv noE, .bool false]) (res_two rfl _ rfl rfl (lv_ev (hM.at 2 rfl))) rfl ⟨by rw [HF.out]; rfl, hM.b⟩
  | true =>
    have Hhb1 := Lib.hid hb1
    clear hb1
    go_upto_region 2 with fail
    refine wp_region_fromM (fun W => Sep w [] [.blk N3 36 (evc noE), .blk N2 9 ([.string key])] W) hM ?_
    clear hM
    rintro Y16 hM
    refine tF 1 [.val 0 (some 12) (evv noE)] trivial ?_
    have hst := sto_part (evc noE) (hM.at 0 rfl) 0 36 (evv noE) (evc noE) rfl (by kernel_rfl) (Nat.le_of_ble_eq_true rfl) rfl rfl
    refine sF 36 (pt N3 0) (evv noE) (hst) ?_
    clear hst
    replace hM := hM.set 0 (cs' := evc noE) rfl rfl
    generalize World.setRow _ _ _ = Y17 at *
    refine tF 3 [.val 2 (some 7) (.bool false)] trivial ?_
    refine dF ?_
    try simp only [puts, Tk.put, Act.put, List.setIfInBounds_toArray, List.set_cons_zero, List.set_cons_succ]
    go_wp2_with fail
    exact bodyPost_ret (v := .tuple #[evv noE, .bool false]) (res_two rfl _ rfl rfl (lv_ev (hM.at 0 rfl))) rfl ⟨by rw [first_nil Hhb1.out]; rfl, hM.b⟩
end Go.Proofs.Ythbpidekfocioaa
namespace Go.Proofs.Ythbpidekfocioaa
open Go.RowKit Go.Shelf
attribute [local irreducible] wpFrom wpAnyH StepH
set_option maxRecDepth 100000 in
set_option maxHeartbeats 4000000 in
theorem fulfilled_any (key : ByteArray) (l : List Ev) (v : Value) (w : World) {lo hi : Nat} (hl : RSl evc lo hi w v l) (hhi : hi ≤ w.heap.size) : Calls Try.prog 9 #[v, .string key] w fun e W' => e = .returned (.tuple #[evv (foundE (firstE l key 5)), .bool (firstE l key 5).isSome]) ∧ Below w.heap.size w W' := by
  have hmx : Try.prog.follows .mixedOrders = true := by kernel_rfl
  have HEl := Lib.hid (fun k x (hx : l[k]? = some x) => hl.elem evc_len hx Try.underlying22 (fun W => by kernel_rfl))
  obtain ⟨pl, cl, rfl⟩ := hl.slice
  have HLl := Lib.hid hl
  have HHl := Lib.hid hhi
  have HLENl := Lib.hid (show l.length ≤ 9223372036854775807 from by have h := hl.len; unfold maxLen at h; omega)
  clear hl hhi
  have hM := Sep.start w
  go_enter Try.func9, Try.ntmps9
  go_upto_region 0 with fail
  refine wp_region_fromM (fun W => Sep w [] [] W) hM ?_
  clear hM
  rintro Y1 hM
  refine rF (some 4) (pt Y1.heap.size 0) (Y1.alloc (.cells (evc noE).toArray 36)) ?_
  replace hM := hM.alloc 36 (evc noE)
  generalize World.alloc _ _ = Y2 at *
  generalize hNe : Y1.heap.size = N2 at *
  clear hNe
  refine tF 2 [.val 1 (some 5) (.bool false)] trivial ?_
  refine dF ?_
  try simp only [puts, Tk.put, Act.put, List.setIfInBounds_toArray, List.set_cons_zero, List.set_cons_succ]
  go_upto_region 1 with fail
  refine wp_region_fromM (fun W => Sep w [] [.blk N2 36 (evc noE)] W) hM ?_
  clear hM
  rintro Y3 hM
  refine tF 2 [.val 0 (some 6) (.slice pl l.length cl), .val 1 (some 7) (.string key)] trivial ?_
  refine cF (some 8) 20 #[.slice pl l.length cl, .int .i64 5, .string key] ((first_any 5 key l _ _ (HLl.out.below hM.b HHl.out) (Nat.le_trans HHl.out hM.size)).mono ?_)
  rintro e Y4 ⟨rfl, hb⟩
  replace hM := hM.below hb
  clear hb
  refine tF 5 [.val 3 (some 9) (evv (foundE (firstE l key 5))), .val 4 (some 10) (.bool (firstE l key 5).isSome)] trivial ?_
  have hst := sto_part (evc (foundE (firstE l key 5))) (hM.at 0 rfl) 0 36 (evv (foundE (firstE l key 5))) (evc (foundE (firstE l key 5))) rfl (by kernel_rfl) (Nat.le_of_ble_eq_true rfl) rfl rfl
  refine sF 36 (pt N2 0) (evv (foundE (firstE l key 5))) (hst) ?_
  clear hst
  replace hM := hM.set 0 (cs' := evc (foundE (firstE l key 5))) rfl rfl
  generalize World.setRow _ _ _ = Y5 at *
  refine tF 7 [.val 6 (some 5) (.bool (firstE l key 5).isSome)] trivial ?_
  refine dF ?_
  try simp only [puts, Tk.put, Act.put, List.setIfInBounds_toArray, List.set_cons_zero, List.set_cons_succ]
  go_wp2_with fail
  exact bodyPost_ret (v := .tuple #[evv (foundE (firstE l key 5)), .bool (firstE l key 5).isSome]) (res_two rfl _ rfl rfl (lv_ev (hM.at 0 rfl))) rfl ⟨rfl, hM.b⟩
set_option maxRecDepth 100000 in
set_option maxHeartbeats 4000000 in
theorem cancelled_any (key : ByteArray) (l : List Ev) (v : Value) (w : World) {lo hi : Nat} (hl : RSl evc lo hi w v l) (hhi : hi ≤ w.heap.size) : Calls Try.prog 10 #[v, .string key] w fun e W' => e = .returned (.tuple #[evv (foundE (firstE l key 6)), .bool (firstE l key 6).isSome]) ∧ Below w.heap.size w W' := by
  have hmx : Try.prog.follows .mixedOrders = true := by kernel_rfl
  have HEl := Lib.hid (fun k x (hx : l[k]? = some x) => hl.elem evc_len hx Try.underlying22 (fun W => by kernel_rfl))
  obtain ⟨pl, cl, rfl⟩ := hl.slice
  have HLl := Lib.hid hl
  have HHl := Lib.hid hhi
  have HLENl := Lib.hid (show l.length ≤ 9223372036854775807 from by have h := hl.len; unfold maxLen at h; omega)
  clear hl hhi
  have hM := Sep.start w
  go_enter Try.func10, Try.ntmps10
  go_upto_region 0 with fail
  refine wp_region_fromM (fun W => Sep w [] [] W) hM ?_
  clear hM
  rintro Y1 hM
  refine rF (some 4) (pt Y1.heap.size 0) (Y1.alloc (.cells (evc noE).toArray 36)) ?_
  replace hM := hM.alloc 36 (evc noE)
  generalize World.alloc _ _ = Y2 at *
  generalize hNe : Y1.heap.size = N2 at *
  clear hNe
  refine tF 2 [.val 1 (some 5) (.bool false)] trivial ?_
  refine dF ?_
  try simp only [puts, Tk.put, Act.put, List.setIfInBounds_toArray, List.set_cons_zero, List.set_cons_succ]
  go_upto_region 1 with fail
  refine wp_region_fromM (fun W => Sep w [] [.blk N2 36 (evc noE)] W) hM ?_
  clear hM
  rintro Y3 hM
  refine tF 2 [.val 0 (some 6) (.slice pl l.length cl), .val 1 (some 7) (.string key)] trivial ?_
  refine cF (some 8) 20 #[.slice pl l.length cl, .int .i64 6, .string key] ((first_any 6 key l _ _ (HLl.out.below hM.b HHl.out) (Nat.le_trans HHl.out hM.size)).mono ?_)
  rintro e Y4 ⟨rfl, hb⟩
  replace hM := hM.below hb
  clear hb
  refine tF 5 [.val 3 (some 9) (evv (foundE (firstE l key 6))), .val 4 (some 10) (.bool (firstE l key 6).isSome)] trivial ?_
  have hst := sto_part (evc (foundE (firstE l key 6))) (hM.at 0 rfl) 0 36 (evv (foundE (firstE l key 6))) (evc (foundE (firstE l key 6))) rfl (by kernel_rfl) (Nat.le_of_ble_eq_true rfl) rfl rfl
  refine sF 36 (pt N2 0) (evv (foundE (firstE l key 6))) (hst) ?_
  clear hst
  replace hM := hM.set 0 (cs' := evc (foundE (firstE l key 6))) rfl rfl
  generalize World.setRow _ _ _ = Y5 at *
  refine tF 7 [.val 6 (some 5) (.bool (firstE l key 6).isSome)] trivial ?_
  refine dF ?_
  try simp only [puts, Tk.put, Act.put, List.setIfInBounds_toArray, List.set_cons_zero, List.set_cons_succ]
  go_wp2_with fail
  exact bodyPost_ret (v := .tuple #[evv (foundE (firstE l key 6)), .bool (firstE l key 6).isSome]) (res_two rfl _ rfl rfl (lv_ev (hM.at 0 rfl))) rfl ⟨rfl, hM.b⟩
set_option maxRecDepth 100000 in
set_option maxHeartbeats 4000000 in
theorem prepared_any (key : ByteArray) (l : List Ev) (v : Value) (w : World) {lo hi : Nat} (hl : RSl evc lo hi w v l) (hhi : hi ≤ w.heap.size) : Calls Try.prog 8 #[v, .string key] w fun e W' => e = .returned (.tuple #[txv (foundE (firstE l key 4)).tx, .bool (firstE l key 4).isSome]) ∧ Below w.heap.size w W' := by
  have hmx : Try.prog.follows .mixedOrders = true := by kernel_rfl
  have HEl := Lib.hid (fun k x (hx : l[k]? = some x) => hl.elem evc_len hx Try.underlying22 (fun W => by kernel_rfl))
  obtain ⟨pl, cl, rfl⟩ := hl.slice
  have HLl := Lib.hid hl
  have HHl := Lib.hid hhi
  have HLENl := Lib.hid (show l.length ≤ 9223372036854775807 from by have h := hl.len; unfold maxLen at h; omega)
  clear hl hhi
  have hM := Sep.start w
  go_enter Try.func8, Try.ntmps8
  go_upto_region 0 with fail
  refine wp_region_fromM (fun W => Sep w [] [] W) hM ?_
  clear hM
  rintro Y1 hM
  refine rF (some 4) (pt Y1.heap.size 0) (Y1.alloc (.cells (txc noT).toArray 33)) ?_
  replace hM := hM.alloc 33 (txc noT)
  generalize World.alloc _ _ = Y2 at *
  generalize hNe : Y1.heap.size = N2 at *
  clear hNe
  refine tF 2 [.val 1 (some 5) (.bool false)] trivial ?_
  refine dF ?_
  try simp only [puts, Tk.put, Act.put, List.setIfInBounds_toArray, List.set_cons_zero, List.set_cons_succ]
  go_upto_region 1 with fail
  refine wp_region_fromM (fun W => Sep w [] [.blk N2 33 (txc noT)] W) hM ?_
  clear hM
  rintro Y3 hM
  refine tF 2 [.val 0 (some 9) (.slice pl l.length cl), .val 1 (some 10) (.string key)] trivial ?_
  refine cF (some 11) 20 #[.slice pl l.length cl, .int .i64 4, .string key] ((first_any 4 key l _ _ (HLl.out.below hM.b HHl.out) (Nat.le_trans HHl.out hM.size)).mono ?_)
  rintro e Y4 ⟨rfl, hb⟩
  replace hM := hM.below hb
  clear hb
  refine tF 6 [.val 3 (some 8) (.tuple #[evv (foundE (firstE l key 4)), .bool (firstE l key 4).isSome]), .val 4 (some 12) (evv (foundE (firstE l key 4))), .val 5 (some 13) (.bool (firstE l key 4).isSome)] trivial ?_
  refine rF (some 6) (pt Y4.heap.size 0) (Y4.alloc (.cells (evc noE).toArray 36)) ?_
  replace hM := hM.alloc 36 (evc noE)
  generalize World.alloc _ _ = Y5 at *
  generalize hNe : Y4.heap.size = N5 at *
  clear hNe
  have hst := sto_part (evc (foundE (firstE l key 4))) (hM.at 0 rfl) 0 36 (evv (foundE (firstE l key 4))) (evc (foundE (firstE l key 4))) rfl (by kernel_rfl) (Nat.le_of_ble_eq_true rfl) rfl rfl
  refine sF 36 (pt N5 0) (evv (foundE (firstE l key 4))) (hst) ?_
  clear hst
  replace hM := hM.set 0 (cs' := evc (foundE (firstE l key 4))) rfl rfl
  generalize World.setRow _ _ _ = Y6 at *
  refine tF 9 [.val 8 (some 7) (.bool (firstE l key 4).isSome)] trivial ?_
  refine dF ?_
  try simp only [puts, Tk.put, Act.put, List.setIfInBounds_toArray, List.set_cons_zero, List.set_cons_succ]
  go_upto_region 2 with fail
  refine wp_region_fromM (fun W => Sep w [] [.blk N5 36 (evc (foundE (firstE l key 4))), .blk N2 33 (txc noT)] W) hM ?_
  clear hM
  rintro Y7 hM
  refine tF 3 [.val 0 (some 14) (pt N5 2), .load 1 (some 15) 33 (pt N5 2) (txv (foundE (firstE l key 4)).tx), .val 2 (some 16) (.bool (firstE l key 4).isSome)] ⟨load_part (hM.at 0 rfl) 2 (txc (foundE (firstE l key 4)).tx) rfl _ _ Try.underlying33 rfl (by kernel_rfl), trivial⟩ ?_
  have hst := sto_part (txc (foundE (firstE l key 4)).tx) (hM.at 1 rfl) 0 33 (txv (foundE (firstE l key 4)).tx) (txc (foundE (firstE l key 4)).tx) rfl (by kernel_rfl) (Nat.le_of_ble_eq_true rfl) rfl rfl
  refine sF 33 (pt N2 0) (txv (foundE (firstE l key 4)).tx) (hst) ?_
  clear hst
  replace hM := hM.set 1 (cs' := txc (foundE (firstE l key 4)).tx) rfl rfl
  generalize World.setRow _ _ _ = Y8 at *
  refine tF 5 [.val 4 (some 5) (.bool (firstE l key 4).isSome)] trivial ?_
  refine dF ?_
  try simp only [puts, Tk.put, Act.put, List.setIfInBounds_toArray, List.set_cons_zero, List.set_cons_succ]
  go_wp2_with fail
  exact bodyPost_ret (v := .tuple #[txv (foundE (firstE l key 4)).tx, .bool (firstE l key 4).isSome]) (res_two rfl _ rfl rfl (lv_tx (hM.at 1 rfl))) rfl ⟨rfl, hM.b⟩
set_option maxRecDepth 100000 in
set_option maxHeartbeats 4000000 in
theorem which1_any {K : Nat} (kind : Int) (l : List Ev) (v : Value) (w : World) {lo hi : Nat} (hl : RSl evc lo hi w v l) (hhi : hi ≤ w.heap.size) (hr : l.length * 240 ≤ 140737488355328) (hk : Blk w K 3 [.int .i64 kind]) : Calls Try.prog 21 #[v, .func (.func 33) #[] #[.pointer (some ⟨K, 0, none⟩)]] w (RowE (l.filter (isD kind)) w) := by
  have hmx : Try.prog.follows .mixedOrders = true := by kernel_rfl
  have HEl := Lib.hid (fun k x (hx : l[k]? = some x) => hl.elem evc_len hx Try.underlying22 (fun W => by kernel_rfl))
  obtain ⟨pl, cl, rfl⟩ := hl.slice
  have HLl := Lib.hid hl
  have HHl := Lib.hid hhi
  have HLENl := Lib.hid (show l.length ≤ 9223372036854775807 from by have h := hl.len; unfold maxLen at h; omega)
  clear hl hhi
  have HK := Lib.hid hk
  have HR := Lib.hid hr
  clear hk hr
  have hM := Sep.start w
  go_enter Try.func21, Try.ntmps21
  go_upto_region 0 with fail
  refine wp_region_fromM (fun W => Sep w [] [] W) hM ?_
  clear hM
  rintro Y1 hM
  refine tF 1 [.val 0 (some 4) (.slice none 0 0)] trivial ?_
  refine dF ?_
  try simp only [puts, Tk.put, Act.put, List.setIfInBounds_toArray, List.set_cons_zero, List.set_cons_succ]
  go_upto_region 1 with fail
  refine wp_region_fromM (fun W => Sep w [] [] W) hM ?_
  clear hM
  rintro Y2 hM
  refine tF 1 [.val 0 (some 5) (.slice none 0 0)] trivial ?_
  refine dF ?_
  try simp only [puts, Tk.put, Act.put, List.setIfInBounds_toArray, List.set_cons_zero, List.set_cons_succ]
  go_upto_region 2 with fail
  refine wp_region_fromM (fun W => Sep w [] [] W) hM ?_
  clear hM
  rintro Y3 hM
  refine tF 3 [.val 0 (some 8) (.slice pl l.length cl), .val 1 (some 9) (.int .i64 (l.length : Int)), .val 2 (some 10) (.int .i64 0)] trivial ?_
  refine dF ?_
  try simp only [puts, Tk.put, Act.put, List.setIfInBounds_toArray, List.set_cons_zero, List.set_cons_succ]
  replace hM := hM.nil evc 36 27
  go_wp2_with fail
  go_loopw [5, 10] (fun u5 i wr => ∃ j : Nat, j ≤ l.length ∧ i = .int .i64 (j : Int) ∧ Sep w [] [.own evc 36 27 (u5) ((l.take j).filter (isD kind))] wr) (fun u5 i _ => l.length - (intOf i).toNat)
  case atStart => exact ⟨0, Nat.zero_le _, rfl, hM⟩
  clear hM
  case round =>
    obtain ⟨j, hj, rfl, hM⟩ := hrel
    by_cases hlt : j < l.length
    case pos =>
      obtain ⟨x, hx⟩ : ∃ x, l[j]? = some x := ⟨_, List.getElem?_eq_getElem hlt⟩
      obtain ⟨bl, ol, _, _, hit, hct⟩ := HEl.out j x hx
      have HXl := Lib.hid hx
      have HIl := Lib.hid hit
      have HCl := Lib.hid hct
      clear hx hit hct
      have HJ := Lib.hid hlt
      have hlt' : (j : Int) < (l.length : Int) := by omega
      clear hlt
      have HTF := Lib.hid (take_filG (p := (isD kind)) HXl.out)
      go_upto_region 3 with fail
      refine wp_region_fromM (fun W => Sep w [] [.own evc 36 27 (u5) ((l.take j).filter (isD kind))] W) hM ?_
      clear hM
      rintro Y4 hM
      refine tF 1 [.alt 0 (some 11) (.bool (decide ((j : Int) < (l.length : Int)))) (.bool true)] ⟨congrArg Value.bool (decide_eq_true hlt'), trivial⟩ ?_
      refine dF ?_
      try simp only [puts, Tk.put, Act.put, List.setIfInBounds_toArray, List.set_cons_zero, List.set_cons_succ]
      go_upto_region 4 with fail
      refine wp_region_fromM (fun W => Sep w [] [.own evc 36 27 (u5) ((l.take j).filter (isD kind))] W) hM ?_
      clear hM
      rintro Y5 hM
      refine tF 2 [.idx 0 (some 12) 22 (.slice pl l.length cl) (.int .i64 (j : Int)) (pt bl ol), .load 1 (some 13) 36 (pt bl ol) (evv x)] ⟨HIl.out _, ld_cells (evc x) _ _ Try.underlying36 rfl (by kernel_rfl) (HCl.out _ (HLl.out.below hM.b HHl.out)), trivial⟩ ?_
      refine rF (some 7) (pt Y5.heap.size 0) (Y5.alloc (.cells (evc noE).toArray 36)) ?_
      replace hM := hM.alloc 36 (evc noE)
      generalize World.alloc _ _ = Y6 at *
      generalize hNe : Y5.heap.size = N6 at *
      clear hNe
      have hst := sto_part (evc x) (hM.at 0 rfl) 0 36 (evv x) (evc x) rfl (by kernel_rfl) (Nat.le_of_ble_eq_true rfl) rfl rfl
      refine sF 36 (pt N6 0) (evv x) (hst) ?_
      clear hst
      replace hM := hM.set 0 (cs' := evc x) rfl rfl
      generalize World.setRow _ _ _ = Y7 at *
      refine dF ?_
      try simp only [puts, Tk.put, Act.put, List.setIfInBounds_toArray, List.set_cons_zero, List.set_cons_succ]
      go_upto_region 5 with fail
      refine wp_region_fromM (fun W => Sep w [] [.blk N6 36 (evc x), .own evc 36 27 (u5) ((l.take j).filter (isD kind))] W) hM ?_
      clear hM
      rintro Y8 hM
      refine tF 2 [.val 0 (some 14) (.func (.func 33) #[] #[.pointer (some ⟨K, 0, none⟩)]), .load 1 (some 15) 36 (pt N6 0) (evv x)] ⟨load_part (hM.at 0 rfl) 0 (evc x) rfl _ _ Try.underlying36 rfl (by kernel_rfl), trivial⟩ ?_
      refine cF (some 16) 33 #[evv x, .pointer (some ⟨K, 0, none⟩)] ((done1_any kind x _ (HK.out.below hM.b HK.out.lt)).mono ?_)
      rintro e Y9 ⟨rfl, hb⟩
      replace hM := hM.below hb
      clear hb
      refine dF ?_
      try simp only [puts, Tk.put, Act.put, List.setIfInBounds_toArray, List.set_cons_zero, List.set_cons_succ]
      cases hb1 : isD kind x with
      | false =>
        have Hhb1 := Lib.hid hb1
        clear hb1
        go_upto_region 7 with fail
        refine wp_region_fromM (fun W => Sep w [] [.blk N6 36 (evc x), .own evc 36 27 (u5) ((l.take j).filter (isD kind))] W) hM ?_
        clear hM
        rintro Y10 hM
        refine tF 2 [.alt 0 (some 21) (.int .i64 (IntKind.i64.wrap ((j : Int) + 1))) (.int .i64 ((j + 1 : Nat) : Int)), .val 1 (some 10) (.int .i64 ((j + 1 : Nat) : Int))] ⟨congrArg (Value.int .i64) ((IntWalk.i64_in _ (by have := HLENl.out; have := HJ.out; omega)).trans (by omega)), trivial⟩ ?_
        refine dF ?_
        try simp only [puts, Tk.put, Act.put, List.setIfInBounds_toArray, List.set_cons_zero, List.set_cons_succ]
        have hM1 := hM.sub (l' := [.own evc 36 27 (u5) ((l.take j).filter (isD kind))]) (.cons _ (.cons_cons _ .slnil))
        have HM1 := Lib.hid hM1
        clear hM hM1
        go_wp2_with fail
        go_roundw
        case rel => exact ⟨j + 1, HJ.out, rfl, by rw [HTF.out, if_neg (by rw [Hhb1.out]; decide), List.append_nil]; exact HM1.out⟩
        case measure => have := HJ.out; simp [intOf]; omega
      | true =>
        have Hhb1 := Lib.hid hb1
        clear hb1
        go_upto_region 6 with fail
        refine wp_region_fromM (fun W => Sep w [] [.blk N6 36 (evc x), .own evc 36 27 (u5) ((l.take j).filter (isD kind))] W) hM ?_
        clear hM
        rintro Y11 hM
        refine tF 2 [.val 0 (some 17) (u5), .load 1 (some 18) 36 (pt N6 0) (evv x)] ⟨load_part (hM.at 0 rfl) 0 (evc x) rfl _ _ Try.underlying36 rfl (by kernel_rfl), trivial⟩ ?_
        refine rF (some 19) (.slice (some ⟨Y11.heap.size, 0, none⟩) 1 1) (Y11.alloc (.cells (evc x).toArray 36)) ?_
        replace hM := hM.alloc 36 (evc x)
        generalize World.alloc _ _ = Y12 at *
        generalize hNe : Y11.heap.size = N12 at *
        clear hNe
        obtain ⟨v13, Y13, hrun, ht⟩ := own_app1 infoEv rfl (by decide) Try.underlying22 evc_len evc_one (hM.oka 2 rfl) x (hM.at 0 rfl) (by decide) ((by have h1 := HR.out; have h2 := fil_len l j (isD kind); have h3 := HJ.out; omega)) 22
        replace hM := hM.turn 2 rfl ht rfl
        clear ht
        refine wpFrom_append (d := some 20) (t := 22) (t' := 22) (ty := 22) (v := u5) (x := .slice (some ⟨N12, 0, none⟩) 1 1) (by kernel_rfl) hrun ?_
        clear hrun
        refine tF 5 [.val 4 (some 5) (v13)] trivial ?_
        refine dF ?_
        try simp only [puts, Tk.put, Act.put, List.setIfInBounds_toArray, List.set_cons_zero, List.set_cons_succ]
        go_upto_region 7 with fail
        refine wp_region_fromM (fun W => Sep w [] [.blk N12 36 (evc x), .blk N6 36 (evc x), .own evc 36 27 (v13) (((l.take j).filter (isD kind)) ++ [x])] W) hM ?_
        clear hM
        rintro Y14 hM
        refine tF 2 [.alt 0 (some 21) (.int .i64 (IntKind.i64.wrap ((j : Int) + 1))) (.int .i64 ((j + 1 : Nat) : Int)), .val 1 (some 10) (.int .i64 ((j + 1 : Nat) : Int))] ⟨congrArg (Value.int .i64) ((IntWalk.i64_in _ (by have := HLENl.out; have := HJ.out; omega)).trans (by omega)), trivial⟩ ?_
        refine dF ?_
        try simp only [puts, Tk.put, Act.put, List.setIfInBounds_toArray, List.set_cons_zero, List.set_cons_succ]
        have hM1 := hM.sub (l' := [.own evc 36 27 (v13) (((l.take j).filter (isD kind)) ++ [x])]) (.cons _ (.cons _ (.cons_cons _ .slnil)))
        have HM1 := Lib.hid hM1
        clear hM hM1
        go_wp2_with fail
        go_roundw
        case rel => exact ⟨j + 1, HJ.out, rfl, by rw [HTF.out, if_pos Hhb1.out]; exact HM1.out⟩
        case measure => have := HJ.out; simp [intOf]; omega
    case neg =>
      obtain rfl : j = l.length := by omega
      go_upto_region 3 with fail
      refine wp_region_fromM (fun W => Sep w [] [.own evc 36 27 (u5) ((l.take l.length).filter (isD kind))] W) hM ?_
      clear hM
      rintro Y15 hM
      refine tF 1 [.alt 0 (some 11) (.bool (decide ((l.length : Int) < (l.length : Int)))) (.bool false)] ⟨congrArg Value.bool (decide_eq_false (by omega)), trivial⟩ ?_
      refine dF ?_
      try simp only [puts, Tk.put, Act.put, List.setIfInBounds_toArray, List.set_cons_zero, List.set_cons_succ]
      go_upto_region 8 with fail
      refine wp_region_fromM (fun W => Sep w [] [.own evc 36 27 (u5) ((l.take l.length).filter (isD kind))] W) hM ?_
      clear hM
      rintro Y16 hM
      refine tF 2 [.val 0 (some 22) (u5), .val 1 (some 4) (u5)] trivial ?_
      refine dF ?_
      try simp only [puts, Tk.put, Act.put, List.setIfInBounds_toArray, List.set_cons_zero, List.set_cons_succ]
      go_wp2_with fail
      go_ret
      rw [List.take_length] at hM
      exact ⟨_, rfl, hM⟩
set_option maxRecDepth 100000 in
set_option maxHeartbeats 4000000 in
theorem which2_any {K : Nat} (kind : Int) (l : List Ev) (v : Value) (w : World) {lo hi : Nat} (hl : RSl evc lo hi w v l) (hhi : hi ≤ w.heap.size) (hr : l.length * 240 ≤ 140737488355328) (hk : Blk w K 3 [.int .i64 kind]) : Calls Try.prog 21 #[v, .func (.func 23) #[] #[.pointer (some ⟨K, 0, none⟩)]] w (RowE (l.filter (isO kind)) w) := by
  have hmx : Try.prog.follows .mixedOrders = true := by kernel_rfl
  have HEl := Lib.hid (fun k x (hx : l[k]? = some x) => hl.elem evc_len hx Try.underlying22 (fun W => by kernel_rfl))
  obtain ⟨pl, cl, rfl⟩ := hl.slice
  have HLl := Lib.hid hl
  have HHl := Lib.hid hhi
  have HLENl := Lib.hid (show l.length ≤ 9223372036854775807 from by have h := hl.len; unfold maxLen at h; omega)
  clear hl hhi
  have HK := Lib.hid hk
  have HR := Lib.hid hr
  clear hk hr
  have hM := Sep.start w
  go_enter Try.func21, Try.ntmps21
  go_upto_region 0 with fail
  refine wp_region_fromM (fun W => Sep w [] [] W) hM ?_
  clear hM
  rintro Y1 hM
  refine tF 1 [.val 0 (some 4) (.slice none 0 0)] trivial ?_
  refine dF ?_
  try simp only [puts, Tk.put, Act.put, List.setIfInBounds_toArray, List.set_cons_zero, List.set_cons_succ]
  go_upto_region 1 with fail
  refine wp_region_fromM (fun W => Sep w [] [] W) hM ?_
  clear hM
  rintro Y2 hM
  refine tF 1 [.val 0 (some 5) (.slice none 0 0)] trivial ?_
  refine dF ?_
  try simp only [puts, Tk.put, Act.put, List.setIfInBounds_toArray, List.set_cons_zero, List.set_cons_succ]
  go_upto_region 2 with fail
  refine wp_region_fromM (fun W => Sep w [] [] W) hM ?_
  clear hM
  rintro Y3 hM
  refine tF 3 [.val 0 (some 8) (.slice pl l.length cl), .val 1 (some 9) (.int .i64 (l.length : Int)), .val 2 (some 10) (.int .i64 0)] trivial ?_
  refine dF ?_
  try simp only [puts, Tk.put, Act.put, List.setIfInBounds_toArray, List.set_cons_zero, List.set_cons_succ]
  replace hM := hM.nil evc 36 27
  go_wp2_with fail
  go_loopw [5, 10] (fun u5 i wr => ∃ j : Nat, j ≤ l.length ∧ i = .int .i64 (j : Int) ∧ Sep w [] [.own evc 36 27 (u5) ((l.take j).filter (isO kind))] wr) (fun u5 i _ => l.length - (intOf i).toNat)
  case atStart => exact ⟨0, Nat.zero_le _, rfl, hM⟩
  clear hM
  case round =>
    obtain ⟨j, hj, rfl, hM⟩ := hrel
    by_cases hlt : j < l.length
    case pos =>
      obtain ⟨x, hx⟩ : ∃ x, l[j]? = some x := ⟨_, List.getElem?_eq_getElem hlt⟩
      obtain ⟨bl, ol, _, _, hit, hct⟩ := HEl.out j x hx
      have HXl := Lib.hid hx
      have HIl := Lib.hid hit
      have HCl := Lib.hid hct
      clear hx hit hct
      have HJ := Lib.hid hlt
      have hlt' : (j : Int) < (l.length : Int) := by omega
      clear hlt
      have HTF := Lib.hid (take_filG (p := (isO kind)) HXl.out)
      go_upto_region 3 with fail
      refine wp_region_fromM (fun W => Sep w [] [.own evc 36 27 (u5) ((l.take j).filter (isO kind))] W) hM ?_
      clear hM
      rintro Y4 hM
      refine tF 1 [.alt 0 (some 11) (.bool (decide ((j : Int) < (l.length : Int)))) (.bool true)] ⟨congrArg Value.bool (decide_eq_true hlt'), trivial⟩ ?_
      refine dF ?_
      try simp only [puts, Tk.put, Act.put, List.setIfInBounds_toArray, List.set_cons_zero, List.set_cons_succ]
      go_upto_region 4 with fail
      refine wp_region_fromM (fun W => Sep w [] [.own evc 36 27 (u5) ((l.take j).filter (isO kind))] W) hM ?_
      clear hM
      rintro Y5 hM
      refine tF 2 [.idx 0 (some 12) 22 (.slice pl l.length cl) (.int .i64 (j : Int)) (pt bl ol), .load 1 (some 13) 36 (pt bl ol) (evv x)] ⟨HIl.out _, ld_cells (evc x) _ _ Try.underlying36 rfl (by kernel_rfl) (HCl.out _ (HLl.out.below hM.b HHl.out)), trivial⟩ ?_
      refine rF (some 7) (pt Y5.heap.size 0) (Y5.alloc (.cells (evc noE).toArray 36)) ?_
      replace hM := hM.alloc 36 (evc noE)
      generalize World.alloc _ _ = Y6 at *
      generalize hNe : Y5.heap.size = N6 at *
      clear hNe
      have hst := sto_part (evc x) (hM.at 0 rfl) 0 36 (evv x) (evc x) rfl (by kernel_rfl) (Nat.le_of_ble_eq_true rfl) rfl rfl
      refine sF 36 (pt N6 0) (evv x) (hst) ?_
      clear hst
      replace hM := hM.set 0 (cs' := evc x) rfl rfl
      generalize World.setRow _ _ _ = Y7 at *
      refine dF ?_
      try simp only [puts, Tk.put, Act.put, List.setIfInBounds_toArray, List.set_cons_zero, List.set_cons_succ]
      go_upto_region 5 with fail
      refine wp_region_fromM (fun W => Sep w [] [.blk N6 36 (evc x), .own evc 36 27 (u5) ((l.take j).filter (isO kind))] W) hM ?_
      clear hM
      rintro Y8 hM
      refine tF 2 [.val 0 (some 14) (.func (.func 23) #[] #[.pointer (some ⟨K, 0, none⟩)]), .load 1 (some 15) 36 (pt N6 0) (evv x)] ⟨load_part (hM.at 0 rfl) 0 (evc x) rfl _ _ Try.underlying36 rfl (by kernel_rfl), trivial⟩ ?_
      refine cF (some 16) 23 #[evv x, .pointer (some ⟨K, 0, none⟩)] ((of1_any kind x _ (HK.out.below hM.b HK.out.lt)).mono ?_)
      rintro e Y9 ⟨rfl, hb⟩
      replace hM := hM.below hb
      clear hb
      refine dF ?_
      try simp only [puts, Tk.put, Act.put, List.setIfInBounds_toArray, List.set_cons_zero, List.set_cons_succ]
      cases hb1 : isO kind x with
      | false =>
        have Hhb1 := Lib.hid hb1
        clear hb1
        go_upto_region 7 with fail
        refine wp_region_fromM (fun W => Sep w [] [.blk N6 36 (evc x), .own evc 36 27 (u5) ((l.take j).filter (isO kind))] W) hM ?_
        clear hM
        rintro Y10 hM
        refine tF 2 [.alt 0 (some 21) (.int .i64 (IntKind.i64.wrap ((j : Int) + 1))) (.int .i64 ((j + 1 : Nat) : Int)), .val 1 (some 10) (.int .i64 ((j + 1 : Nat) : Int))] ⟨congrArg (Value.int .i64) ((IntWalk.i64_in _ (by have := HLENl.out; have := HJ.out; omega)).trans (by omega)), trivial⟩ ?_
        refine dF ?_
        try simp only [puts, Tk.put, Act.put, List.setIfInBounds_toArray, List.set_cons_zero, List.set_cons_succ]
        have hM1 := hM.sub (l' := [.own evc 36 27 (u5) ((l.take j).filter (isO kind))]) (.cons _ (.cons_cons _ .slnil))
        have HM1 := Lib.hid hM1
        clear hM hM1
        go_wp2_with fail
        go_roundw
        case rel => exact ⟨j + 1, HJ.out, rfl, by rw [HTF.out, if_neg (by rw [Hhb1.out]; decide), List.append_nil]; exact HM1.out⟩
        case measure => have := HJ.out; simp [intOf]; omega
      | true =>
        have Hhb1 := Lib.hid hb1
        clear hb1
        go_upto_region 6 with fail
        refine wp_region_fromM (fun W => Sep w [] [.blk N6 36 (evc x), .own evc 36 27 (u5) ((l.take j).filter (isO kind))] W) hM ?_
        clear hM
        rintro Y11 hM
        refine tF 2 [.val 0 (some 17) (u5), .load 1 (some 18) 36 (pt N6 0) (evv x)] ⟨load_part (hM.at 0 rfl) 0 (evc x) rfl _ _ Try.underlying36 rfl (by kernel_rfl), trivial⟩ ?_
        refine rF (some 19) (.slice (some ⟨Y11.heap.size, 0, none⟩) 1 1) (Y11.alloc (.cells (evc x).toArray 36)) ?_
        replace hM := hM.alloc 36 (evc x)
        generalize World.alloc _ _ = Y12 at *
        generalize hNe : Y11.heap.size = N12 at *
        clear hNe
        obtain ⟨v13, Y13, hrun, ht⟩ := own_app1 infoEv rfl (by decide) Try.underlying22 evc_len evc_one (hM.oka 2 rfl) x (hM.at 0 rfl) (by decide) ((by have h1 := HR.out; have h2 := fil_len l j (isO kind); have h3 := HJ.out; omega)) 22
        replace hM := hM.turn 2 rfl ht rfl
        clear ht
        refine wpFrom_append (d := some 20) (t := 22) (t' := 22) (ty := 22) (v := u5) (x := .slice (some ⟨N12, 0, none⟩) 1 1) (by kernel_rfl) hrun ?_
        clear hrun
        refine tF 5 [.val 4 (some 5) (v13)] trivial ?_
        refine dF ?_
        try simp only [puts, Tk.put, Act.put, List.setIfInBounds_toArray, List.set_cons_zero, List.set_cons_succ]
        go_upto_region 7 with fail
        refine wp_region_fromM (fun W => Sep w [] [.blk N12 36 (evc x), .blk N6 36 (evc x), .own evc 36 27 (v13) (((l.take j).filter (isO kind)) ++ [x])] W) hM ?_
        clear hM
        rintro Y14 hM
        refine tF 2 [.alt 0 (some 21) (.int .i64 (IntKind.i64.wrap ((j : Int) + 1))) (.int .i64 ((j + 1 : Nat) : Int)), .val 1 (some 10) (.int .i64 ((j + 1 : Nat) : Int))] ⟨congrArg (Value.int .i64) ((IntWalk.i64_in _ (by have := HLENl.out; have := HJ.out; omega)).trans (by omega)), trivial⟩ ?_
        refine dF ?_
        try simp only [puts, Tk.put, Act.put, List.setIfInBounds_toArray, List.set_cons_zero, List.set_cons_succ]
        have hM1 := hM.sub (l' := [.own evc 36 27 (v13) (((l.take j).filter (isO kind)) ++ [x])]) (.cons _ (.cons _ (.cons_cons _ .slnil)))
        have HM1 := Lib.hid hM1
        clear hM hM1
        go_wp2_with fail
        go_roundw
        case rel => exact ⟨j + 1, HJ.out, rfl, by rw [HTF.out, if_pos Hhb1.out]; exact HM1.out⟩
        case measure => have := HJ.out; simp [intOf]; omega
    case neg =>
      obtain rfl : j = l.length := by omega
      go_upto_region 3 with fail
      refine wp_region_fromM (fun W => Sep w [] [.own evc 36 27 (u5) ((l.take l.length).filter (isO kind))] W) hM ?_
      clear hM
      rintro Y15 hM
      refine tF 1 [.alt 0 (some 11) (.bool (decide ((l.length : Int) < (l.length : Int)))) (.bool false)] ⟨congrArg Value.bool (decide_eq_false (by omega)), trivial⟩ ?_
      refine dF ?_
      try simp only [puts, Tk.put, Act.put, List.setIfInBounds_toArray, List.set_cons_zero, List.set_cons_succ]
      go_upto_region 8 with fail
      refine wp_region_fromM (fun W => Sep w [] [.own evc 36 27 (u5) ((l.take l.length).filter (isO kind))] W) hM ?_
      clear hM
      rintro Y16 hM
      refine tF 2 [.val 0 (some 22) (u5), .val 1 (some 4) (u5)] trivial ?_
      refine dF ?_
      try simp only [puts, Tk.put, Act.put, List.setIfInBounds_toArray, List.set_cons_zero, List.set_cons_succ]
      go_wp2_with fail
      go_ret
      rw [List.take_length] at hM
      exact ⟨_, rfl, hM⟩
end Go.Proofs.Ythbpidekfocioaa
