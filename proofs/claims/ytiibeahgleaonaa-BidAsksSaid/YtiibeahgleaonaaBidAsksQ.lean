/-
  BidAsks answers true at every input, and leaves its arguments as they are.
  The walk of BidAsks: asks that may be come back; whatever is read is as the reference's.
-/
import Derived.Deep.Cut
import Derived.ChangeMaps5
import Derived.Test.YtiibeahgleaonaaK12
namespace Go.Proofs.Ytiibeahgleaonaa
open Go.RowKit Go.Shelf

/-- Within a struct. -/
theorem run_equalIn_ask (a0 a1 a2 a3 b0 b1 b2 b3 : Int) (w : World) :
    (Op.equalIn 9999 24 (.agg #[.int .u64 a0, .int .u64 a1, .int .u64 a2, .int .u64 a3]) (.agg #[.int .u64 b0, .int .u64 b1, .int .u64 b2, .int .u64 b3])).run Try.prog w = .ok (wEq a0 a1 a2 a3 b0 b1 b2 b3) w :=
  run_equalIn_wide' 9997 a0 a1 a2 a3 b0 b1 b2 b3 w
theorem openS_less {l : List UInt8} (h : l.length ≤ 8192) : openS l = (l, 0) := if_pos h
theorem backA {p : Option Addr} {a : Ak} (h : maybeA a) (h4 : Ok4 a.a0 a.a1 a.a2 a.a3) (w : World) (hO : ObjP 66 w p (encA a, 0)) :
    Calls Try.prog 14 #[.pointer p] w fun e W' => e = .returned (akv a) ∧ ObjP 66 W' p ([], 0) ∧ w.grownBy W' (p.map (·.block)) := by
  have := bidGetAsk_any w hO
  have e := getA_ok h h4 []
  rw [List.append_nil] at e
  rw [e] at this
  exact this
theorem bsl_up {l : List UInt8} {W W' : World} {sv : Value} (h : BSl 0 W.heap.size W sv l) (hb : Below W.heap.size W W') : BSl 0 W'.heap.size W' sv l := (h.below hb (Nat.le_refl _)).mono (Nat.le_refl _) hb.size
theorem bsl_by {T : TypeId} {l : List UInt8} {W W' : World} {sv : Value} {B : Nat} {s : St} (h : BSl 0 W.heap.size W sv l) (hg : W.grownBy W' (some B)) (hO : ObjP T W (some ⟨B, 0, none⟩) s) : BSl 0 W'.heap.size W' sv l :=
  (h.to (Nat.le_refl _) hg (fun r e => by cases e; exact hO.noOct)).mono (Nat.le_refl _) hg.size

set_option maxRecDepth 100000 in
set_option maxHeartbeats 8000000 in
theorem bidAsks_any (a : Ak) (ha : Ok4 a.a0 a.a1 a.a2 a.a3) (l : List UInt8) (sv : Value) (w : World) (hl : l.length ≤ 140737488351232) (hsv : BSl 0 w.heap.size w sv l) :
    Calls Try.prog 3 #[akv a, sv] w fun e W' => e = .returned (.bool true) ∧ Below w.heap.size w W' := by
  have hmx : Try.prog.follows .mixedOrders = true := by kernel_rfl
  obtain ⟨sa, sc, rfl, -⟩ := hsv.shape
  have kI := Blk.new w 26 (akc a)
  have hB := chain0 w (.cells (akc a).toArray 26)
  replace hsv := bsl_up hsv hB
  have C1 := Lib.hid (checkAsk_any a)
  have P1 := Lib.hid (fun (p : Option Addr) W h => bidPutAsk_any (p := p) (s := ([], 0)) a ha W h)
  have P2 := Lib.hid (fun W => refPutAsk_any okS_new (.slice none 0 0) a ha W (BSl.nil _ _ _))
  have HM : Hid (maybeA a → putA ([], 0) a = (encA a, 0)) := Lib.hid putA_ok
  generalize putA ([], 0) a = st at *
  generalize hL0 : l.length = n0 at *
  go_enter Try.func3, Try.ntmps3
  go_upto_region 7 with (first
    | (refine wpList_loadIf 26 (.tmp 2) rfl _ rfl rfl (akv a) (load_ask kI) ?_)
    | (go_at_call 5; refine (alive8_any _).mono ?_; rintro e W1 ⟨rfl, hb⟩; replace kI := kI.below hb kI.lt; replace hsv := bsl_up hsv hb; replace hB := chain hB hb; clear hb)
    | (go_at_call 6; refine (outNewO_any _).mono ?_; rintro e W2 ⟨OB, rfl, hN, hO, hb⟩; have hn1 : some w.heap.size ≠ some OB := (fun e => by cases e; exact absurd kI.lt (by omega)); replace kI := kI.below hb kI.lt; replace hsv := bsl_up hsv hb; have hNw := Nat.le_trans hB.size hN; replace hB := chain hB hb; clear hb)
    | (go_at_call 7; refine (P1.out _ _ hO).mono ?_; rintro e W3 hD; replace hB := below_did hB hNw hD; obtain ⟨rfl, hO1, hG⟩ := hD; replace kI := kI.kept hG hn1; replace hsv := bsl_by hsv hG hO; clear hG hO)
    | (go_at_call 8; refine (outDone_any _ hO1).mono ?_; rintro e W4 ⟨bv1, rfl, hbv, hb⟩; obtain ⟨ba, bm, bc, rfl⟩ := hbv.shape3; replace kI := kI.below hb kI.lt; replace hsv := bsl_up hsv hb; replace hB := chain hB hb; clear hb hO1)
    | (go_at_call 9; refine (P2.out _).mono ?_; rintro e W5 ⟨v2, rfl, hv2, hb⟩; obtain ⟨xa, xm, xc, rfl⟩ := hv2.shape3; replace kI := kI.below hb kI.lt; replace hsv := bsl_up hsv hb; replace hbv := bsl_up hbv hb; replace hB := chain hB hb; clear hb))
  clear hn1 hNw P1 P2
  have hb := chain0 W5 (.cells #[.slice xa xm xc, .int .i64 st.2] 36)
  have kX := Blk.new W5 36 [.slice xa xm xc, .int .i64 st.2]
  replace kI := kI.below hb kI.lt
  replace hsv := bsl_up hsv hb
  replace hbv := bsl_up hbv hb
  replace hv2 := bsl_up hv2 hb
  replace hB := chain hB hb
  clear hb
  generalize W5.heap.size = XB at *
  generalize W5.alloc _ = X at *
  refine wp_region_held_drew (S := fun W => W = X.drew) hmx rfl ?_
  intro hS
  have hd := (Below.refl X.heap.size X).drew
  replace kI : Blk X.drew _ _ _ := kI
  replace kX : Blk X.drew _ _ _ := kX
  replace hB := hB.drew
  replace hsv := bsl_up hsv hd
  replace hbv := bsl_up hbv hd
  replace hv2 := bsl_up hv2 hd
  clear hd
  generalize X.drew = Y at *
  refine' wpAnyH_take (i := 0) (oi := _) (v := _) ?hi1 (by kernel_rfl) (by kernel_rfl) (by kernel_rfl) ?hQ1 (Or.inl ⟨?hw1, ?hy1⟩) hS ?rest1
  case hi1 => simp only [List.getElem?_toArray, List.getElem?_cons_zero]; rfl
  case hQ1 => exact fun _ _ _ h => h
  case hw1 => rfl
  case hy1 => intro W' hS'; go_simp; with_reducible rfl
  try simp only [Act.put, List.setIfInBounds_toArray, List.set_cons_zero, List.set_cons_succ]
  refine' wpAnyH_take (i := 2) (oi := _) (v := _) ?hi2 (by kernel_rfl) (by kernel_rfl) (by kernel_rfl) ?hQ2 (Or.inl ⟨?hw2, ?hy2⟩) hS ?rest2
  case hi2 => simp only [List.getElem?_toArray, List.getElem?_cons_succ, List.getElem?_cons_zero]; rfl
  case hQ2 => exact fun _ _ _ h => h
  case hw2 => rfl
  case hy2 => intro W' hS'; go_simp; with_reducible rfl
  try simp only [Act.put, List.setIfInBounds_toArray, List.set_cons_zero, List.set_cons_succ]
  refine' wpAnyH_take (i := 3) (oi := _) (v := _) ?hi3 (by kernel_rfl) (by kernel_rfl) (by kernel_rfl) ?hQ3 (Or.inl ⟨?hw3, ?hy3⟩) hS ?rest3
  case hi3 => simp only [List.getElem?_toArray, List.getElem?_cons_succ, List.getElem?_cons_zero]; rfl
  case hQ3 => exact fun _ _ _ h => h
  case hw3 => rfl
  case hy3 => intro W' hS'; subst hS'; obtain ⟨a0, a1⟩ := Blk.c2 kX; go_simp; with_reducible rfl
  try simp only [Act.put, List.setIfInBounds_toArray, List.set_cons_zero, List.set_cons_succ]
  refine wpAnyH_ready (rs := [1]) (by kernel_rfl) (by simp) ?_
  refine' AllReadyH.cons (o := _) ?ho4 (fun K hK => ?st4) AllReadyH.nil
  case ho4 => simp only [List.getElem?_toArray, List.getElem?_cons_succ, List.getElem?_cons_zero]; rfl
  case st4 =>
    go_simp
    refine (num8_any _ _).mono ?_
    rintro e Y9 ⟨rfl, rfl⟩
    refine hK.out _ _ rfl (fun hS => ?_)
    clear hK K
    try simp only [Act.put, List.setIfInBounds_toArray, List.set_cons_zero, List.set_cons_succ]
    refine' wpAnyH_take (i := 4) (oi := _) (v := _) ?hi5 (by kernel_rfl) (by kernel_rfl) (by kernel_rfl) ?hQ5 (Or.inl ⟨?hw5, ?hy5⟩) hS ?rest5
    case hi5 => simp only [List.getElem?_toArray, List.getElem?_cons_succ, List.getElem?_cons_zero]; rfl
    case hQ5 => exact fun _ _ _ h => h
    case hw5 => rfl
    case hy5 => intro W' hS'; go_simp; with_reducible rfl
    try simp only [Act.put, List.setIfInBounds_toArray, List.set_cons_zero, List.set_cons_succ]
    refine' wpAnyH_take (i := 5) (oi := _) (v := _) ?hi6 (by kernel_rfl) (by kernel_rfl) (by kernel_rfl) ?hQ6 (Or.inl ⟨?hw6, ?hy6⟩) hS ?rest6
    case hi6 => simp only [List.getElem?_toArray, List.getElem?_cons_succ, List.getElem?_cons_zero]; rfl
    case hQ6 => exact fun _ _ _ h => h
    case hw6 => rfl
    case hy6 => intro W' hS'; go_simp; with_reducible rfl
    try simp only [Act.put, List.setIfInBounds_toArray, List.set_cons_zero, List.set_cons_succ]
    refine' wpAnyH_take (i := 6) (oi := _) (v := _) ?hi7 (by kernel_rfl) (by kernel_rfl) (by kernel_rfl) ?hQ7 (Or.inl ⟨?hw7, ?hy7⟩) hS ?rest7
    case hi7 => simp only [List.getElem?_toArray, List.getElem?_cons_succ, List.getElem?_cons_zero]; rfl
    case hQ7 => exact fun _ _ _ h => h
    case hw7 => rfl
    case hy7 => intro W' hS'; go_simp; with_reducible rfl
    try simp only [Act.put, List.setIfInBounds_toArray, List.set_cons_zero, List.set_cons_succ]
    refine' wpAnyH_take (i := 7) (oi := _) (v := _) ?hi8 (by kernel_rfl) (by kernel_rfl) (by kernel_rfl) ?hQ8 (Or.inl ⟨?hw8, ?hy8⟩) hS ?rest8
    case hi8 => simp only [List.getElem?_toArray, List.getElem?_cons_succ, List.getElem?_cons_zero]; rfl
    case hQ8 => exact fun _ _ _ h => h
    case hw8 => rfl
    case hy8 => intro W' hS'; subst hS'; have hcv := str_of _ hbv; go_simp; with_reducible rfl
    try simp only [Act.put, List.setIfInBounds_toArray, List.set_cons_zero, List.set_cons_succ]
    refine' wpAnyH_take (i := 8) (oi := _) (v := _) ?hi9 (by kernel_rfl) (by kernel_rfl) (by kernel_rfl) ?hQ9 (Or.inl ⟨?hw9, ?hy9⟩) hS ?rest9
    case hi9 => simp only [List.getElem?_toArray, List.getElem?_cons_succ, List.getElem?_cons_zero]; rfl
    case hQ9 => exact fun _ _ _ h => h
    case hw9 => rfl
    case hy9 => intro W' hS'; go_simp; with_reducible rfl
    try simp only [Act.put, List.setIfInBounds_toArray, List.set_cons_zero, List.set_cons_succ]
    refine' wpAnyH_take (i := 9) (oi := _) (v := _) ?hi10 (by kernel_rfl) (by kernel_rfl) (by kernel_rfl) ?hQ10 (Or.inl ⟨?hw10, ?hy10⟩) hS ?rest10
    case hi10 => simp only [List.getElem?_toArray, List.getElem?_cons_succ, List.getElem?_cons_zero]; rfl
    case hQ10 => exact fun _ _ _ h => h
    case hw10 => rfl
    case hy10 => intro W' hS'; subst hS'; obtain ⟨a0, a1⟩ := Blk.c2 kX; go_simp; with_reducible rfl
    try simp only [Act.put, List.setIfInBounds_toArray, List.set_cons_zero, List.set_cons_succ]
    refine' wpAnyH_take (i := 10) (oi := _) (v := _) ?hi11 (by kernel_rfl) (by kernel_rfl) (by kernel_rfl) ?hQ11 (Or.inl ⟨?hw11, ?hy11⟩) hS ?rest11
    case hi11 => simp only [List.getElem?_toArray, List.getElem?_cons_succ, List.getElem?_cons_zero]; rfl
    case hQ11 => exact fun _ _ _ h => h
    case hw11 => rfl
    case hy11 => intro W' hS'; subst hS'; have hcv := str_of _ hv2; go_simp; with_reducible rfl
    try simp only [Act.put, List.setIfInBounds_toArray, List.set_cons_zero, List.set_cons_succ]
    refine' wpAnyH_take (i := 11) (oi := _) (v := _) ?hi12 (by kernel_rfl) (by kernel_rfl) (by kernel_rfl) ?hQ12 (Or.inl ⟨?hw12, ?hy12⟩) hS ?rest12
    case hi12 => simp only [List.getElem?_toArray, List.getElem?_cons_succ, List.getElem?_cons_zero]; rfl
    case hQ12 => exact fun _ _ _ h => h
    case hw12 => rfl
    case hy12 => intro W' hS'; go_simp; with_reducible rfl
    try simp only [Act.put, List.setIfInBounds_toArray, List.set_cons_zero, List.set_cons_succ]
    refine' wpAnyH_take (i := 12) (oi := _) (v := _) ?hi13 (by kernel_rfl) (by kernel_rfl) (by kernel_rfl) ?hQ13 (Or.inl ⟨?hw13, ?hy13⟩) hS ?rest13
    case hi13 => simp only [List.getElem?_toArray, List.getElem?_cons_succ, List.getElem?_cons_zero]; rfl
    case hQ13 => exact fun _ _ _ h => h
    case hw13 => rfl
    case hy13 => intro W' hS'; go_simp; with_reducible rfl
    try simp only [Act.put, List.setIfInBounds_toArray, List.set_cons_zero, List.set_cons_succ]
    refine wpAnyH_done (by kernel_rfl) ?_ _
    clear hS kX hv2
    subst hL0
    go_upto_region 11 with (first
      | (go_at_call 11; refine (inOpen_any l _ _ hl hsv).mono ?_; rintro e w2 ⟨NB, rfl, hN, hO, hb⟩; have hNw := Nat.le_trans hB.size hN; have hIN : w.heap.size ≠ NB := (fun e => by have := kI.lt; omega); replace kI := kI.below hb kI.lt; replace hbv := bsl_up hbv hb; replace hsv := bsl_up hsv hb; replace hB := chain hB hb; clear hb hN)
      | (go_at_call 12; refine (refOpen6_any l _ _ hsv).mono ?_; rintro e w3 ⟨v, rfl, hv, hb⟩; obtain ⟨va, vm, vc, rfl⟩ := hv.shape3; replace kI := kI.below hb kI.lt; replace hbv := bsl_up hbv hb; replace hO := hO.below hb; replace hB := chain hB hb; clear hb hsv; have hAI : w3.heap.size ≠ w.heap.size := (fun e => by have := kI.lt; omega); have hwA := hB.size; have hNA : NB ≠ w3.heap.size := (fun e => by have := hO.lt; omega); have hb := chain0 w3 (.cells #[.slice va vm vc, .int .i64 (openS l).2] 41); have kA := Blk.new w3 41 [.slice va vm vc, .int .i64 (openS l).2]; replace kI := kI.below hb kI.lt; replace hbv := bsl_up hbv hb; replace hO := hO.below hb; replace hv := bsl_up hv hb; replace hB := chain hB hb; clear hb; obtain ⟨a0, a1⟩ := Blk.c2 kA)
      | (go_at_call 13; refine (refGetAsk_any _ _ hv).mono ?_; rintro e w4 ⟨v4, rfl, hv4, hb⟩; obtain ⟨ya, yc, rfl, -⟩ := hv4.shape; replace kI := kI.below hb kI.lt; replace hbv := bsl_up hbv hb; replace hO := hO.below hb; replace kA := kA.below hb kA.lt; replace hB := chain hB hb; clear hb hv a0 a1; obtain ⟨a0, a1⟩ := Blk.c2 kA; have fA := kA.frozen; have hlt := kA.lt))
    clear a0 a1 fA
    obtain ⟨kA1, hv1, hB1⟩ := stored_at (y := (getA (openS l)).2.2) hv4 hB hwA ⟨_, _, _, rfl⟩ kA
    have hO1 := objP_stored (y := (getA (openS l)).2.2) hO kA (Ne.symm hNA) ⟨ya, (getA (openS l)).2.1.length, yc, rfl⟩
    have hbv1 := stored_keeps (y := .int .i64 (getA (openS l)).2.2) hbv ⟨_, _, _, rfl⟩ ⟨ya, (getA (openS l)).2.1.length, yc, rfl⟩ kA
    have kI1 := (kI.other 0 (.slice ya (getA (openS l)).2.1.length yc) (Ne.symm hAI)).other 1 (.int .i64 (getA (openS l)).2.2) (Ne.symm hAI)
    have G1 := Lib.hid (fun W h => bidGetAsk_any (p := some ⟨NB, 0, none⟩) (s := openS l) W h)
    have hQN : some w4.heap.size ≠ some NB := fun e => by cases e; exact absurd hO.lt (by omega)
    have hAN : some w3.heap.size ≠ some NB := fun e => hNA (by cases e; rfl)
    have hIN2 : some w.heap.size ≠ some NB := fun e => hIN (by cases e; rfl)
    generalize getA (openS l) = r at *
    have id2 : (r.1.id.toList == r.1.id.toList) = true := by simp
    have hz : ((w4.setCell ⟨w3.heap.size, 0, none⟩ (.slice ya r.2.1.length yc)).setCell ⟨w3.heap.size, 1, none⟩ (.int .i64 r.2.2)).heap.size = w4.heap.size := by simp
    generalize ((w4.setCell ⟨w3.heap.size, 0, none⟩ (.slice ya r.2.1.length yc)).setCell ⟨w3.heap.size, 1, none⟩ (.int .i64 r.2.2)) = Z at *
    clear kA hO hB hv4 hbv kI hlt
    have kQ : Blk (Z.alloc (.cells (akc r.1).toArray 26)) w4.heap.size 26 (akc r.1) := Blk.new' hz
    have hb := chain0 Z (.cells (akc r.1).toArray 26)
    have kA := kA1.below hb kA1.lt
    have kI := kI1.below hb kI1.lt
    have hO := hO1.below hb
    have hbv := bsl_up hbv1 hb
    have hB := chain hB1 hb
    clear hb kA1 kI1 hO1 hbv1 hB1 hv1 hz
    generalize w4.heap.size = QB at *
    generalize w3.heap.size = A at *
    generalize Z.alloc _ = X5 at *
    refine wp_region_held_drew (S := fun W => Blk W A 41 [.slice ya r.2.1.length yc, .int .i64 r.2.2] ∧ Blk W QB 26 (akc r.1) ∧ Blk W w.heap.size 26 (akc a)) hmx ⟨kA, kQ, kI⟩ ?_
    intro hS
    have hd := (Below.refl X5.heap.size X5).drew
    replace hB := hB.drew
    replace hO := hO.below hd
    replace hbv := bsl_up hbv hd
    clear hd kA kQ kI
    generalize X5.drew = Y5 at *
    refine' wpAnyH_take (i := 0) (oi := _) (v := _) ?hi14 (by kernel_rfl) (by kernel_rfl) (by kernel_rfl) ?hQ14 (Or.inl ⟨?hw14, ?hy14⟩) hS ?rest14
    case hi14 => simp only [List.getElem?_toArray, List.getElem?_cons_zero]; rfl
    case hQ14 => exact fun _ _ _ h => h
    case hw14 => rfl
    case hy14 => intro W' hS'; go_simp; with_reducible rfl
    try simp only [Act.put, List.setIfInBounds_toArray, List.set_cons_zero, List.set_cons_succ]
    refine' wpAnyH_take (i := 2) (oi := _) (v := _) ?hi15 (by kernel_rfl) (by kernel_rfl) (by kernel_rfl) ?hQ15 (Or.inl ⟨?hw15, ?hy15⟩) hS ?rest15
    case hi15 => simp only [List.getElem?_toArray, List.getElem?_cons_succ, List.getElem?_cons_zero]; rfl
    case hQ15 => exact fun _ _ _ h => h
    case hw15 => rfl
    case hy15 => intro W' hS'; obtain ⟨c0, c1, c2, c3, c4, c5, c6, c7, c8⟩ := Blk.c9 hS'.2.1; go_simp; with_reducible rfl
    try simp only [Act.put, List.setIfInBounds_toArray, List.set_cons_zero, List.set_cons_succ]
    refine wpAnyH_ready (rs := [1]) (by kernel_rfl) (by simp) ?_
    refine' AllReadyH.cons (o := _) ?ho16 (fun K hK => ?st16) AllReadyH.nil
    case ho16 => simp only [List.getElem?_toArray, List.getElem?_cons_succ, List.getElem?_cons_zero]; rfl
    case st16 =>
      go_simp
      refine (G1.out _ hO).mono ?_
      rintro e Z1 ⟨rfl, hO1, hG⟩
      refine hK.out _ _ ⟨hS.1.kept hG hAN, hS.2.1.kept hG hQN, hS.2.2.kept hG hIN2⟩ (fun hS => ?_)
      clear hK K
      try simp only [Act.put, List.setIfInBounds_toArray, List.set_cons_zero, List.set_cons_succ]
      replace hB := hB.grown hG hB.size (fun k e => by cases e; exact hNw)
      replace hbv := bsl_by hbv hG hO
      clear hG hO
      have hweq := @run_equalIn_ask
      have hwr := wEq_refl
      refine' wpAnyH_take (i := 3) (oi := _) (v := _) ?hi17 (by kernel_rfl) (by kernel_rfl) (by kernel_rfl) ?hQ17 (Or.inl ⟨?hw17, ?hy17⟩) hS ?rest17
      case hi17 => simp only [List.getElem?_toArray, List.getElem?_cons_succ, List.getElem?_cons_zero]; rfl
      case hQ17 => exact fun _ _ _ h => h
      case hw17 => rfl
      case hy17 => intro W' hS'; go_simp; with_reducible rfl
      try simp only [Act.put, List.setIfInBounds_toArray, List.set_cons_zero, List.set_cons_succ]
      clear hweq hwr
      refine' wpAnyH_take (i := 4) (oi := _) (v := _) ?hi18 (by kernel_rfl) (by kernel_rfl) (by kernel_rfl) ?hQ18 (Or.inl ⟨?hw18, ?hy18⟩) hS ?rest18
      case hi18 => simp only [List.getElem?_toArray, List.getElem?_cons_succ, List.getElem?_cons_zero]; rfl
      case hQ18 => exact fun _ _ _ h => h
      case hw18 => rfl
      case hy18 => intro W' hS'; go_simp; with_reducible rfl
      try simp only [Act.put, List.setIfInBounds_toArray, List.set_cons_zero, List.set_cons_succ]
      refine' wpAnyH_take (i := 5) (oi := _) (v := _) ?hi19 (by kernel_rfl) (by kernel_rfl) (by kernel_rfl) ?hQ19 (Or.inl ⟨?hw19, ?hy19⟩) hS ?rest19
      case hi19 => simp only [List.getElem?_toArray, List.getElem?_cons_succ, List.getElem?_cons_zero]; rfl
      case hQ19 => exact fun _ _ _ h => h
      case hw19 => rfl
      case hy19 => intro W' hS'; go_simp; with_reducible rfl
      try simp only [Act.put, List.setIfInBounds_toArray, List.set_cons_zero, List.set_cons_succ]
      refine' wpAnyH_take (i := 8) (oi := _) (v := _) ?hi20 (by kernel_rfl) (by kernel_rfl) (by kernel_rfl) ?hQ20 (Or.inl ⟨?hw20, ?hy20⟩) hS ?rest20
      case hi20 => simp only [List.getElem?_toArray, List.getElem?_cons_succ, List.getElem?_cons_zero]; rfl
      case hQ20 => exact fun _ _ _ h => h
      case hw20 => rfl
      case hy20 => intro W' hS'; go_simp; with_reducible rfl
      try simp only [Act.put, List.setIfInBounds_toArray, List.set_cons_zero, List.set_cons_succ]
      refine' wpAnyH_take (i := 9) (oi := _) (v := _) ?hi21 (by kernel_rfl) (by kernel_rfl) (by kernel_rfl) ?hQ21 (Or.inl ⟨?hw21, ?hy21⟩) hS ?rest21
      case hi21 => simp only [List.getElem?_toArray, List.getElem?_cons_succ, List.getElem?_cons_zero]; rfl
      case hQ21 => exact fun _ _ _ h => h
      case hw21 => rfl
      case hy21 => intro W' hS'; obtain ⟨a0, a1⟩ := Blk.c2 hS'.1; go_simp; with_reducible rfl
      try simp only [Act.put, List.setIfInBounds_toArray, List.set_cons_zero, List.set_cons_succ]
      refine wpAnyH_ready (rs := [6]) (by kernel_rfl) (by simp) ?_
      refine' AllReadyH.cons (o := _) ?ho22 (fun K hK => ?st22) AllReadyH.nil
      case ho22 => simp only [List.getElem?_toArray, List.getElem?_cons_succ, List.getElem?_cons_zero]; rfl
      case st22 =>
        go_simp
        refine (inErr_any _ hO1).mono ?_
        rintro e Z2 ⟨rfl, rfl⟩
        refine hK.out _ _ hS (fun hS => ?_)
        clear hK K
        try simp only [Act.put, List.setIfInBounds_toArray, List.set_cons_zero, List.set_cons_succ]
        refine wpAnyH_ready (rs := [7]) (by kernel_rfl) (by simp) ?_
        refine' AllReadyH.cons (o := _) ?ho23 (fun K hK => ?st23) AllReadyH.nil
        case ho23 => simp only [List.getElem?_toArray, List.getElem?_cons_succ, List.getElem?_cons_zero]; rfl
        case st23 =>
          go_simp
          refine (num8_any _ _).mono ?_
          rintro e Z3 ⟨rfl, rfl⟩
          refine hK.out _ _ hS (fun hS => ?_)
          clear hK K
          try simp only [Act.put, List.setIfInBounds_toArray, List.set_cons_zero, List.set_cons_succ]
          refine' wpAnyH_take (i := 10) (oi := _) (v := _) ?hi24 (by kernel_rfl) (by kernel_rfl) (by kernel_rfl) ?hQ24 (Or.inl ⟨?hw24, ?hy24⟩) hS ?rest24
          case hi24 => simp only [List.getElem?_toArray, List.getElem?_cons_succ, List.getElem?_cons_zero]; rfl
          case hQ24 => exact fun _ _ _ h => h
          case hw24 => rfl
          case hy24 => intro W' hS'; go_simp; with_reducible rfl
          try simp only [Act.put, List.setIfInBounds_toArray, List.set_cons_zero, List.set_cons_succ]
          refine' wpAnyH_take (i := 11) (oi := _) (v := _) ?hi25 (by kernel_rfl) (by kernel_rfl) (by kernel_rfl) ?hQ25 (Or.inl ⟨?hw25, ?hy25⟩) hS ?rest25
          case hi25 => simp only [List.getElem?_toArray, List.getElem?_cons_succ, List.getElem?_cons_zero]; rfl
          case hQ25 => exact fun _ _ _ h => h
          case hw25 => rfl
          case hy25 => intro W' hS'; go_simp; with_reducible rfl
          try simp only [Act.put, List.setIfInBounds_toArray, List.set_cons_zero, List.set_cons_succ]
          refine wpAnyH_done (by kernel_rfl) ?_ _
          have kI := hS.2.2
          clear hS hO1 G1 id2
          by_cases hm : maybeA a
          · have HE := Lib.hid (errA_zero hm)
            obtain rfl := HM.out hm
            have HLE : Hid ((encA a).length ≤ 8192) := Lib.hid (by have := encA_length hm; omega)
            have G1 := Lib.hid (fun p W h => backA (p := p) hm ha W h)
            clear hm HM
            have id2 : (a.id.toList == a.id.toList) = true := by simp
            generalize encA a = E at *
            go_upto_region 16 with (first
              | (refine wpList_loadIf 26 (.tmp 2) rfl _ rfl rfl (akv a) (load_ask kI) ?_)
              | (go_at_call 16; refine (C1.out _).mono ?_; rw [HE.out]; rintro e Y6 ⟨rfl, hb⟩; replace kI := kI.below hb kI.lt; replace hB := chain hB hb; replace hbv := bsl_up hbv hb; clear hb)
              | (go_at_call 11; refine (inOpen_any _ _ _ (by have := HLE.out; omega) hbv).mono ?_; rw [openS_less HLE.out]; rintro e Y7 ⟨NB2, rfl, hN, hO, hb⟩; have hn1 : some w.heap.size ≠ some NB2 := (fun e => by cases e; exact absurd kI.lt (by omega)); replace kI := kI.below hb kI.lt; have hNw2 := Nat.le_trans hB.size hN; replace hB := chain hB hb; clear hb hN))
            clear hbv HLE HE C1
            refine wp_region_held_drew (S := fun W => Blk W w.heap.size 26 (akc a)) hmx kI ?_
            intro hS
            replace hB := hB.drew
            replace hO := hO.below (Below.refl _ Y7).drew
            clear kI
            generalize Y7.drew = Y8 at *
            refine' wpAnyH_take (i := 0) (oi := _) (v := _) ?hi26 (by kernel_rfl) (by kernel_rfl) (by kernel_rfl) ?hQ26 (Or.inl ⟨?hw26, ?hy26⟩) hS ?rest26
            case hi26 => simp only [List.getElem?_toArray, List.getElem?_cons_zero]; rfl
            case hQ26 => exact fun _ _ _ h => h
            case hw26 => rfl
            case hy26 => intro W' hS'; go_simp; with_reducible rfl
            try simp only [Act.put, List.setIfInBounds_toArray, List.set_cons_zero, List.set_cons_succ]
            refine' wpAnyH_take (i := 2) (oi := _) (v := _) ?hi27 (by kernel_rfl) (by kernel_rfl) (by kernel_rfl) ?hQ27 (Or.inl ⟨?hw27, ?hy27⟩) hS ?rest27
            case hi27 => simp only [List.getElem?_toArray, List.getElem?_cons_succ, List.getElem?_cons_zero]; rfl
            case hQ27 => exact fun _ _ _ h => h
            case hw27 => rfl
            case hy27 => intro W' hS'; obtain ⟨c0, c1, c2, c3, c4, c5, c6, c7, c8⟩ := Blk.c9 hS'; go_simp; with_reducible rfl
            try simp only [Act.put, List.setIfInBounds_toArray, List.set_cons_zero, List.set_cons_succ]
            refine wpAnyH_ready (rs := [1]) (by kernel_rfl) (by simp) ?_
            refine' AllReadyH.cons (o := _) ?ho28 (fun K hK => ?st28) AllReadyH.nil
            case ho28 => simp only [List.getElem?_toArray, List.getElem?_cons_succ, List.getElem?_cons_zero]; rfl
            case st28 =>
              go_simp
              refine (G1.out _ _ hO).mono ?_
              rintro e Z1 ⟨rfl, hO1, hG⟩
              refine hK.out _ _ (hS.kept hG hn1) (fun hS => ?_)
              clear hK K
              try simp only [Act.put, List.setIfInBounds_toArray, List.set_cons_zero, List.set_cons_succ]
              replace hB := hB.grown hG hB.size (fun k e => by cases e; exact hNw2)
              clear hG hO
              have hweq := @run_equalIn_ask
              have hwr := wEq_refl
              refine' wpAnyH_take (i := 3) (oi := _) (v := _) ?hi29 (by kernel_rfl) (by kernel_rfl) (by kernel_rfl) ?hQ29 (Or.inl ⟨?hw29, ?hy29⟩) hS ?rest29
              case hi29 => simp only [List.getElem?_toArray, List.getElem?_cons_succ, List.getElem?_cons_zero]; rfl
              case hQ29 => exact fun _ _ _ h => h
              case hw29 => rfl
              case hy29 => intro W' hS'; go_simp; with_reducible rfl
              try simp only [Act.put, List.setIfInBounds_toArray, List.set_cons_zero, List.set_cons_succ]
              clear hweq hwr
              refine' wpAnyH_take (i := 4) (oi := _) (v := _) ?hi30 (by kernel_rfl) (by kernel_rfl) (by kernel_rfl) ?hQ30 (Or.inl ⟨?hw30, ?hy30⟩) hS ?rest30
              case hi30 => simp only [List.getElem?_toArray, List.getElem?_cons_succ, List.getElem?_cons_zero]; rfl
              case hQ30 => exact fun _ _ _ h => h
              case hw30 => rfl
              case hy30 => intro W' hS'; go_simp; with_reducible rfl
              try simp only [Act.put, List.setIfInBounds_toArray, List.set_cons_zero, List.set_cons_succ]
              refine' wpAnyH_take (i := 5) (oi := _) (v := _) ?hi31 (by kernel_rfl) (by kernel_rfl) (by kernel_rfl) ?hQ31 (Or.inl ⟨?hw31, ?hy31⟩) hS ?rest31
              case hi31 => simp only [List.getElem?_toArray, List.getElem?_cons_succ, List.getElem?_cons_zero]; rfl
              case hQ31 => exact fun _ _ _ h => h
              case hw31 => rfl
              case hy31 => intro W' hS'; go_simp; with_reducible rfl
              try simp only [Act.put, List.setIfInBounds_toArray, List.set_cons_zero, List.set_cons_succ]
              refine wpAnyH_ready (rs := [6]) (by kernel_rfl) (by simp) ?_
              refine' AllReadyH.cons (o := _) ?ho32 (fun K hK => ?st32) AllReadyH.nil
              case ho32 => simp only [List.getElem?_toArray, List.getElem?_cons_succ, List.getElem?_cons_zero]; rfl
              case st32 =>
                go_simp
                refine (inLeft_any _ hO1).mono ?_
                rintro e Z3 ⟨rfl, rfl⟩
                refine hK.out _ _ hS (fun hS => ?_)
                clear hK K
                try dsimp only
                refine' wpAnyH_take (i := 7) (oi := _) (v := _) ?hi33 (by kernel_rfl) (by kernel_rfl) (by kernel_rfl) ?hQ33 (Or.inl ⟨?hw33, ?hy33⟩) hS ?rest33
                case hi33 => simp only [List.getElem?_toArray, List.getElem?_cons_succ, List.getElem?_cons_zero]; rfl
                case hQ33 => exact fun _ _ _ h => h
                case hw33 => rfl
                case hy33 => intro W' hS'; go_simp; with_reducible rfl
                try simp only [Act.put, List.setIfInBounds_toArray, List.set_cons_zero, List.set_cons_succ]
                refine' wpAnyH_take (i := 8) (oi := _) (v := _) ?hi34 (by kernel_rfl) (by kernel_rfl) (by kernel_rfl) ?hQ34 (Or.inl ⟨?hw34, ?hy34⟩) hS ?rest34
                case hi34 => simp only [List.getElem?_toArray, List.getElem?_cons_succ, List.getElem?_cons_zero]; rfl
                case hQ34 => exact fun _ _ _ h => h
                case hw34 => rfl
                case hy34 => intro W' hS'; go_simp; with_reducible rfl
                try simp only [Act.put, List.setIfInBounds_toArray, List.set_cons_zero, List.set_cons_succ]
                refine' wpAnyH_take (i := 9) (oi := _) (v := _) ?hi35 (by kernel_rfl) (by kernel_rfl) (by kernel_rfl) ?hQ35 (Or.inl ⟨?hw35, ?hy35⟩) hS ?rest35
                case hi35 => simp only [List.getElem?_toArray, List.getElem?_cons_succ, List.getElem?_cons_zero]; rfl
                case hQ35 => exact fun _ _ _ h => h
                case hw35 => rfl
                case hy35 => intro W' hS'; go_simp; with_reducible rfl
                try simp only [Act.put, List.setIfInBounds_toArray, List.set_cons_zero, List.set_cons_succ]
                refine' wpAnyH_take (i := 10) (oi := _) (v := _) ?hi36 (by kernel_rfl) (by kernel_rfl) (by kernel_rfl) ?hQ36 (Or.inl ⟨?hw36, ?hy36⟩) hS ?rest36
                case hi36 => simp only [List.getElem?_toArray, List.getElem?_cons_succ, List.getElem?_cons_zero]; rfl
                case hQ36 => exact fun _ _ _ h => h
                case hw36 => rfl
                case hy36 => intro W' hS'; go_simp; with_reducible rfl
                try simp only [Act.put, List.setIfInBounds_toArray, List.set_cons_zero, List.set_cons_succ]
                refine wpAnyH_ready (rs := [11]) (by kernel_rfl) (by simp) ?_
                refine' AllReadyH.cons (o := _) ?ho37 (fun K hK => ?st37) AllReadyH.nil
                case ho37 => simp only [List.getElem?_toArray, List.getElem?_cons_succ, List.getElem?_cons_zero]; rfl
                case st37 =>
                  go_simp
                  refine (inErr_any _ hO1).mono ?_
                  rintro e Z4 ⟨rfl, rfl⟩
                  refine hK.out _ _ hS (fun hS => ?_)
                  clear hK K
                  try dsimp only
                  refine' wpAnyH_take (i := 12) (oi := _) (v := _) ?hi38 (by kernel_rfl) (by kernel_rfl) (by kernel_rfl) ?hQ38 (Or.inl ⟨?hw38, ?hy38⟩) hS ?rest38
                  case hi38 => simp only [List.getElem?_toArray, List.getElem?_cons_succ, List.getElem?_cons_zero]; rfl
                  case hQ38 => exact fun _ _ _ h => h
                  case hw38 => rfl
                  case hy38 => intro W' hS'; go_simp; with_reducible rfl
                  try simp only [Act.put, List.setIfInBounds_toArray, List.set_cons_zero, List.set_cons_succ]
                  refine' wpAnyH_take (i := 13) (oi := _) (v := _) ?hi39 (by kernel_rfl) (by kernel_rfl) (by kernel_rfl) ?hQ39 (Or.inl ⟨?hw39, ?hy39⟩) hS ?rest39
                  case hi39 => simp only [List.getElem?_toArray, List.getElem?_cons_succ, List.getElem?_cons_zero]; rfl
                  case hQ39 => exact fun _ _ _ h => h
                  case hw39 => rfl
                  case hy39 => intro W' hS'; go_simp; with_reducible rfl
                  try simp only [Act.put, List.setIfInBounds_toArray, List.set_cons_zero, List.set_cons_succ]
                  refine' wpAnyH_take (i := 14) (oi := _) (v := _) ?hi40 (by kernel_rfl) (by kernel_rfl) (by kernel_rfl) ?hQ40 (Or.inl ⟨?hw40, ?hy40⟩) hS ?rest40
                  case hi40 => simp only [List.getElem?_toArray, List.getElem?_cons_succ, List.getElem?_cons_zero]; rfl
                  case hQ40 => exact fun _ _ _ h => h
                  case hw40 => rfl
                  case hy40 => intro W' hS'; go_simp; with_reducible rfl
                  try simp only [Act.put, List.setIfInBounds_toArray, List.set_cons_zero, List.set_cons_succ]
                  refine wpAnyH_done (by kernel_rfl) ?_ _
                  go_wp2_with fail
                  go_ret
                  exact ⟨rfl, hB⟩
          · have HE := Lib.hid (errA_bad hm)
            clear hm HM
            go_wp2_with (first
              | (refine wpList_loadIf 26 (.tmp 2) rfl _ rfl rfl (akv a) (load_ask kI) ?_)
              | (go_at_call 16; refine (C1.out _).mono ?_; rw [HE.out]; rintro e Y6 ⟨rfl, hb⟩; replace kI := kI.below hb kI.lt; replace hB := chain hB hb; replace hbv := bsl_up hbv hb; clear hb))
            go_ret
            exact ⟨rfl, hB⟩
end Go.Proofs.Ytiibeahgleaonaa

namespace Go.Proofs.Ytiibeahgleaonaa
open Go.ChangeShapes Go.WideShapes Go.ChangeAt Go.RowKit Go.Deep
open Go.ChangeMaps (open_string)

set_option maxRecDepth 100000 in
theorem bidAsks_lifted (os : Os) (started : os.Started) (H : Type) (enc : TypeId × Value → H) :
    ReturnsInHanded {} Try.checked os 3 .any (Rows.bidAsksSpec.pre6 enc Try.prog Try.f3 Rows.bidAsksRow.domain false) (Rows.bidAsksSpec.post enc Try.prog Try.f3 false true false false) := by
  refine returnsInHanded_of_change_sized (C := Try.checked) Try.own started (by kernel_rfl) Try.func3
    (ChangeSpec.witness6 (enc := enc) (C := Try.checked) false ⟨#[], #[.agg #[.int .i64 0, .int .i64 0, .int .i64 0, .int .i64 0, .int .u64 0, .int .u64 0, .int .u64 0, .int .u64 0, .string ⟨#[]⟩], .slice none 0 0], []⟩ 8 (by kernel_rfl) (by kernel_rfl) (by kernel_rfl) (by kernel_rfl)) ?_
  intro W base args ds gs before hval0 hW hcnd hsz0 _
  have hval : ∀ (j : Nat) t v, Try.f3.params[j]? = some t → args[j]? = some v → Value.okWide Try.prog W .any base t v := hval0
  have hW' := hW
  obtain ⟨p, q, hA0, hV, rfl, hfz, hnd⟩ := hW
  have hA : DataW.TrodAll enc Try.prog W 0 (fun _ => true) true Try.f3.params.toList args.toList ds p := hA0
  have hsz : (DataW.weightsEach Try.prog (Try.f3.params.toList ++ Rows.bidAsksSpec.plain.varTypes Try.prog) (ds ++ gs)).all (· ≤ reachBytes) = true := hsz0
  rw [Try.params3] at hA hval hsz
  obtain ⟨v0, v1, d0, d1, p0, p1, rfl, rfl, rfl, h0, h1⟩ := trodAll_two hA
  obtain ⟨rfl, rfl⟩ := trodVars_none hV
  obtain ⟨a1, len1, cap1, rfl⟩ := okWide_slice Try.underlying27 (hval 1 27 v1 rfl rfl)
  have k0 := h0
  have k1 := h1
  have lt0 : ∀ x ∈ p0, x.block < W.heap.size := by obtain ⟨m, hm⟩ := k0; exact DataW.trod_lt m _ _ _ hm
  have lt1 : ∀ x ∈ p1, x.block < W.heap.size := by obtain ⟨m, hm⟩ := k1; exact DataW.trod_lt m _ _ _ hm
  obtain ⟨i0, rfl, hx0⟩ := open_ask (hval 0 26 v0 rfl rfl) h0
  obtain ⟨l1, rfl, hsl1, hd1⟩ := open_bytes h1
  have hreach1 : l1.length ≤ 140737488351232 := by
    rcases hd1 with rfl | ⟨el, sp, rfl, hel⟩
    · simp
    · have := sized_slice hsz (j := 1) (t := 27) (e := 5) rfl rfl Try.underlying27
      rw [Try.bytes8] at this
      simp only [reachBytes] at this
      omega
  clear hA0 hval0
  refine (bidAsks_any i0 hx0.k l1 _ W hreach1 hsl1).mono fun e W' ⟨he, bel⟩ => ?_
  subst he
  exact ⟨_, rfl, _, _, _, [], _, [], hW', trodAll_mk1 (shut_bool Try.underlying4 _), (trodAll_mk2 (Below.trod Try.laidOut (by kernel_rfl) (of_decide_eq_true (by kernel_rfl)) k0 bel lt0) (Below.trod Try.laidOut (by kernel_rfl) (of_decide_eq_true (by kernel_rfl)) k1 bel lt1)), rfl, bel.frame _, fun h => by cases h⟩

theorem bidAsks_over : Rows.bidAsksRow.holds Try.pinned (OpenSpec.ofChange Rows.bidAsksSpec) :=
  OpenClaim.holds_of_wide 3 Try.f3 rfl rfl rfl rfl rfl rfl rfl ⟨rfl, rfl, rfl, rfl, rfl⟩ rfl rfl rfl rfl rfl (by kernel_rfl) Try.func3 (by kernel_rfl)
    (of_decide_eq_true (by kernel_rfl)) (by unfold Func.isWrapper; first | (rw [if_pos (by decide +kernel)]; kernel_rfl) | (rw [if_neg (by decide +kernel)]; exact ⟨rfl, rfl⟩))
    (fun os started H enc _ => bidAsks_lifted os started H enc)

/-- The statement. -/
theorem bidAsks_proved : Rows.BidAsksSaid := bidAsks_over
end Go.Proofs.Ytiibeahgleaonaa
