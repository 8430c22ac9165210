/-
  DealReads answers true at every input, and leaves its arguments as they are.
  The walk of DealReads: whatever transfer, and data, are read of any octets, is as the reference's.
-/
import Derived.Deep.Cut
import Derived.Test.YtififfadodjmeaaK14
namespace Go.Proofs.Ytififfadodjmeaa
open Go.RowKit Go.Shelf

/-- Within a struct. -/
theorem run_equalIn_wide9 (a0 a1 a2 a3 b0 b1 b2 b3 : Int) (w : World) :
    (Op.equalIn 9999 26 (.agg #[.int .u64 a0, .int .u64 a1, .int .u64 a2, .int .u64 a3]) (.agg #[.int .u64 b0, .int .u64 b1, .int .u64 b2, .int .u64 b3])).run Try.prog w = .ok (wEq a0 a1 a2 a3 b0 b1 b2 b3) w :=
  run_equalIn_wide' 9997 a0 a1 a2 a3 b0 b1 b2 b3 w

set_option maxRecDepth 100000 in
set_option maxHeartbeats 4000000 in
theorem dealReads_any (l : List UInt8) (sv : Value) (w : World) (hl : l.length ≤ 140737488351232) (hsv : BSl 0 w.heap.size w sv l) :
    Calls Try.prog 4 #[sv] w fun e W' => e = .returned (.bool true) ∧ Below w.heap.size w W' := by
  have hmx : Try.prog.follows .mixedOrders = true := by kernel_rfl
  obtain ⟨a, c, rfl, -⟩ := hsv.shape
  go_enter Try.func4, Try.ntmps4
  go_upto_region 4 with (first
    | (go_at_call 18; refine (alive_any _).mono ?_; rintro e w1 ⟨rfl, hB⟩; replace hsv := (hsv.below hB (Nat.le_refl _)).mono (Nat.le_refl _) hB.size)
    | (go_at_call 19; refine (inOpen_any l _ _ hl hsv).mono ?_; rintro e w2 ⟨NB, rfl, hN, hO, hb⟩; have hNw := Nat.le_trans hB.size hN; replace hB := chain hB hb; replace hsv := (hsv.below hb (Nat.le_refl _)).mono (Nat.le_refl _) hb.size; clear hb hN)
    | (go_at_call 20; refine (refOpen6_any l _ _ hsv).mono ?_; rintro e w3 ⟨v, rfl, hv, hb⟩; replace hO := hO.below hb; replace hB := chain hB hb; clear hb hsv; obtain ⟨va, vm, vc, rfl⟩ := hv.shape3))
  generalize hS0 : openS l = s0 at *
  clear hS0
  generalize hA : w3.heap.size = A at *
  generalize hX : World.alloc _ _ = X3
  have kA : Blk X3 A 44 [.slice va vm vc, .int .i64 s0.2] := by rw [← hX]; exact Blk.new' (vs := [_, _]) hA
  have hNA : NB ≠ A := by have := hO.lt; omega
  replace hO : ObjP 80 X3 (some ⟨NB, 0, none⟩) s0 := by rw [← hX]; exact hO.below (chain0 _ _)
  have hwA : w.heap.size ≤ A := by rw [← hA]; exact hB.size
  replace hB : Below w.heap.size w X3 := by rw [← hX]; exact chainA hB _
  replace hv : BSl 0 X3.heap.size X3 (.slice va vm vc) s0.1 := by rw [← hX]; exact (hv.below (hA ▸ chain0 w3 _) (by omega)).mono (Nat.le_refl _) (by simp; omega)
  clear hX hA
  obtain ⟨a0, a1⟩ := Blk.c2 kA
  have R1 := Lib.hid (fun W v h => refGetInv_any (s := s0) v W h)
  have G1 := Lib.hid (fun W h => dealGet_any (p := some ⟨NB, 0, none⟩) (s := s0) W h)
  generalize getI s0 = r at *
  go_upto_region 5 with (first
    | (go_at_call 21; refine (R1.out _ _ hv).mono ?_; rintro e w4 ⟨v4, rfl, hv4, hb⟩; obtain ⟨xa, xc, rfl, -⟩ := hv4.shape; replace hO := hO.below hb; replace kA := kA.below hb kA.lt; replace hB := chain hB hb; clear hb hv a0 a1; obtain ⟨a0, a1⟩ := Blk.c2 kA; have fA := kA.frozen; have hlt := kA.lt))
  clear a0 a1 fA
  obtain ⟨kA1, hv1, hB1⟩ := stored_at (y := r.2.2) hv4 hB hwA ⟨_, _, _, rfl⟩ kA
  have hO1 := objP_stored (y := r.2.2) hO kA (Ne.symm hNA) ⟨xa, r.2.1.length, xc, rfl⟩
  generalize hB5 : w4.heap.size = B5 at *
  generalize hX : World.alloc _ _ = X5
  have kA2 : Blk X5 A 44 [.slice xa r.2.1.length xc, .int .i64 r.2.2] := by rw [← hX]; exact kA1.alloc _
  have kB5 : Blk X5 B5 23 (ivc r.1) := by rw [← hX]; exact Blk.new' (vs := ivc r.1) (by simp [hB5])
  have hB5N : B5 ≠ NB := by have := hO.lt; omega
  have hB5w : w.heap.size ≤ B5 := by rw [← hB5]; exact hB.size
  have hO2 : ObjP 80 X5 (some ⟨NB, 0, none⟩) s0 := by rw [← hX]; exact hO1.below (chain0 _ _)
  have hB2 : Below w.heap.size w X5 := by rw [← hX]; exact chainA hB1 _
  have hv2 : BSl 0 X5.heap.size X5 (.slice xa r.2.1.length xc) r.2.1 := by rw [← hX]; exact (hv1.below (chain0 _ _) (Nat.le_refl _)).mono (Nat.le_refl _) (by simp)
  have hB5l : A < B5 := hlt
  clear hX kA kA1 hv1 hB hB1 hO hO1 hv4 hlt hB5
  have kA := kA2
  have hO := hO2
  have hB := hB2
  have hv := hv2
  clear kA2 hO2 hB2 hv2
  go_upto_region 6 with (first
    | (go_at_call 22; refine (G1.out _ hO).mono ?_; rintro e w5 ⟨rfl, hO1, hG⟩; replace kA := kA.kept hG (fun e => hNA (by simpa using e.symm)); replace kB5 := kB5.kept hG (fun e => hB5N (by simpa using e)); replace hB := hB.grown hG hB.size (fun k e => by cases e; exact hNw); replace hv := (hv.to (Nat.le_refl _) hG (fun r e => by cases e; exact hO.noOct)).mono (Nat.le_refl _) hG.size))
  clear hO hG
  have hO := hO1
  clear hO1
  generalize hB6 : w5.heap.size = B6 at *
  generalize hX : World.alloc _ _ = X6
  have kB6 : Blk X6 B6 23 (ivc r.1) := by rw [← hX]; exact Blk.new' (vs := ivc r.1) hB6
  replace kA : Blk X6 A 44 [.slice xa r.2.1.length xc, .int .i64 r.2.2] := by rw [← hX]; exact kA.alloc _
  replace kB5 : Blk X6 B5 23 (ivc r.1) := by rw [← hX]; exact kB5.alloc _
  have hB6N : B6 ≠ NB := by have := hO.lt; omega
  have hB6w : w.heap.size ≤ B6 := by rw [← hB6]; exact hB.size
  replace hO : ObjP 80 X6 (some ⟨NB, 0, none⟩) r.2 := by rw [← hX]; exact hO.below (chain0 _ _)
  replace hB : Below w.heap.size w X6 := by rw [← hX]; exact chainA hB _
  replace hv : BSl 0 X6.heap.size X6 (.slice xa r.2.1.length xc) r.2.1 := by rw [← hX]; exact (hv.below (chain0 _ _) (by omega)).mono (Nat.le_refl _) (by simp; omega)
  clear hX hB6
  have rt2 : (r.1.rt.toList == r.1.rt.toList) = true := by simp
  have id2 : (r.1.id.toList == r.1.id.toList) = true := by simp
  refine wp_region_held_drew (S := fun W => W = X6.drew) hmx rfl ?_
  intro hS
  replace kA : Blk X6.drew A 44 _ := kA
  replace kB5 : Blk X6.drew _ _ _ := kB5
  replace kB6 : Blk X6.drew _ _ _ := kB6
  replace hO := hO.below (Below.refl _ X6).drew
  replace hB := hB.drew
  replace hv : BSl 0 X6.drew.heap.size X6.drew _ _ := (hv.below (Below.refl _ X6).drew (Nat.le_refl _)).mono (Nat.le_refl _) (Nat.le_refl _)
  generalize X6.drew = YX6 at *
  refine' wpAnyH_take (i := 0) (oi := _) (v := _) ?hi1 (by kernel_rfl) (by kernel_rfl) (by kernel_rfl) ?hQ1 (Or.inl ⟨?hw1, ?hy1⟩) hS ?rest1
  case hi1 => simp only [List.getElem?_toArray, List.getElem?_cons_zero]; rfl
  case hQ1 => exact fun _ _ _ h => h
  case hw1 => rfl
  case hy1 => intro W' hS'; subst hS'; obtain ⟨c0, c1, c2, c3, c4, c5, c6⟩ := Blk.c7 kB6; go_simp; with_reducible rfl
  try simp only [Act.put, List.setIfInBounds_toArray, List.set_cons_zero, List.set_cons_succ]
  refine' wpAnyH_take (i := 1) (oi := _) (v := _) ?hi2 (by kernel_rfl) (by kernel_rfl) (by kernel_rfl) ?hQ2 (Or.inl ⟨?hw2, ?hy2⟩) hS ?rest2
  case hi2 => simp only [List.getElem?_toArray, List.getElem?_cons_succ, List.getElem?_cons_zero]; rfl
  case hQ2 => exact fun _ _ _ h => h
  case hw2 => rfl
  case hy2 => intro W' hS'; subst hS'; obtain ⟨c0, c1, c2, c3, c4, c5, c6⟩ := Blk.c7 kB5; go_simp; with_reducible rfl
  try simp only [Act.put, List.setIfInBounds_toArray, List.set_cons_zero, List.set_cons_succ]
  refine' wpAnyH_take (i := 2) (oi := _) (v := _) ?hi3 (by kernel_rfl) (by kernel_rfl) (by kernel_rfl) ?hQ3 (Or.inl ⟨?hw3, ?hy3⟩) hS ?rest3
  case hi3 => simp only [List.getElem?_toArray, List.getElem?_cons_succ, List.getElem?_cons_zero]; rfl
  case hQ3 => exact fun _ _ _ h => h
  case hw3 => rfl
  case hy3 => intro W' hS'; go_simp; with_reducible rfl
  try simp only [Act.put, List.setIfInBounds_toArray, List.set_cons_zero, List.set_cons_succ]
  refine' wpAnyH_take (i := 3) (oi := _) (v := _) ?hi4 (by kernel_rfl) (by kernel_rfl) (by kernel_rfl) ?hQ4 (Or.inl ⟨?hw4, ?hy4⟩) hS ?rest4
  case hi4 => simp only [List.getElem?_toArray, List.getElem?_cons_succ, List.getElem?_cons_zero]; rfl
  case hQ4 => exact fun _ _ _ h => h
  case hw4 => rfl
  case hy4 => intro W' hS'; go_simp; with_reducible rfl
  try simp only [Act.put, List.setIfInBounds_toArray, List.set_cons_zero, List.set_cons_succ]
  refine' wpAnyH_take (i := 4) (oi := _) (v := _) ?hi5 (by kernel_rfl) (by kernel_rfl) (by kernel_rfl) ?hQ5 (Or.inl ⟨?hw5, ?hy5⟩) hS ?rest5
  case hi5 => simp only [List.getElem?_toArray, List.getElem?_cons_succ, List.getElem?_cons_zero]; rfl
  case hQ5 => exact fun _ _ _ h => h
  case hw5 => rfl
  case hy5 => intro W' hS'; go_simp; with_reducible rfl
  try simp only [Act.put, List.setIfInBounds_toArray, List.set_cons_zero, List.set_cons_succ]
  refine' wpAnyH_take (i := 7) (oi := _) (v := _) ?hi6 (by kernel_rfl) (by kernel_rfl) (by kernel_rfl) ?hQ6 (Or.inl ⟨?hw6, ?hy6⟩) hS ?rest6
  case hi6 => simp only [List.getElem?_toArray, List.getElem?_cons_succ, List.getElem?_cons_zero]; rfl
  case hQ6 => exact fun _ _ _ h => h
  case hw6 => rfl
  case hy6 => intro W' hS'; go_simp; with_reducible rfl
  try simp only [Act.put, List.setIfInBounds_toArray, List.set_cons_zero, List.set_cons_succ]
  refine' wpAnyH_take (i := 8) (oi := _) (v := _) ?hi7 (by kernel_rfl) (by kernel_rfl) (by kernel_rfl) ?hQ7 (Or.inl ⟨?hw7, ?hy7⟩) hS ?rest7
  case hi7 => simp only [List.getElem?_toArray, List.getElem?_cons_succ, List.getElem?_cons_zero]; rfl
  case hQ7 => exact fun _ _ _ h => h
  case hw7 => rfl
  case hy7 => intro W' hS'; subst hS'; obtain ⟨a0, a1⟩ := Blk.c2 kA; go_simp; with_reducible rfl
  try simp only [Act.put, List.setIfInBounds_toArray, List.set_cons_zero, List.set_cons_succ]
  refine wpAnyH_ready (rs := [5]) (by kernel_rfl) (by simp) ?_
  refine' AllReadyH.cons (o := _) ?ho8 (fun K hK => ?st8) AllReadyH.nil
  case ho8 => simp only [List.getElem?_toArray, List.getElem?_cons_succ, List.getElem?_cons_zero]; rfl
  case st8 =>
    go_simp
    refine (inErr_any _ hO).mono ?_
    rintro e Y1 ⟨rfl, rfl⟩
    refine hK.out _ _ rfl (fun hS => ?_)
    clear hK K
    try simp only [Act.put, List.setIfInBounds_toArray, List.set_cons_zero, List.set_cons_succ]
    refine wpAnyH_ready (rs := [6]) (by kernel_rfl) (by simp) ?_
    refine' AllReadyH.cons (o := _) ?ho9 (fun K hK => ?st9) AllReadyH.nil
    case ho9 => simp only [List.getElem?_toArray, List.getElem?_cons_succ, List.getElem?_cons_zero]; rfl
    case st9 =>
      go_simp
      refine (num_law _ _).mono ?_
      rintro e Y1 ⟨rfl, rfl⟩
      refine hK.out _ _ rfl (fun hS => ?_)
      clear hK K
      try simp only [Act.put, List.setIfInBounds_toArray, List.set_cons_zero, List.set_cons_succ]
      refine' wpAnyH_take (i := 9) (oi := _) (v := _) ?hi10 (by kernel_rfl) (by kernel_rfl) (by kernel_rfl) ?hQ10 (Or.inl ⟨?hw10, ?hy10⟩) hS ?rest10
      case hi10 => simp only [List.getElem?_toArray, List.getElem?_cons_succ, List.getElem?_cons_zero]; rfl
      case hQ10 => exact fun _ _ _ h => h
      case hw10 => rfl
      case hy10 => intro W' hS'; go_simp; with_reducible rfl
      try simp only [Act.put, List.setIfInBounds_toArray, List.set_cons_zero, List.set_cons_succ]
      refine' wpAnyH_take (i := 10) (oi := _) (v := _) ?hi11 (by kernel_rfl) (by kernel_rfl) (by kernel_rfl) ?hQ11 (Or.inl ⟨?hw11, ?hy11⟩) hS ?rest11
      case hi11 => simp only [List.getElem?_toArray, List.getElem?_cons_succ, List.getElem?_cons_zero]; rfl
      case hQ11 => exact fun _ _ _ h => h
      case hw11 => rfl
      case hy11 => intro W' hS'; go_simp; with_reducible rfl
      try simp only [Act.put, List.setIfInBounds_toArray, List.set_cons_zero, List.set_cons_succ]
      refine' wpAnyH_take (i := 11) (oi := _) (v := _) ?hi12 (by kernel_rfl) (by kernel_rfl) (by kernel_rfl) ?hQ12 (Or.inl ⟨?hw12, ?hy12⟩) hS ?rest12
      case hi12 => simp only [List.getElem?_toArray, List.getElem?_cons_succ, List.getElem?_cons_zero]; rfl
      case hQ12 => exact fun _ _ _ h => h
      case hw12 => rfl
      case hy12 => intro W' hS'; go_simp; with_reducible rfl
      try simp only [Act.put, List.setIfInBounds_toArray, List.set_cons_zero, List.set_cons_succ]
      refine' wpAnyH_take (i := 12) (oi := _) (v := _) ?hi13 (by kernel_rfl) (by kernel_rfl) (by kernel_rfl) ?hQ13 (Or.inl ⟨?hw13, ?hy13⟩) hS ?rest13
      case hi13 => simp only [List.getElem?_toArray, List.getElem?_cons_succ, List.getElem?_cons_zero]; rfl
      case hQ13 => exact fun _ _ _ h => h
      case hw13 => rfl
      case hy13 => intro W' hS'; go_simp; with_reducible rfl
      try simp only [Act.put, List.setIfInBounds_toArray, List.set_cons_zero, List.set_cons_succ]
      refine' wpAnyH_take (i := 14) (oi := _) (v := _) ?hi14 (by kernel_rfl) (by kernel_rfl) (by kernel_rfl) ?hQ14 (Or.inl ⟨?hw14, ?hy14⟩) hS ?rest14
      case hi14 => simp only [List.getElem?_toArray, List.getElem?_cons_succ, List.getElem?_cons_zero]; rfl
      case hQ14 => exact fun _ _ _ h => h
      case hw14 => rfl
      case hy14 => intro W' hS'; go_simp; with_reducible rfl
      try simp only [Act.put, List.setIfInBounds_toArray, List.set_cons_zero, List.set_cons_succ]
      refine' wpAnyH_take (i := 15) (oi := _) (v := _) ?hi15 (by kernel_rfl) (by kernel_rfl) (by kernel_rfl) ?hQ15 (Or.inl ⟨?hw15, ?hy15⟩) hS ?rest15
      case hi15 => simp only [List.getElem?_toArray, List.getElem?_cons_succ, List.getElem?_cons_zero]; rfl
      case hQ15 => exact fun _ _ _ h => h
      case hw15 => rfl
      case hy15 => intro W' hS'; subst hS'; obtain ⟨a0, a1⟩ := Blk.c2 kA; go_simp; with_reducible rfl
      try simp only [Act.put, List.setIfInBounds_toArray, List.set_cons_zero, List.set_cons_succ]
      refine' wpAnyH_take (i := 16) (oi := _) (v := _) ?hi16 (by kernel_rfl) (by kernel_rfl) (by kernel_rfl) ?hQ16 (Or.inl ⟨?hw16, ?hy16⟩) hS ?rest16
      case hi16 => simp only [List.getElem?_toArray, List.getElem?_cons_succ, List.getElem?_cons_zero]; rfl
      case hQ16 => exact fun _ _ _ h => h
      case hw16 => rfl
      case hy16 => intro W' hS'; go_simp; with_reducible rfl
      try simp only [Act.put, List.setIfInBounds_toArray, List.set_cons_zero, List.set_cons_succ]
      refine wpAnyH_ready (rs := [13]) (by kernel_rfl) (by simp) ?_
      refine' AllReadyH.cons (o := _) ?ho17 (fun K hK => ?st17) AllReadyH.nil
      case ho17 => simp only [List.getElem?_toArray, List.getElem?_cons_succ, List.getElem?_cons_zero]; rfl
      case st17 =>
        go_simp
        refine (inLeft_any _ hO).mono ?_
        rintro e Y1 ⟨rfl, rfl⟩
        refine hK.out _ _ rfl (fun hS => ?_)
        clear hK K
        try simp only [Act.put, List.setIfInBounds_toArray, List.set_cons_zero, List.set_cons_succ]
        refine' wpAnyH_take (i := 17) (oi := _) (v := _) ?hi18 (by kernel_rfl) (by kernel_rfl) (by kernel_rfl) ?hQ18 (Or.inl ⟨?hw18, ?hy18⟩) hS ?rest18
        case hi18 => simp only [List.getElem?_toArray, List.getElem?_cons_succ, List.getElem?_cons_zero]; rfl
        case hQ18 => exact fun _ _ _ h => h
        case hw18 => rfl
        case hy18 => intro W' hS'; go_simp; with_reducible rfl
        try simp only [Act.put, List.setIfInBounds_toArray, List.set_cons_zero, List.set_cons_succ]
        refine' wpAnyH_take (i := 18) (oi := _) (v := _) ?hi19 (by kernel_rfl) (by kernel_rfl) (by kernel_rfl) ?hQ19 (Or.inl ⟨?hw19, ?hy19⟩) hS ?rest19
        case hi19 => simp only [List.getElem?_toArray, List.getElem?_cons_succ, List.getElem?_cons_zero]; rfl
        case hQ19 => exact fun _ _ _ h => h
        case hw19 => rfl
        case hy19 => intro W' hS'; go_simp; with_reducible rfl
        try simp only [Act.put, List.setIfInBounds_toArray, List.set_cons_zero, List.set_cons_succ]
        refine wpAnyH_done (by kernel_rfl) ?_ _
        clear hS rt2 id2 kB5 kB6
        obtain ⟨a0, a1⟩ := Blk.c2 kA
        have R2 := Lib.hid (fun W v h => refGetVar_any (s := r.2) v W h)
        have G2 := Lib.hid (fun W h => dealGetVar_any (p := some ⟨NB, 0, none⟩) (s := r.2) W h)
        generalize r.2 = s1 at *
        generalize getV s1 = q at *
        go_upto_region 9 with (first
          | (go_at_call 25; refine (R2.out _ _ hv).mono ?_; rintro e w6 ⟨v6, rfl, hv6, hb⟩; obtain ⟨ya, yc, rfl, -⟩ := hv6.shape; replace hO := hO.below hb; replace kA := kA.below hb kA.lt; replace hB := chain hB hb; clear hb hv a0 a1; obtain ⟨a0, a1⟩ := Blk.c2 kA; have fA := kA.frozen; have hlt := kA.lt))
        clear a0 a1 fA
        obtain ⟨kA1, hv1, hB1⟩ := stored_at (y := q.2.2) hv6 hB hwA ⟨_, _, _, rfl⟩ kA
        have hO1 := objP_stored (y := q.2.2) hO kA (Ne.symm hNA) ⟨ya, q.2.1.length, yc, rfl⟩
        generalize hB8 : w6.heap.size = B8 at *
        generalize hX : World.alloc _ _ = X8
        have kA2 : Blk X8 A 44 [.slice ya q.2.1.length yc, .int .i64 q.2.2] := by rw [← hX]; exact kA1.alloc _
        have kB8 : Blk X8 B8 28 (svc q.1) := by rw [← hX]; exact Blk.new' (vs := svc q.1) (by simp [hB8])
        have hB8N : B8 ≠ NB := by have := hO.lt; omega
        have hB8w : w.heap.size ≤ B8 := by rw [← hB8]; exact hB.size
        have hO2 : ObjP 80 X8 (some ⟨NB, 0, none⟩) s1 := by rw [← hX]; exact hO1.below (chain0 _ _)
        have hB2 : Below w.heap.size w X8 := by rw [← hX]; exact chainA hB1 _
        have hv2 : BSl 0 X8.heap.size X8 (.slice ya q.2.1.length yc) q.2.1 := by rw [← hX]; exact (hv1.below (chain0 _ _) (Nat.le_refl _)).mono (Nat.le_refl _) (by simp)
        have hB8l : A < B8 := hlt
        clear hX kA kA1 hv1 hB hB1 hO hO1 hv6 hlt hB8
        have kA := kA2
        have hO := hO2
        have hB := hB2
        have hv := hv2
        clear kA2 hO2 hB2 hv2
        go_upto_region 10 with (first
          | (go_at_call 26; refine (G2.out _ hO).mono ?_; rintro e w7 ⟨rfl, hO1, hG⟩; replace kA := kA.kept hG (fun e => hNA (by simpa using e.symm)); replace kB8 := kB8.kept hG (fun e => hB8N (by simpa using e)); replace hB := hB.grown hG hB.size (fun k e => by cases e; exact hNw); replace hv := (hv.to (Nat.le_refl _) hG (fun r e => by cases e; exact hO.noOct)).mono (Nat.le_refl _) hG.size))
        clear hO hG
        have hO := hO1
        clear hO1
        generalize hB9 : w7.heap.size = B9 at *
        generalize hX : World.alloc _ _ = X9
        have kB9 : Blk X9 B9 28 (svc q.1) := by rw [← hX]; exact Blk.new' (vs := svc q.1) hB9
        replace kA : Blk X9 A 44 [.slice ya q.2.1.length yc, .int .i64 q.2.2] := by rw [← hX]; exact kA.alloc _
        replace kB8 : Blk X9 B8 28 (svc q.1) := by rw [← hX]; exact kB8.alloc _
        have hB9N : B9 ≠ NB := by have := hO.lt; omega
        have hB9w : w.heap.size ≤ B9 := by rw [← hB9]; exact hB.size
        replace hO : ObjP 80 X9 (some ⟨NB, 0, none⟩) q.2 := by rw [← hX]; exact hO.below (chain0 _ _)
        replace hB : Below w.heap.size w X9 := by rw [← hX]; exact chainA hB _
        replace hv : BSl 0 X9.heap.size X9 (.slice ya q.2.1.length yc) q.2.1 := by rw [← hX]; exact (hv.below (chain0 _ _) (by omega)).mono (Nat.le_refl _) (by simp; omega)
        clear hX hB9
        have hweq := @run_equalIn_wide9
        have hwr := wEq_refl
        refine wp_region_held_drew (S := fun W => W = X9.drew) hmx rfl ?_
        intro hS
        replace kA : Blk X9.drew A 44 _ := kA
        replace kB8 : Blk X9.drew _ _ _ := kB8
        replace kB9 : Blk X9.drew _ _ _ := kB9
        replace hO := hO.below (Below.refl _ X9).drew
        replace hB := hB.drew
        replace hv : BSl 0 X9.drew.heap.size X9.drew _ _ := (hv.below (Below.refl _ X9).drew (Nat.le_refl _)).mono (Nat.le_refl _) (Nat.le_refl _)
        generalize X9.drew = YX9 at *
        refine' wpAnyH_take (i := 0) (oi := _) (v := _) ?hi20 (by kernel_rfl) (by kernel_rfl) (by kernel_rfl) ?hQ20 (Or.inl ⟨?hw20, ?hy20⟩) hS ?rest20
        case hi20 => simp only [List.getElem?_toArray, List.getElem?_cons_zero]; rfl
        case hQ20 => exact fun _ _ _ h => h
        case hw20 => rfl
        case hy20 => intro W' hS'; subst hS'; obtain ⟨c0, c1, c2, c3, c4⟩ := Blk.c5 kB9; go_simp; with_reducible rfl
        try simp only [Act.put, List.setIfInBounds_toArray, List.set_cons_zero, List.set_cons_succ]
        refine' wpAnyH_take (i := 1) (oi := _) (v := _) ?hi21 (by kernel_rfl) (by kernel_rfl) (by kernel_rfl) ?hQ21 (Or.inl ⟨?hw21, ?hy21⟩) hS ?rest21
        case hi21 => simp only [List.getElem?_toArray, List.getElem?_cons_succ, List.getElem?_cons_zero]; rfl
        case hQ21 => exact fun _ _ _ h => h
        case hw21 => rfl
        case hy21 => intro W' hS'; subst hS'; obtain ⟨c0, c1, c2, c3, c4⟩ := Blk.c5 kB8; go_simp; with_reducible rfl
        try simp only [Act.put, List.setIfInBounds_toArray, List.set_cons_zero, List.set_cons_succ]
        refine' wpAnyH_take (i := 2) (oi := _) (v := _) ?hi22 (by kernel_rfl) (by kernel_rfl) (by kernel_rfl) ?hQ22 (Or.inl ⟨?hw22, ?hy22⟩) hS ?rest22
        case hi22 => simp only [List.getElem?_toArray, List.getElem?_cons_succ, List.getElem?_cons_zero]; rfl
        case hQ22 => exact fun _ _ _ h => h
        case hw22 => rfl
        case hy22 => intro W' hS'; go_simp; with_reducible rfl
        try simp only [Act.put, List.setIfInBounds_toArray, List.set_cons_zero, List.set_cons_succ]
        refine' wpAnyH_take (i := 3) (oi := _) (v := _) ?hi23 (by kernel_rfl) (by kernel_rfl) (by kernel_rfl) ?hQ23 (Or.inl ⟨?hw23, ?hy23⟩) hS ?rest23
        case hi23 => simp only [List.getElem?_toArray, List.getElem?_cons_succ, List.getElem?_cons_zero]; rfl
        case hQ23 => exact fun _ _ _ h => h
        case hw23 => rfl
        case hy23 => intro W' hS'; go_simp; with_reducible rfl
        try simp only [Act.put, List.setIfInBounds_toArray, List.set_cons_zero, List.set_cons_succ]
        refine' wpAnyH_take (i := 4) (oi := _) (v := _) ?hi24 (by kernel_rfl) (by kernel_rfl) (by kernel_rfl) ?hQ24 (Or.inl ⟨?hw24, ?hy24⟩) hS ?rest24
        case hi24 => simp only [List.getElem?_toArray, List.getElem?_cons_succ, List.getElem?_cons_zero]; rfl
        case hQ24 => exact fun _ _ _ h => h
        case hw24 => rfl
        case hy24 => intro W' hS'; go_simp; with_reducible rfl
        try simp only [Act.put, List.setIfInBounds_toArray, List.set_cons_zero, List.set_cons_succ]
        refine' wpAnyH_take (i := 7) (oi := _) (v := _) ?hi25 (by kernel_rfl) (by kernel_rfl) (by kernel_rfl) ?hQ25 (Or.inl ⟨?hw25, ?hy25⟩) hS ?rest25
        case hi25 => simp only [List.getElem?_toArray, List.getElem?_cons_succ, List.getElem?_cons_zero]; rfl
        case hQ25 => exact fun _ _ _ h => h
        case hw25 => rfl
        case hy25 => intro W' hS'; go_simp; with_reducible rfl
        try simp only [Act.put, List.setIfInBounds_toArray, List.set_cons_zero, List.set_cons_succ]
        refine' wpAnyH_take (i := 8) (oi := _) (v := _) ?hi26 (by kernel_rfl) (by kernel_rfl) (by kernel_rfl) ?hQ26 (Or.inl ⟨?hw26, ?hy26⟩) hS ?rest26
        case hi26 => simp only [List.getElem?_toArray, List.getElem?_cons_succ, List.getElem?_cons_zero]; rfl
        case hQ26 => exact fun _ _ _ h => h
        case hw26 => rfl
        case hy26 => intro W' hS'; subst hS'; obtain ⟨a0, a1⟩ := Blk.c2 kA; go_simp; with_reducible rfl
        try simp only [Act.put, List.setIfInBounds_toArray, List.set_cons_zero, List.set_cons_succ]
        refine wpAnyH_ready (rs := [5]) (by kernel_rfl) (by simp) ?_
        refine' AllReadyH.cons (o := _) ?ho27 (fun K hK => ?st27) AllReadyH.nil
        case ho27 => simp only [List.getElem?_toArray, List.getElem?_cons_succ, List.getElem?_cons_zero]; rfl
        case st27 =>
          go_simp
          refine (inErr_any _ hO).mono ?_
          rintro e Y1 ⟨rfl, rfl⟩
          refine hK.out _ _ rfl (fun hS => ?_)
          clear hK K
          try simp only [Act.put, List.setIfInBounds_toArray, List.set_cons_zero, List.set_cons_succ]
          refine wpAnyH_ready (rs := [6]) (by kernel_rfl) (by simp) ?_
          refine' AllReadyH.cons (o := _) ?ho28 (fun K hK => ?st28) AllReadyH.nil
          case ho28 => simp only [List.getElem?_toArray, List.getElem?_cons_succ, List.getElem?_cons_zero]; rfl
          case st28 =>
            go_simp
            refine (num_law _ _).mono ?_
            rintro e Y1 ⟨rfl, rfl⟩
            refine hK.out _ _ rfl (fun hS => ?_)
            clear hK K
            try simp only [Act.put, List.setIfInBounds_toArray, List.set_cons_zero, List.set_cons_succ]
            refine' wpAnyH_take (i := 9) (oi := _) (v := _) ?hi29 (by kernel_rfl) (by kernel_rfl) (by kernel_rfl) ?hQ29 (Or.inl ⟨?hw29, ?hy29⟩) hS ?rest29
            case hi29 => simp only [List.getElem?_toArray, List.getElem?_cons_succ, List.getElem?_cons_zero]; rfl
            case hQ29 => exact fun _ _ _ h => h
            case hw29 => rfl
            case hy29 => intro W' hS'; go_simp; with_reducible rfl
            try simp only [Act.put, List.setIfInBounds_toArray, List.set_cons_zero, List.set_cons_succ]
            refine' wpAnyH_take (i := 10) (oi := _) (v := _) ?hi30 (by kernel_rfl) (by kernel_rfl) (by kernel_rfl) ?hQ30 (Or.inl ⟨?hw30, ?hy30⟩) hS ?rest30
            case hi30 => simp only [List.getElem?_toArray, List.getElem?_cons_succ, List.getElem?_cons_zero]; rfl
            case hQ30 => exact fun _ _ _ h => h
            case hw30 => rfl
            case hy30 => intro W' hS'; go_simp; with_reducible rfl
            try simp only [Act.put, List.setIfInBounds_toArray, List.set_cons_zero, List.set_cons_succ]
            refine' wpAnyH_take (i := 11) (oi := _) (v := _) ?hi31 (by kernel_rfl) (by kernel_rfl) (by kernel_rfl) ?hQ31 (Or.inl ⟨?hw31, ?hy31⟩) hS ?rest31
            case hi31 => simp only [List.getElem?_toArray, List.getElem?_cons_succ, List.getElem?_cons_zero]; rfl
            case hQ31 => exact fun _ _ _ h => h
            case hw31 => rfl
            case hy31 => intro W' hS'; go_simp; with_reducible rfl
            try simp only [Act.put, List.setIfInBounds_toArray, List.set_cons_zero, List.set_cons_succ]
            refine' wpAnyH_take (i := 12) (oi := _) (v := _) ?hi32 (by kernel_rfl) (by kernel_rfl) (by kernel_rfl) ?hQ32 (Or.inl ⟨?hw32, ?hy32⟩) hS ?rest32
            case hi32 => simp only [List.getElem?_toArray, List.getElem?_cons_succ, List.getElem?_cons_zero]; rfl
            case hQ32 => exact fun _ _ _ h => h
            case hw32 => rfl
            case hy32 => intro W' hS'; go_simp; with_reducible rfl
            try simp only [Act.put, List.setIfInBounds_toArray, List.set_cons_zero, List.set_cons_succ]
            refine' wpAnyH_take (i := 14) (oi := _) (v := _) ?hi33 (by kernel_rfl) (by kernel_rfl) (by kernel_rfl) ?hQ33 (Or.inl ⟨?hw33, ?hy33⟩) hS ?rest33
            case hi33 => simp only [List.getElem?_toArray, List.getElem?_cons_succ, List.getElem?_cons_zero]; rfl
            case hQ33 => exact fun _ _ _ h => h
            case hw33 => rfl
            case hy33 => intro W' hS'; go_simp; with_reducible rfl
            try simp only [Act.put, List.setIfInBounds_toArray, List.set_cons_zero, List.set_cons_succ]
            refine' wpAnyH_take (i := 15) (oi := _) (v := _) ?hi34 (by kernel_rfl) (by kernel_rfl) (by kernel_rfl) ?hQ34 (Or.inl ⟨?hw34, ?hy34⟩) hS ?rest34
            case hi34 => simp only [List.getElem?_toArray, List.getElem?_cons_succ, List.getElem?_cons_zero]; rfl
            case hQ34 => exact fun _ _ _ h => h
            case hw34 => rfl
            case hy34 => intro W' hS'; subst hS'; obtain ⟨a0, a1⟩ := Blk.c2 kA; go_simp; with_reducible rfl
            try simp only [Act.put, List.setIfInBounds_toArray, List.set_cons_zero, List.set_cons_succ]
            refine' wpAnyH_take (i := 16) (oi := _) (v := _) ?hi35 (by kernel_rfl) (by kernel_rfl) (by kernel_rfl) ?hQ35 (Or.inl ⟨?hw35, ?hy35⟩) hS ?rest35
            case hi35 => simp only [List.getElem?_toArray, List.getElem?_cons_succ, List.getElem?_cons_zero]; rfl
            case hQ35 => exact fun _ _ _ h => h
            case hw35 => rfl
            case hy35 => intro W' hS'; go_simp; with_reducible rfl
            try simp only [Act.put, List.setIfInBounds_toArray, List.set_cons_zero, List.set_cons_succ]
            refine wpAnyH_ready (rs := [13]) (by kernel_rfl) (by simp) ?_
            refine' AllReadyH.cons (o := _) ?ho36 (fun K hK => ?st36) AllReadyH.nil
            case ho36 => simp only [List.getElem?_toArray, List.getElem?_cons_succ, List.getElem?_cons_zero]; rfl
            case st36 =>
              go_simp
              refine (inLeft_any _ hO).mono ?_
              rintro e Y1 ⟨rfl, rfl⟩
              refine hK.out _ _ rfl (fun hS => ?_)
              clear hK K
              try simp only [Act.put, List.setIfInBounds_toArray, List.set_cons_zero, List.set_cons_succ]
              refine' wpAnyH_take (i := 17) (oi := _) (v := _) ?hi37 (by kernel_rfl) (by kernel_rfl) (by kernel_rfl) ?hQ37 (Or.inl ⟨?hw37, ?hy37⟩) hS ?rest37
              case hi37 => simp only [List.getElem?_toArray, List.getElem?_cons_succ, List.getElem?_cons_zero]; rfl
              case hQ37 => exact fun _ _ _ h => h
              case hw37 => rfl
              case hy37 => intro W' hS'; go_simp; with_reducible rfl
              try simp only [Act.put, List.setIfInBounds_toArray, List.set_cons_zero, List.set_cons_succ]
              refine' wpAnyH_take (i := 18) (oi := _) (v := _) ?hi38 (by kernel_rfl) (by kernel_rfl) (by kernel_rfl) ?hQ38 (Or.inl ⟨?hw38, ?hy38⟩) hS ?rest38
              case hi38 => simp only [List.getElem?_toArray, List.getElem?_cons_succ, List.getElem?_cons_zero]; rfl
              case hQ38 => exact fun _ _ _ h => h
              case hw38 => rfl
              case hy38 => intro W' hS'; go_simp; with_reducible rfl
              try simp only [Act.put, List.setIfInBounds_toArray, List.set_cons_zero, List.set_cons_succ]
              refine' wpAnyH_take (i := 19) (oi := _) (v := _) ?hi39 (by kernel_rfl) (by kernel_rfl) (by kernel_rfl) ?hQ39 (Or.inl ⟨?hw39, ?hy39⟩) hS ?rest39
              case hi39 => simp only [List.getElem?_toArray, List.getElem?_cons_succ, List.getElem?_cons_zero]; rfl
              case hQ39 => exact fun _ _ _ h => h
              case hw39 => rfl
              case hy39 => intro W' hS'; go_simp; with_reducible rfl
              try simp only [Act.put, List.setIfInBounds_toArray, List.set_cons_zero, List.set_cons_succ]
              refine wpAnyH_done (by kernel_rfl) ?_ _
              go_wp2_with fail
              go_ret
              exact ⟨rfl, hB⟩
end Go.Proofs.Ytififfadodjmeaa

namespace Go.Proofs.Ytififfadodjmeaa
open Go.ChangeShapes Go.WideShapes Go.ChangeAt Go.RowKit Go.Deep
open Go.ChangeMaps (open_string)

set_option maxRecDepth 100000 in
theorem dealReads_lifted (os : Os) (started : os.Started) (H : Type) (enc : TypeId × Value → H) :
    ReturnsInHanded {} Try.checked os 4 .any (Rows.dealReadsSpec.pre6 enc Try.prog Try.f4 Rows.dealReadsRow.domain false) (Rows.dealReadsSpec.post enc Try.prog Try.f4 false true false false) := by
  refine returnsInHanded_of_change_sized (C := Try.checked) Try.own started (by kernel_rfl) Try.func4
    (ChangeSpec.witness6 (enc := enc) (C := Try.checked) false ⟨#[], #[.slice none 0 0], []⟩ 8 (by kernel_rfl) (by kernel_rfl) (by kernel_rfl) (by kernel_rfl)) ?_
  intro W base args ds gs before hval0 hW hcnd hsz0 _
  have hval : ∀ (j : Nat) t v, Try.f4.params[j]? = some t → args[j]? = some v → Value.okWide Try.prog W .any base t v := hval0
  have hW' := hW
  obtain ⟨p, q, hA0, hV, rfl, hfz, hnd⟩ := hW
  have hA : DataW.TrodAll enc Try.prog W 0 (fun _ => true) true Try.f4.params.toList args.toList ds p := hA0
  have hsz : (DataW.weightsEach Try.prog (Try.f4.params.toList ++ Rows.dealReadsSpec.plain.varTypes Try.prog) (ds ++ gs)).all (· ≤ reachBytes) = true := hsz0
  rw [Try.params4] at hA hval hsz
  obtain ⟨v0, d0, rfl, rfl, h0⟩ := trodAll_one hA
  obtain ⟨rfl, rfl⟩ := trodVars_none hV
  obtain ⟨a0, len0, cap0, rfl⟩ := okWide_slice Try.underlying37 (hval 0 37 v0 rfl rfl)
  have k0 := h0
  have lt0 : ∀ x ∈ p, x.block < W.heap.size := by obtain ⟨m, hm⟩ := k0; exact DataW.trod_lt m _ _ _ hm
  obtain ⟨l0, rfl, hsl0, hd0⟩ := open_bytes h0
  have hreach0 : l0.length ≤ 140737488351232 := by
    rcases hd0 with rfl | ⟨el, sp, rfl, hel⟩
    · simp
    · have := sized_slice hsz (j := 0) (t := 37) (e := 5) rfl rfl Try.underlying37
      rw [Try.bytes8] at this
      simp only [reachBytes] at this
      omega
  clear hA0 hval0
  refine (dealReads_any l0 _ W hreach0 hsl0).mono fun e W' ⟨he, bel⟩ => ?_
  subst he
  exact ⟨_, rfl, _, _, _, [], _, [], hW', trodAll_mk1 (shut_bool Try.underlying4 _), (trodAll_mk1 (Below.trod Try.laidOut (by kernel_rfl) (of_decide_eq_true (by kernel_rfl)) k0 bel lt0)), rfl, bel.frame _, fun h => by cases h⟩

theorem dealReads_over : Rows.dealReadsRow.holds Try.pinned (OpenSpec.ofChange Rows.dealReadsSpec) :=
  OpenClaim.holds_of_wide 4 Try.f4 rfl rfl rfl rfl rfl rfl rfl ⟨rfl, rfl, rfl, rfl, rfl⟩ rfl rfl rfl rfl rfl (by kernel_rfl) Try.func4 (by kernel_rfl)
    (of_decide_eq_true (by kernel_rfl)) (by unfold Func.isWrapper; first | (rw [if_pos (by decide +kernel)]; kernel_rfl) | (rw [if_neg (by decide +kernel)]; exact ⟨rfl, rfl⟩))
    (fun os started H enc _ => dealReads_lifted os started H enc)

/-- The statement. -/
theorem dealReads_proved : Rows.DealReadsSaid := dealReads_over
end Go.Proofs.Ytififfadodjmeaa
