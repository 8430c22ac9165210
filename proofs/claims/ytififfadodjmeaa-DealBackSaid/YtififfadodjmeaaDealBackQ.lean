/-
  DealBack answers true at every input, and leaves its arguments as they are.
  The walk of DealBack: transfers and data that may be come back, and are put as the reference puts them.
-/
import Derived.Deep.Cut
import Derived.ChangeMaps5
import Derived.Test.YtififfadodjmeaaK14
namespace Go.Proofs.Ytififfadodjmeaa
open Go.RowKit Go.Shelf

/-- Within a struct. -/
theorem run_equalIn_wide8 (a0 a1 a2 a3 b0 b1 b2 b3 : Int) (w : World) :
    (Op.equalIn 9999 26 (.agg #[.int .u64 a0, .int .u64 a1, .int .u64 a2, .int .u64 a3]) (.agg #[.int .u64 b0, .int .u64 b1, .int .u64 b2, .int .u64 b3])).run Try.prog w = .ok (wEq a0 a1 a2 a3 b0 b1 b2 b3) w :=
  run_equalIn_wide' 9997 a0 a1 a2 a3 b0 b1 b2 b3 w
theorem openS_little {l : List UInt8} (h : l.length ≤ 8192) : openS l = (l, 0) := if_pos h
theorem backI {p : Option Addr} {i : Trf} (h : maybeI i) (R : List UInt8) (w : World) (hO : ObjP 80 w p (encI i ++ R, 0)) :
    Calls Try.prog 22 #[.pointer p] w fun e W' => e = .returned (ivv i) ∧ ObjP 80 W' p (R, 0) ∧ w.grownBy W' (p.map (·.block)) := by
  have := dealGet_any w hO
  rw [getI_ok h R] at this
  exact this
theorem backV {p : Option Addr} {v : Sid} (h : maybeV v) (h4 : Ok4 v.a0 v.a1 v.a2 v.a3) (w : World) (hO : ObjP 80 w p (encV v, 0)) :
    Calls Try.prog 26 #[.pointer p] w fun e W' => e = .returned (svv v) ∧ ObjP 80 W' p ([], 0) ∧ w.grownBy W' (p.map (·.block)) := by
  have := dealGetVar_any w hO
  have e := getV_ok h h4 []
  rw [List.append_nil] at e
  rw [e] at this
  exact this

set_option maxRecDepth 100000 in
set_option maxHeartbeats 8000000 in
theorem dealBack_any (i : Trf) (v : Sid) (hv4 : Ok4 v.a0 v.a1 v.a2 v.a3) (w : World) :
    Calls Try.prog 5 #[ivv i, svv v] w fun e W' => e = .returned (.bool true) ∧ Below w.heap.size w W' := by
  have hmx : Try.prog.follows .mixedOrders = true := by kernel_rfl
  have hne0 : True := trivial
  have kI : Blk ((w.alloc (.cells (ivc i).toArray 23)).alloc (.cells (svc v).toArray 28)) w.heap.size 23 (ivc i) := (Blk.new w 23 (ivc i)).alloc _
  have kV : Blk ((w.alloc (.cells (ivc i).toArray 23)).alloc (.cells (svc v).toArray 28)) (w.heap.size + 1) 28 (svc v) := Blk.new' (by simp)
  have hB := chainA (chain0 w (.cells (ivc i).toArray 23)) (.cells (svc v).toArray 28)
  have C1 := Lib.hid (check_any i)
  have S1 := Lib.hid (sound_any v)
  have P1 := Lib.hid (fun (p : Option Addr) W h => dealPut_any (p := p) (s := ([], 0)) i W h)
  have Q1 := Lib.hid (fun (p : Option Addr) W h => dealPutVar_any (p := p) (s := putI ([], 0) i) v hv4 W h)
  have P2 := Lib.hid (fun W => refPutInv_any okS_new (.slice none 0 0) i W (BSl.nil _ _ _))
  have Q2 := Lib.hid (fun va W h => refPutVar_any (okS_putI okS_new i) va v hv4 W h)
  have HM : Hid (maybeI i → maybeV v → putV (putI ([], 0) i) v = (encI i ++ encV v, 0)) := Lib.hid fun hi hv => by
    rw [putI_ok hi, putV_ok hv (by have := encI_length hi; omega)]
  generalize putI ([], 0) i = s1 at *
  generalize putV s1 v = st at *
  go_enter Try.func5, Try.ntmps5
  go_upto_region 7 with (first
    | (go_at_call 18; refine (alive_any _).mono ?_; rintro e W1 ⟨rfl, hb⟩; replace kI := kI.below hb kI.lt; replace kV := kV.below hb kV.lt; replace hB := chain hB hb; clear hb)
    | (go_at_call 27; refine (outNewO_any _).mono ?_; rintro e W2 ⟨NB, rfl, hN, hO, hb⟩; have hn1 : some w.heap.size ≠ some NB := (fun e => by cases e; exact absurd kI.lt (by omega)); have hn2 : some (w.heap.size + 1) ≠ some NB := (fun e => by cases e; exact absurd kV.lt (by omega)); replace kI := kI.below hb kI.lt; replace kV := kV.below hb kV.lt; have hNw := Nat.le_trans hB.size hN; replace hB := chain hB hb; obtain ⟨c0, c1, c2, c3, c4, c5, c6⟩ := kI.c7; clear hb)
    | (go_at_call 28; refine (P1.out _ _ hO).mono ?_; rintro e W3 hD; replace hB := below_did hB hNw hD; obtain ⟨rfl, hO1, hG⟩ := hD; replace kI := kI.kept hG hn1; replace kV := kV.kept hG hn2; clear c0 c1 c2 c3 c4 c5 c6 hG hO; obtain ⟨d0, d1, d2, d3, d4⟩ := kV.c5)
    | (go_at_call 29; refine (Q1.out _ _ hO1).mono ?_; rintro e W4 hD; replace hB := below_did hB hNw hD; obtain ⟨rfl, hO2, hG⟩ := hD; replace kI := kI.kept hG hn1; replace kV := kV.kept hG hn2; clear d0 d1 d2 d3 d4 hG hO1)
    | (go_at_call 30; refine (outDone_any _ hO2).mono ?_; rintro e W5 ⟨bv1, rfl, hbv, hb⟩; obtain ⟨ba, bm, bc, rfl⟩ := hbv.shape3; replace kI := kI.below hb kI.lt; replace kV := kV.below hb kV.lt; replace hB := chain hB hb; clear hb hO2))
  clear hn1 hn2 hNw P1 Q1
  refine wp_region_held_drew (S := fun W => Blk W w.heap.size 23 (ivc i) ∧ Blk W (w.heap.size + 1) 28 (svc v)) hmx ⟨kI, kV⟩ ?_
  intro hS
  replace hB := hB.drew
  replace hbv : BSl 0 W5.drew.heap.size W5.drew _ _ := (hbv.below (Below.refl _ W5).drew (Nat.le_refl _)).mono (Nat.le_refl _) (Nat.le_refl _)
  clear kI kV
  generalize W5.drew = Y at *
  refine' wpAnyH_take (i := 0) (oi := _) (v := _) ?hi1 (by kernel_rfl) (by kernel_rfl) (by kernel_rfl) ?hQ1 (Or.inl ⟨?hw1, ?hy1⟩) hS ?rest1
  case hi1 => simp only [List.getElem?_toArray, List.getElem?_cons_zero]; rfl
  case hQ1 => exact fun _ _ _ h => h
  case hw1 => rfl
  case hy1 => intro W' hS'; go_simp; with_reducible rfl
  try simp only [Act.put, List.setIfInBounds_toArray, List.set_cons_zero, List.set_cons_succ]
  refine' wpAnyH_take (i := 1) (oi := _) (v := _) ?hi2 (by kernel_rfl) (by kernel_rfl) (by kernel_rfl) ?hQ2 (Or.inl ⟨?hw2, ?hy2⟩) hS ?rest2
  case hi2 => simp only [List.getElem?_toArray, List.getElem?_cons_succ, List.getElem?_cons_zero]; rfl
  case hQ2 => exact fun _ _ _ h => h
  case hw2 => rfl
  case hy2 => intro W' hS'; obtain ⟨c0, c1, c2, c3, c4, c5, c6⟩ := Blk.c7 hS'.1; go_simp; with_reducible rfl
  try simp only [Act.put, List.setIfInBounds_toArray, List.set_cons_zero, List.set_cons_succ]
  refine' wpAnyH_take (i := 3) (oi := _) (v := _) ?hi3 (by kernel_rfl) (by kernel_rfl) (by kernel_rfl) ?hQ3 (Or.inl ⟨?hw3, ?hy3⟩) hS ?rest3
  case hi3 => simp only [List.getElem?_toArray, List.getElem?_cons_succ, List.getElem?_cons_zero]; rfl
  case hQ3 => exact fun _ _ _ h => h
  case hw3 => rfl
  case hy3 => intro W' hS'; obtain ⟨c0, c1, c2, c3, c4⟩ := Blk.c5 hS'.2; go_simp; with_reducible rfl
  try simp only [Act.put, List.setIfInBounds_toArray, List.set_cons_zero, List.set_cons_succ]
  refine wpAnyH_ready (rs := [2, 5]) (by kernel_rfl) (by simp) ?_
  refine' AllReadyH.cons (o := _) ?ho4 (fun K hK => ?st4) (AllReadyH.cons (o := _) ?ho5 (fun K hK => ?st5) AllReadyH.nil)
  case ho4 => simp only [List.getElem?_toArray, List.getElem?_cons_succ, List.getElem?_cons_zero]; rfl
  case ho5 => simp only [List.getElem?_toArray, List.getElem?_cons_succ, List.getElem?_cons_zero]; rfl
  case st4 =>
    go_simp
    refine (P2.out _).mono ?_
    rintro e Y1 ⟨v1, rfl, hv1, hb⟩
    refine hK.out _ _ ⟨hS.1.below hb hS.1.lt, hS.2.below hb hS.2.lt⟩ (fun hS => ?_)
    clear hK K
    try simp only [Act.put, List.setIfInBounds_toArray, List.set_cons_zero, List.set_cons_succ]
    replace hB := chain hB hb
    replace hbv := (hbv.below hb (Nat.le_refl _)).mono (Nat.le_refl _) hb.size
    clear hb
    refine wpAnyH_ready (rs := [4, 5]) (by kernel_rfl) (by simp) ?_
    refine' AllReadyH.cons (o := _) ?ho6 (fun K hK => ?st6) (AllReadyH.cons (o := _) ?ho7 (fun K hK => ?st7) AllReadyH.nil)
    case ho6 => simp only [List.getElem?_toArray, List.getElem?_cons_succ, List.getElem?_cons_zero]; rfl
    case ho7 => simp only [List.getElem?_toArray, List.getElem?_cons_succ, List.getElem?_cons_zero]; rfl
    case st6 =>
      go_simp
      refine (Q2.out _ _ hv1).mono ?_
      rintro e Y2 ⟨v2, rfl, hv2, hb⟩
      refine hK.out _ _ ⟨hS.1.below hb hS.1.lt, hS.2.below hb hS.2.lt⟩ (fun hS => ?_)
      clear hK K
      try simp only [Act.put, List.setIfInBounds_toArray, List.set_cons_zero, List.set_cons_succ]
      replace hB := chain hB hb
      replace hbv := (hbv.below hb (Nat.le_refl _)).mono (Nat.le_refl _) hb.size
      clear hb hv1
      refine wpAnyH_ready (rs := [5]) (by kernel_rfl) (by simp) ?_
      refine' AllReadyH.cons (o := _) ?ho8 (fun K hK => ?st8) AllReadyH.nil
      case ho8 => simp only [List.getElem?_toArray, List.getElem?_cons_succ, List.getElem?_cons_zero]; rfl
      case st8 =>
        have hXl := hS.2.lt
        go_simp
        refine hK.out _ _ ⟨hS.1.alloc _, hS.2.alloc _⟩ (fun hS => ?_)
        clear hK K
        try simp only [Act.put, List.setIfInBounds_toArray, List.set_cons_zero, List.set_cons_succ]
        have hXw : w.heap.size + 1 < Y2.heap.size := hXl
        have hb := chain0 Y2 (.cells #[.slice none 0 0, .int .i64 0] 61)
        have kX := Blk.new Y2 61 [.slice none 0 0, .int .i64 0]
        replace hB := chain hB hb
        replace hbv := (hbv.below hb (Nat.le_refl _)).mono (Nat.le_refl _) hb.size
        replace hv2 := (hv2.below hb (Nat.le_refl _)).mono (Nat.le_refl _) hb.size
        clear hb
        generalize hX : Y2.heap.size = X at *
        generalize hY : Y2.alloc _ = Z at *
        clear hX hY
        refine wpAnyH_ready (rs := [6]) (by kernel_rfl) (by simp) ?_
        refine' AllReadyH.cons (o := _) ?ho9 (fun K hK => ?st9) AllReadyH.nil
        case ho9 => simp only [List.getElem?_toArray, List.getElem?_cons_succ, List.getElem?_cons_zero]; rfl
        case st9 =>
          obtain ⟨r0, r1⟩ := Blk.c2 kX
          have fr := kX.frozen
          obtain ⟨xa, xm, xc, rfl⟩ := hv2.shape3
          go_simp
          refine hK.out _ _ ⟨(hS.1.other 0 _ (by omega)).other 1 _ (by omega), (hS.2.other 0 _ (by omega)).other 1 _ (by omega)⟩ (fun hS => ?_)
          clear hK K
          try simp only [Act.put, List.setIfInBounds_toArray, List.set_cons_zero, List.set_cons_succ]
          refine wpAnyH_done (by kernel_rfl) ?_ _
          have hs0 := stored_keeps (y := .int .i64 st.2) hbv ⟨_, _, _, rfl⟩ ⟨xa, xm, xc, rfl⟩ kX
          obtain ⟨kX2, hv3, hB3⟩ := stored_at (y := st.2) hv2 hB (by omega) ⟨_, _, _, rfl⟩ kX
          clear kX hbv hv2 hB r0 r1 fr
          have kI := hS.1
          have kV := hS.2
          clear hS
          have kX := kX2
          clear kX2
          go_upto_region 8 with fail
          generalize World.setCell (World.setCell _ _ _) _ _ = Y3 at *
          refine wp_region_held_drew (S := fun W => W = Y3.drew) hmx rfl ?_
          intro hS
          replace kI : Blk Y3.drew _ _ _ := kI
          replace kV : Blk Y3.drew _ _ _ := kV
          replace kX : Blk Y3.drew _ _ _ := kX
          replace hB := hB3.drew
          replace hs0 : BSl 0 Y3.drew.heap.size Y3.drew _ _ := (hs0.below (Below.refl _ Y3).drew (Nat.le_refl _)).mono (Nat.le_refl _) (Nat.le_refl _)
          replace hv3 : BSl 0 Y3.drew.heap.size Y3.drew _ _ := (hv3.below (Below.refl _ Y3).drew (Nat.le_refl _)).mono (Nat.le_refl _) (Nat.le_refl _)
          clear hB3
          generalize Y3.drew = Y4 at *
          refine' wpAnyH_take (i := 0) (oi := _) (v := _) ?hi10 (by kernel_rfl) (by kernel_rfl) (by kernel_rfl) ?hQ10 (Or.inl ⟨?hw10, ?hy10⟩) hS ?rest10
          case hi10 => simp only [List.getElem?_toArray, List.getElem?_cons_zero]; rfl
          case hQ10 => exact fun _ _ _ h => h
          case hw10 => rfl
          case hy10 => intro W' hS'; go_simp; with_reducible rfl
          try simp only [Act.put, List.setIfInBounds_toArray, List.set_cons_zero, List.set_cons_succ]
          refine' wpAnyH_take (i := 2) (oi := _) (v := _) ?hi11 (by kernel_rfl) (by kernel_rfl) (by kernel_rfl) ?hQ11 (Or.inl ⟨?hw11, ?hy11⟩) hS ?rest11
          case hi11 => simp only [List.getElem?_toArray, List.getElem?_cons_succ, List.getElem?_cons_zero]; rfl
          case hQ11 => exact fun _ _ _ h => h
          case hw11 => rfl
          case hy11 => intro W' hS'; go_simp; with_reducible rfl
          try simp only [Act.put, List.setIfInBounds_toArray, List.set_cons_zero, List.set_cons_succ]
          refine' wpAnyH_take (i := 3) (oi := _) (v := _) ?hi12 (by kernel_rfl) (by kernel_rfl) (by kernel_rfl) ?hQ12 (Or.inl ⟨?hw12, ?hy12⟩) hS ?rest12
          case hi12 => simp only [List.getElem?_toArray, List.getElem?_cons_succ, List.getElem?_cons_zero]; rfl
          case hQ12 => exact fun _ _ _ h => h
          case hw12 => rfl
          case hy12 => intro W' hS'; subst hS'; obtain ⟨a0, a1⟩ := Blk.c2 kX; go_simp; with_reducible rfl
          try simp only [Act.put, List.setIfInBounds_toArray, List.set_cons_zero, List.set_cons_succ]
          refine wpAnyH_ready (rs := [1]) (by kernel_rfl) (by simp) ?_
          refine' AllReadyH.cons (o := _) ?ho13 (fun K hK => ?st13) AllReadyH.nil
          case ho13 => simp only [List.getElem?_toArray, List.getElem?_cons_succ, List.getElem?_cons_zero]; rfl
          case st13 =>
            go_simp
            refine (num_law _ _).mono ?_
            rintro e Y9 ⟨rfl, rfl⟩
            refine hK.out _ _ rfl (fun hS => ?_)
            clear hK K
            try simp only [Act.put, List.setIfInBounds_toArray, List.set_cons_zero, List.set_cons_succ]
            refine' wpAnyH_take (i := 4) (oi := _) (v := _) ?hi14 (by kernel_rfl) (by kernel_rfl) (by kernel_rfl) ?hQ14 (Or.inl ⟨?hw14, ?hy14⟩) hS ?rest14
            case hi14 => simp only [List.getElem?_toArray, List.getElem?_cons_succ, List.getElem?_cons_zero]; rfl
            case hQ14 => exact fun _ _ _ h => h
            case hw14 => rfl
            case hy14 => intro W' hS'; go_simp; with_reducible rfl
            try simp only [Act.put, List.setIfInBounds_toArray, List.set_cons_zero, List.set_cons_succ]
            refine' wpAnyH_take (i := 5) (oi := _) (v := _) ?hi15 (by kernel_rfl) (by kernel_rfl) (by kernel_rfl) ?hQ15 (Or.inl ⟨?hw15, ?hy15⟩) hS ?rest15
            case hi15 => simp only [List.getElem?_toArray, List.getElem?_cons_succ, List.getElem?_cons_zero]; rfl
            case hQ15 => exact fun _ _ _ h => h
            case hw15 => rfl
            case hy15 => intro W' hS'; go_simp; with_reducible rfl
            try simp only [Act.put, List.setIfInBounds_toArray, List.set_cons_zero, List.set_cons_succ]
            refine' wpAnyH_take (i := 6) (oi := _) (v := _) ?hi16 (by kernel_rfl) (by kernel_rfl) (by kernel_rfl) ?hQ16 (Or.inl ⟨?hw16, ?hy16⟩) hS ?rest16
            case hi16 => simp only [List.getElem?_toArray, List.getElem?_cons_succ, List.getElem?_cons_zero]; rfl
            case hQ16 => exact fun _ _ _ h => h
            case hw16 => rfl
            case hy16 => intro W' hS'; go_simp; with_reducible rfl
            try simp only [Act.put, List.setIfInBounds_toArray, List.set_cons_zero, List.set_cons_succ]
            refine' wpAnyH_take (i := 7) (oi := _) (v := _) ?hi17 (by kernel_rfl) (by kernel_rfl) (by kernel_rfl) ?hQ17 (Or.inl ⟨?hw17, ?hy17⟩) hS ?rest17
            case hi17 => simp only [List.getElem?_toArray, List.getElem?_cons_succ, List.getElem?_cons_zero]; rfl
            case hQ17 => exact fun _ _ _ h => h
            case hw17 => rfl
            case hy17 => intro W' hS'; subst hS'; have hcv := str_of _ hs0; go_simp; with_reducible rfl
            try simp only [Act.put, List.setIfInBounds_toArray, List.set_cons_zero, List.set_cons_succ]
            refine' wpAnyH_take (i := 8) (oi := _) (v := _) ?hi18 (by kernel_rfl) (by kernel_rfl) (by kernel_rfl) ?hQ18 (Or.inl ⟨?hw18, ?hy18⟩) hS ?rest18
            case hi18 => simp only [List.getElem?_toArray, List.getElem?_cons_succ, List.getElem?_cons_zero]; rfl
            case hQ18 => exact fun _ _ _ h => h
            case hw18 => rfl
            case hy18 => intro W' hS'; go_simp; with_reducible rfl
            try simp only [Act.put, List.setIfInBounds_toArray, List.set_cons_zero, List.set_cons_succ]
            refine' wpAnyH_take (i := 9) (oi := _) (v := _) ?hi19 (by kernel_rfl) (by kernel_rfl) (by kernel_rfl) ?hQ19 (Or.inl ⟨?hw19, ?hy19⟩) hS ?rest19
            case hi19 => simp only [List.getElem?_toArray, List.getElem?_cons_succ, List.getElem?_cons_zero]; rfl
            case hQ19 => exact fun _ _ _ h => h
            case hw19 => rfl
            case hy19 => intro W' hS'; subst hS'; obtain ⟨a0, a1⟩ := Blk.c2 kX; go_simp; with_reducible rfl
            try simp only [Act.put, List.setIfInBounds_toArray, List.set_cons_zero, List.set_cons_succ]
            refine' wpAnyH_take (i := 10) (oi := _) (v := _) ?hi20 (by kernel_rfl) (by kernel_rfl) (by kernel_rfl) ?hQ20 (Or.inl ⟨?hw20, ?hy20⟩) hS ?rest20
            case hi20 => simp only [List.getElem?_toArray, List.getElem?_cons_succ, List.getElem?_cons_zero]; rfl
            case hQ20 => exact fun _ _ _ h => h
            case hw20 => rfl
            case hy20 => intro W' hS'; subst hS'; have hcv := str_of _ hv3; go_simp; with_reducible rfl
            try simp only [Act.put, List.setIfInBounds_toArray, List.set_cons_zero, List.set_cons_succ]
            refine' wpAnyH_take (i := 11) (oi := _) (v := _) ?hi21 (by kernel_rfl) (by kernel_rfl) (by kernel_rfl) ?hQ21 (Or.inl ⟨?hw21, ?hy21⟩) hS ?rest21
            case hi21 => simp only [List.getElem?_toArray, List.getElem?_cons_succ, List.getElem?_cons_zero]; rfl
            case hQ21 => exact fun _ _ _ h => h
            case hw21 => rfl
            case hy21 => intro W' hS'; go_simp; with_reducible rfl
            try simp only [Act.put, List.setIfInBounds_toArray, List.set_cons_zero, List.set_cons_succ]
            refine' wpAnyH_take (i := 12) (oi := _) (v := _) ?hi22 (by kernel_rfl) (by kernel_rfl) (by kernel_rfl) ?hQ22 (Or.inl ⟨?hw22, ?hy22⟩) hS ?rest22
            case hi22 => simp only [List.getElem?_toArray, List.getElem?_cons_succ, List.getElem?_cons_zero]; rfl
            case hQ22 => exact fun _ _ _ h => h
            case hw22 => rfl
            case hy22 => intro W' hS'; go_simp; with_reducible rfl
            try simp only [Act.put, List.setIfInBounds_toArray, List.set_cons_zero, List.set_cons_succ]
            refine wpAnyH_done (by kernel_rfl) ?_ _
            clear hS hv3 kX
            obtain ⟨c0, c1, c2, c3, c4, c5, c6⟩ := kI.c7
            by_cases hm : maybeI i
            · have HE := Lib.hid (errI_zero hm)
              by_cases hn : maybeV v
              · have HF := Lib.hid (errV_zero hn)
                obtain rfl := HM.out hm hn
                have HLE : Hid ((encI i ++ encV v).length ≤ 8192) := Lib.hid (by rw [List.length_append, encV_length]; have := encI_length hm; omega)
                have G1 := Lib.hid (fun p W h => backI (p := p) hm (encV v) W h)
                have G2 := Lib.hid (fun p W h => backV (p := p) hn hv4 W h)
                clear hm hn HM
                have rt2 : (i.rt.toList == i.rt.toList) = true := by simp
                have id2 : (i.id.toList == i.id.toList) = true := by simp
                generalize encV v = R at *
                generalize encI i ++ R = E at *
                go_upto_region 13 with (first
                  | (go_at_call 8; refine (C1.out _).mono ?_; rw [HE.out]; rintro e Y5 ⟨rfl, hb⟩; replace kI := kI.below hb kI.lt; replace kV := kV.below hb kV.lt; replace hB := chain hB hb; replace hs0 := (hs0.below hb (Nat.le_refl _)).mono (Nat.le_refl _) hb.size; obtain ⟨d0, d1, d2, d3, d4⟩ := kV.c5; clear hb)
                  | (go_at_call 10; refine (S1.out _).mono ?_; rw [HF.out]; rintro e Y6 ⟨rfl, hb⟩; replace kI := kI.below hb kI.lt; replace kV := kV.below hb kV.lt; replace hB := chain hB hb; replace hs0 := (hs0.below hb (Nat.le_refl _)).mono (Nat.le_refl _) hb.size; clear hb d0 d1 d2 d3 d4)
                  | (go_at_call 19; refine (inOpen_any _ _ _ (by have := HLE.out; omega) hs0).mono ?_; rw [openS_little HLE.out]; rintro e Y7 ⟨NB2, rfl, hN, hO, hb⟩; have hn1 : some w.heap.size ≠ some NB2 := (fun e => by cases e; exact absurd kI.lt (by omega)); have hn2 : some (w.heap.size + 1) ≠ some NB2 := (fun e => by cases e; exact absurd kV.lt (by omega)); replace kI := kI.below hb kI.lt; replace kV := kV.below hb kV.lt; have hNw := Nat.le_trans hB.size hN; replace hB := chain hB hb; clear hb hN))
                clear hs0 HLE HE HF C1 S1 c0 c1 c2 c3 c4 c5 c6
                refine wp_region_held_drew (S := fun W => Blk W w.heap.size 23 (ivc i) ∧ Blk W (w.heap.size + 1) 28 (svc v)) hmx ⟨kI, kV⟩ ?_
                intro hS
                replace hB := hB.drew
                replace hO := hO.below (Below.refl _ Y7).drew
                clear kI kV
                generalize Y7.drew = Y8 at *
                refine' wpAnyH_take (i := 0) (oi := _) (v := _) ?hi23 (by kernel_rfl) (by kernel_rfl) (by kernel_rfl) ?hQ23 (Or.inl ⟨?hw23, ?hy23⟩) hS ?rest23
                case hi23 => simp only [List.getElem?_toArray, List.getElem?_cons_zero]; rfl
                case hQ23 => exact fun _ _ _ h => h
                case hw23 => rfl
                case hy23 => intro W' hS'; go_simp; with_reducible rfl
                try simp only [Act.put, List.setIfInBounds_toArray, List.set_cons_zero, List.set_cons_succ]
                refine' wpAnyH_take (i := 1) (oi := _) (v := _) ?hi24 (by kernel_rfl) (by kernel_rfl) (by kernel_rfl) ?hQ24 (Or.inl ⟨?hw24, ?hy24⟩) hS ?rest24
                case hi24 => simp only [List.getElem?_toArray, List.getElem?_cons_succ, List.getElem?_cons_zero]; rfl
                case hQ24 => exact fun _ _ _ h => h
                case hw24 => rfl
                case hy24 => intro W' hS'; go_simp; with_reducible rfl
                try simp only [Act.put, List.setIfInBounds_toArray, List.set_cons_zero, List.set_cons_succ]
                refine' wpAnyH_take (i := 2) (oi := _) (v := _) ?hi25 (by kernel_rfl) (by kernel_rfl) (by kernel_rfl) ?hQ25 (Or.inl ⟨?hw25, ?hy25⟩) hS ?rest25
                case hi25 => simp only [List.getElem?_toArray, List.getElem?_cons_succ, List.getElem?_cons_zero]; rfl
                case hQ25 => exact fun _ _ _ h => h
                case hw25 => rfl
                case hy25 => intro W' hS'; go_simp; with_reducible rfl
                try simp only [Act.put, List.setIfInBounds_toArray, List.set_cons_zero, List.set_cons_succ]
                refine' wpAnyH_take (i := 3) (oi := _) (v := _) ?hi26 (by kernel_rfl) (by kernel_rfl) (by kernel_rfl) ?hQ26 (Or.inl ⟨?hw26, ?hy26⟩) hS ?rest26
                case hi26 => simp only [List.getElem?_toArray, List.getElem?_cons_succ, List.getElem?_cons_zero]; rfl
                case hQ26 => exact fun _ _ _ h => h
                case hw26 => rfl
                case hy26 => intro W' hS'; go_simp; with_reducible rfl
                try simp only [Act.put, List.setIfInBounds_toArray, List.set_cons_zero, List.set_cons_succ]
                refine' wpAnyH_take (i := 5) (oi := _) (v := _) ?hi27 (by kernel_rfl) (by kernel_rfl) (by kernel_rfl) ?hQ27 (Or.inl ⟨?hw27, ?hy27⟩) hS ?rest27
                case hi27 => simp only [List.getElem?_toArray, List.getElem?_cons_succ, List.getElem?_cons_zero]; rfl
                case hQ27 => exact fun _ _ _ h => h
                case hw27 => rfl
                case hy27 => intro W' hS'; obtain ⟨c0, c1, c2, c3, c4, c5, c6⟩ := Blk.c7 hS'.1; go_simp; with_reducible rfl
                try simp only [Act.put, List.setIfInBounds_toArray, List.set_cons_zero, List.set_cons_succ]
                refine wpAnyH_ready (rs := [4]) (by kernel_rfl) (by simp) ?_
                refine' AllReadyH.cons (o := _) ?ho28 (fun K hK => ?st28) AllReadyH.nil
                case ho28 => simp only [List.getElem?_toArray, List.getElem?_cons_succ, List.getElem?_cons_zero]; rfl
                case st28 =>
                  go_simp
                  refine (G1.out _ _ hO).mono ?_
                  rintro e Z1 ⟨rfl, hO1, hG⟩
                  refine hK.out _ _ ⟨hS.1.kept hG hn1, hS.2.kept hG hn2⟩ (fun hS => ?_)
                  clear hK K
                  try simp only [Act.put, List.setIfInBounds_toArray, List.set_cons_zero, List.set_cons_succ]
                  replace hB := hB.grown hG hB.size (fun k e => by cases e; exact hNw)
                  clear hG hO
                  refine' wpAnyH_take (i := 6) (oi := _) (v := _) ?hi29 (by kernel_rfl) (by kernel_rfl) (by kernel_rfl) ?hQ29 (Or.inl ⟨?hw29, ?hy29⟩) hS ?rest29
                  case hi29 => simp only [List.getElem?_toArray, List.getElem?_cons_succ, List.getElem?_cons_zero]; rfl
                  case hQ29 => exact fun _ _ _ h => h
                  case hw29 => rfl
                  case hy29 => intro W' hS'; go_simp; with_reducible rfl
                  try simp only [Act.put, List.setIfInBounds_toArray, List.set_cons_zero, List.set_cons_succ]
                  refine' wpAnyH_take (i := 7) (oi := _) (v := _) ?hi30 (by kernel_rfl) (by kernel_rfl) (by kernel_rfl) ?hQ30 (Or.inl ⟨?hw30, ?hy30⟩) hS ?rest30
                  case hi30 => simp only [List.getElem?_toArray, List.getElem?_cons_succ, List.getElem?_cons_zero]; rfl
                  case hQ30 => exact fun _ _ _ h => h
                  case hw30 => rfl
                  case hy30 => intro W' hS'; go_simp; with_reducible rfl
                  try simp only [Act.put, List.setIfInBounds_toArray, List.set_cons_zero, List.set_cons_succ]
                  refine' wpAnyH_take (i := 8) (oi := _) (v := _) ?hi31 (by kernel_rfl) (by kernel_rfl) (by kernel_rfl) ?hQ31 (Or.inl ⟨?hw31, ?hy31⟩) hS ?rest31
                  case hi31 => simp only [List.getElem?_toArray, List.getElem?_cons_succ, List.getElem?_cons_zero]; rfl
                  case hQ31 => exact fun _ _ _ h => h
                  case hw31 => rfl
                  case hy31 => intro W' hS'; go_simp; with_reducible rfl
                  try simp only [Act.put, List.setIfInBounds_toArray, List.set_cons_zero, List.set_cons_succ]
                  refine' wpAnyH_take (i := 9) (oi := _) (v := _) ?hi32 (by kernel_rfl) (by kernel_rfl) (by kernel_rfl) ?hQ32 (Or.inl ⟨?hw32, ?hy32⟩) hS ?rest32
                  case hi32 => simp only [List.getElem?_toArray, List.getElem?_cons_succ, List.getElem?_cons_zero]; rfl
                  case hQ32 => exact fun _ _ _ h => h
                  case hw32 => rfl
                  case hy32 => intro W' hS'; go_simp; with_reducible rfl
                  try simp only [Act.put, List.setIfInBounds_toArray, List.set_cons_zero, List.set_cons_succ]
                  refine' wpAnyH_take (i := 11) (oi := _) (v := _) ?hi33 (by kernel_rfl) (by kernel_rfl) (by kernel_rfl) ?hQ33 (Or.inl ⟨?hw33, ?hy33⟩) hS ?rest33
                  case hi33 => simp only [List.getElem?_toArray, List.getElem?_cons_succ, List.getElem?_cons_zero]; rfl
                  case hQ33 => exact fun _ _ _ h => h
                  case hw33 => rfl
                  case hy33 => intro W' hS'; obtain ⟨c0, c1, c2, c3, c4⟩ := Blk.c5 hS'.2; go_simp; with_reducible rfl
                  try simp only [Act.put, List.setIfInBounds_toArray, List.set_cons_zero, List.set_cons_succ]
                  refine wpAnyH_ready (rs := [10]) (by kernel_rfl) (by simp) ?_
                  refine' AllReadyH.cons (o := _) ?ho34 (fun K hK => ?st34) AllReadyH.nil
                  case ho34 => simp only [List.getElem?_toArray, List.getElem?_cons_succ, List.getElem?_cons_zero]; rfl
                  case st34 =>
                    go_simp
                    refine (G2.out _ _ hO1).mono ?_
                    rintro e Z2 ⟨rfl, hO2, hG⟩
                    refine hK.out _ _ ⟨hS.1.kept hG hn1, hS.2.kept hG hn2⟩ (fun hS => ?_)
                    clear hK K
                    try simp only [Act.put, List.setIfInBounds_toArray, List.set_cons_zero, List.set_cons_succ]
                    replace hB := hB.grown hG hB.size (fun k e => by cases e; exact hNw)
                    clear hG hO1
                    have hweq := @run_equalIn_wide8
                    have hwr := wEq_refl
                    refine' wpAnyH_take (i := 12) (oi := _) (v := _) ?hi35 (by kernel_rfl) (by kernel_rfl) (by kernel_rfl) ?hQ35 (Or.inl ⟨?hw35, ?hy35⟩) hS ?rest35
                    case hi35 => simp only [List.getElem?_toArray, List.getElem?_cons_succ, List.getElem?_cons_zero]; rfl
                    case hQ35 => exact fun _ _ _ h => h
                    case hw35 => rfl
                    case hy35 => intro W' hS'; go_simp; with_reducible rfl
                    try simp only [Act.put, List.setIfInBounds_toArray, List.set_cons_zero, List.set_cons_succ]
                    refine' wpAnyH_take (i := 13) (oi := _) (v := _) ?hi36 (by kernel_rfl) (by kernel_rfl) (by kernel_rfl) ?hQ36 (Or.inl ⟨?hw36, ?hy36⟩) hS ?rest36
                    case hi36 => simp only [List.getElem?_toArray, List.getElem?_cons_succ, List.getElem?_cons_zero]; rfl
                    case hQ36 => exact fun _ _ _ h => h
                    case hw36 => rfl
                    case hy36 => intro W' hS'; go_simp; with_reducible rfl
                    try simp only [Act.put, List.setIfInBounds_toArray, List.set_cons_zero, List.set_cons_succ]
                    refine' wpAnyH_take (i := 14) (oi := _) (v := _) ?hi37 (by kernel_rfl) (by kernel_rfl) (by kernel_rfl) ?hQ37 (Or.inl ⟨?hw37, ?hy37⟩) hS ?rest37
                    case hi37 => simp only [List.getElem?_toArray, List.getElem?_cons_succ, List.getElem?_cons_zero]; rfl
                    case hQ37 => exact fun _ _ _ h => h
                    case hw37 => rfl
                    case hy37 => intro W' hS'; go_simp; with_reducible rfl
                    try simp only [Act.put, List.setIfInBounds_toArray, List.set_cons_zero, List.set_cons_succ]
                    refine' wpAnyH_take (i := 15) (oi := _) (v := _) ?hi38 (by kernel_rfl) (by kernel_rfl) (by kernel_rfl) ?hQ38 (Or.inl ⟨?hw38, ?hy38⟩) hS ?rest38
                    case hi38 => simp only [List.getElem?_toArray, List.getElem?_cons_succ, List.getElem?_cons_zero]; rfl
                    case hQ38 => exact fun _ _ _ h => h
                    case hw38 => rfl
                    case hy38 => intro W' hS'; go_simp; with_reducible rfl
                    try simp only [Act.put, List.setIfInBounds_toArray, List.set_cons_zero, List.set_cons_succ]
                    refine wpAnyH_ready (rs := [16]) (by kernel_rfl) (by simp) ?_
                    refine' AllReadyH.cons (o := _) ?ho39 (fun K hK => ?st39) AllReadyH.nil
                    case ho39 => simp only [List.getElem?_toArray, List.getElem?_cons_succ, List.getElem?_cons_zero]; rfl
                    case st39 =>
                      go_simp
                      refine (inErr_any _ hO2).mono ?_
                      rintro e Z3 ⟨rfl, rfl⟩
                      refine hK.out _ _ hS (fun hS => ?_)
                      clear hK K
                      try dsimp only
                      refine' wpAnyH_take (i := 17) (oi := _) (v := _) ?hi40 (by kernel_rfl) (by kernel_rfl) (by kernel_rfl) ?hQ40 (Or.inl ⟨?hw40, ?hy40⟩) hS ?rest40
                      case hi40 => simp only [List.getElem?_toArray, List.getElem?_cons_succ, List.getElem?_cons_zero]; rfl
                      case hQ40 => exact fun _ _ _ h => h
                      case hw40 => rfl
                      case hy40 => intro W' hS'; go_simp; with_reducible rfl
                      try simp only [Act.put, List.setIfInBounds_toArray, List.set_cons_zero, List.set_cons_succ]
                      refine' wpAnyH_take (i := 18) (oi := _) (v := _) ?hi41 (by kernel_rfl) (by kernel_rfl) (by kernel_rfl) ?hQ41 (Or.inl ⟨?hw41, ?hy41⟩) hS ?rest41
                      case hi41 => simp only [List.getElem?_toArray, List.getElem?_cons_succ, List.getElem?_cons_zero]; rfl
                      case hQ41 => exact fun _ _ _ h => h
                      case hw41 => rfl
                      case hy41 => intro W' hS'; go_simp; with_reducible rfl
                      try simp only [Act.put, List.setIfInBounds_toArray, List.set_cons_zero, List.set_cons_succ]
                      refine' wpAnyH_take (i := 19) (oi := _) (v := _) ?hi42 (by kernel_rfl) (by kernel_rfl) (by kernel_rfl) ?hQ42 (Or.inl ⟨?hw42, ?hy42⟩) hS ?rest42
                      case hi42 => simp only [List.getElem?_toArray, List.getElem?_cons_succ, List.getElem?_cons_zero]; rfl
                      case hQ42 => exact fun _ _ _ h => h
                      case hw42 => rfl
                      case hy42 => intro W' hS'; go_simp; with_reducible rfl
                      try simp only [Act.put, List.setIfInBounds_toArray, List.set_cons_zero, List.set_cons_succ]
                      refine' wpAnyH_take (i := 20) (oi := _) (v := _) ?hi43 (by kernel_rfl) (by kernel_rfl) (by kernel_rfl) ?hQ43 (Or.inl ⟨?hw43, ?hy43⟩) hS ?rest43
                      case hi43 => simp only [List.getElem?_toArray, List.getElem?_cons_succ, List.getElem?_cons_zero]; rfl
                      case hQ43 => exact fun _ _ _ h => h
                      case hw43 => rfl
                      case hy43 => intro W' hS'; go_simp; with_reducible rfl
                      try simp only [Act.put, List.setIfInBounds_toArray, List.set_cons_zero, List.set_cons_succ]
                      refine wpAnyH_ready (rs := [21]) (by kernel_rfl) (by simp) ?_
                      refine' AllReadyH.cons (o := _) ?ho44 (fun K hK => ?st44) AllReadyH.nil
                      case ho44 => simp only [List.getElem?_toArray, List.getElem?_cons_succ, List.getElem?_cons_zero]; rfl
                      case st44 =>
                        go_simp
                        refine (inLeft_any _ hO2).mono ?_
                        rintro e Z4 ⟨rfl, rfl⟩
                        refine hK.out _ _ hS (fun hS => ?_)
                        clear hK K
                        try dsimp only
                        refine' wpAnyH_take (i := 22) (oi := _) (v := _) ?hi45 (by kernel_rfl) (by kernel_rfl) (by kernel_rfl) ?hQ45 (Or.inl ⟨?hw45, ?hy45⟩) hS ?rest45
                        case hi45 => simp only [List.getElem?_toArray, List.getElem?_cons_succ, List.getElem?_cons_zero]; rfl
                        case hQ45 => exact fun _ _ _ h => h
                        case hw45 => rfl
                        case hy45 => intro W' hS'; go_simp; with_reducible rfl
                        try simp only [Act.put, List.setIfInBounds_toArray, List.set_cons_zero, List.set_cons_succ]
                        refine' wpAnyH_take (i := 23) (oi := _) (v := _) ?hi46 (by kernel_rfl) (by kernel_rfl) (by kernel_rfl) ?hQ46 (Or.inl ⟨?hw46, ?hy46⟩) hS ?rest46
                        case hi46 => simp only [List.getElem?_toArray, List.getElem?_cons_succ, List.getElem?_cons_zero]; rfl
                        case hQ46 => exact fun _ _ _ h => h
                        case hw46 => rfl
                        case hy46 => intro W' hS'; go_simp; with_reducible rfl
                        try simp only [Act.put, List.setIfInBounds_toArray, List.set_cons_zero, List.set_cons_succ]
                        refine' wpAnyH_take (i := 24) (oi := _) (v := _) ?hi47 (by kernel_rfl) (by kernel_rfl) (by kernel_rfl) ?hQ47 (Or.inl ⟨?hw47, ?hy47⟩) hS ?rest47
                        case hi47 => simp only [List.getElem?_toArray, List.getElem?_cons_succ, List.getElem?_cons_zero]; rfl
                        case hQ47 => exact fun _ _ _ h => h
                        case hw47 => rfl
                        case hy47 => intro W' hS'; go_simp; with_reducible rfl
                        try simp only [Act.put, List.setIfInBounds_toArray, List.set_cons_zero, List.set_cons_succ]
                        refine wpAnyH_done (by kernel_rfl) ?_ _
                        go_wp2_with fail
                        go_ret
                        exact ⟨rfl, hB⟩
              · have HF := Lib.hid (errV_bad hn)
                clear hm hn HM
                go_wp2_with (first
                  | (go_at_call 8; refine (C1.out _).mono ?_; rw [HE.out]; rintro e Y5 ⟨rfl, hb⟩; replace kI := kI.below hb kI.lt; replace kV := kV.below hb kV.lt; replace hB := chain hB hb; replace hs0 := (hs0.below hb (Nat.le_refl _)).mono (Nat.le_refl _) hb.size; obtain ⟨d0, d1, d2, d3, d4⟩ := kV.c5; clear hb)
                  | (go_at_call 10; refine (S1.out _).mono ?_; rw [HF.out]; rintro e Y6 ⟨rfl, hb⟩; replace kI := kI.below hb kI.lt; replace kV := kV.below hb kV.lt; replace hB := chain hB hb; replace hs0 := (hs0.below hb (Nat.le_refl _)).mono (Nat.le_refl _) hb.size; clear hb d0 d1 d2 d3 d4))
                go_ret
                exact ⟨rfl, hB⟩
            · have HE := Lib.hid (errI_bad hm)
              clear hm HM
              go_wp2_with (go_at_call 8; refine (C1.out _).mono ?_; rw [HE.out]; rintro e Y5 ⟨rfl, hb⟩; replace kI := kI.below hb kI.lt; replace kV := kV.below hb kV.lt; replace hB := chain hB hb; replace hs0 := (hs0.below hb (Nat.le_refl _)).mono (Nat.le_refl _) hb.size; obtain ⟨d0, d1, d2, d3, d4⟩ := kV.c5; clear hb)
              go_ret
              exact ⟨rfl, hB⟩
    case st7 =>
      have hXl := hS.2.lt
      go_simp
      refine hK.out _ _ ⟨hS.1.alloc _, hS.2.alloc _⟩ (fun hS => ?_)
      clear hK K
      try simp only [Act.put, List.setIfInBounds_toArray, List.set_cons_zero, List.set_cons_succ]
      have hXw : w.heap.size + 1 < Y1.heap.size := hXl
      have hb := chain0 Y1 (.cells #[.slice none 0 0, .int .i64 0] 61)
      have kX := Blk.new Y1 61 [.slice none 0 0, .int .i64 0]
      replace hB := chain hB hb
      replace hbv := (hbv.below hb (Nat.le_refl _)).mono (Nat.le_refl _) hb.size
      replace hv1 := (hv1.below hb (Nat.le_refl _)).mono (Nat.le_refl _) hb.size
      clear hb
      generalize hX : Y1.heap.size = X at *
      generalize hY : Y1.alloc _ = Z at *
      clear hX hY
      refine wpAnyH_ready (rs := [4]) (by kernel_rfl) (by simp) ?_
      refine' AllReadyH.cons (o := _) ?ho48 (fun K hK => ?st48) AllReadyH.nil
      case ho48 => simp only [List.getElem?_toArray, List.getElem?_cons_succ, List.getElem?_cons_zero]; rfl
      case st48 =>
        go_simp
        refine (Q2.out _ _ hv1).mono ?_
        rintro e Y2 ⟨v2, rfl, hv2, hb⟩
        refine hK.out _ _ ⟨hS.1.below hb hS.1.lt, hS.2.below hb hS.2.lt⟩ (fun hS => ?_)
        clear hK K
        try simp only [Act.put, List.setIfInBounds_toArray, List.set_cons_zero, List.set_cons_succ]
        replace hB := chain hB hb
        replace hbv := (hbv.below hb (Nat.le_refl _)).mono (Nat.le_refl _) hb.size
        replace kX := kX.below hb kX.lt
        clear hb hv1
        refine wpAnyH_ready (rs := [6]) (by kernel_rfl) (by simp) ?_
        refine' AllReadyH.cons (o := _) ?ho49 (fun K hK => ?st49) AllReadyH.nil
        case ho49 => simp only [List.getElem?_toArray, List.getElem?_cons_succ, List.getElem?_cons_zero]; rfl
        case st49 =>
          obtain ⟨r0, r1⟩ := Blk.c2 kX
          have fr := kX.frozen
          obtain ⟨xa, xm, xc, rfl⟩ := hv2.shape3
          go_simp
          refine hK.out _ _ ⟨(hS.1.other 0 _ (by omega)).other 1 _ (by omega), (hS.2.other 0 _ (by omega)).other 1 _ (by omega)⟩ (fun hS => ?_)
          clear hK K
          try simp only [Act.put, List.setIfInBounds_toArray, List.set_cons_zero, List.set_cons_succ]
          refine wpAnyH_done (by kernel_rfl) ?_ _
          have hs0 := stored_keeps (y := .int .i64 st.2) hbv ⟨_, _, _, rfl⟩ ⟨xa, xm, xc, rfl⟩ kX
          obtain ⟨kX2, hv3, hB3⟩ := stored_at (y := st.2) hv2 hB (by omega) ⟨_, _, _, rfl⟩ kX
          clear kX hbv hv2 hB r0 r1 fr
          have kI := hS.1
          have kV := hS.2
          clear hS
          have kX := kX2
          clear kX2
          go_upto_region 8 with fail
          generalize World.setCell (World.setCell _ _ _) _ _ = Y3 at *
          refine wp_region_held_drew (S := fun W => W = Y3.drew) hmx rfl ?_
          intro hS
          replace kI : Blk Y3.drew _ _ _ := kI
          replace kV : Blk Y3.drew _ _ _ := kV
          replace kX : Blk Y3.drew _ _ _ := kX
          replace hB := hB3.drew
          replace hs0 : BSl 0 Y3.drew.heap.size Y3.drew _ _ := (hs0.below (Below.refl _ Y3).drew (Nat.le_refl _)).mono (Nat.le_refl _) (Nat.le_refl _)
          replace hv3 : BSl 0 Y3.drew.heap.size Y3.drew _ _ := (hv3.below (Below.refl _ Y3).drew (Nat.le_refl _)).mono (Nat.le_refl _) (Nat.le_refl _)
          clear hB3
          generalize Y3.drew = Y4 at *
          refine' wpAnyH_take (i := 0) (oi := _) (v := _) ?hi50 (by kernel_rfl) (by kernel_rfl) (by kernel_rfl) ?hQ50 (Or.inl ⟨?hw50, ?hy50⟩) hS ?rest50
          case hi50 => simp only [List.getElem?_toArray, List.getElem?_cons_zero]; rfl
          case hQ50 => exact fun _ _ _ h => h
          case hw50 => rfl
          case hy50 => intro W' hS'; go_simp; with_reducible rfl
          try simp only [Act.put, List.setIfInBounds_toArray, List.set_cons_zero, List.set_cons_succ]
          refine' wpAnyH_take (i := 2) (oi := _) (v := _) ?hi51 (by kernel_rfl) (by kernel_rfl) (by kernel_rfl) ?hQ51 (Or.inl ⟨?hw51, ?hy51⟩) hS ?rest51
          case hi51 => simp only [List.getElem?_toArray, List.getElem?_cons_succ, List.getElem?_cons_zero]; rfl
          case hQ51 => exact fun _ _ _ h => h
          case hw51 => rfl
          case hy51 => intro W' hS'; go_simp; with_reducible rfl
          try simp only [Act.put, List.setIfInBounds_toArray, List.set_cons_zero, List.set_cons_succ]
          refine' wpAnyH_take (i := 3) (oi := _) (v := _) ?hi52 (by kernel_rfl) (by kernel_rfl) (by kernel_rfl) ?hQ52 (Or.inl ⟨?hw52, ?hy52⟩) hS ?rest52
          case hi52 => simp only [List.getElem?_toArray, List.getElem?_cons_succ, List.getElem?_cons_zero]; rfl
          case hQ52 => exact fun _ _ _ h => h
          case hw52 => rfl
          case hy52 => intro W' hS'; subst hS'; obtain ⟨a0, a1⟩ := Blk.c2 kX; go_simp; with_reducible rfl
          try simp only [Act.put, List.setIfInBounds_toArray, List.set_cons_zero, List.set_cons_succ]
          refine wpAnyH_ready (rs := [1]) (by kernel_rfl) (by simp) ?_
          refine' AllReadyH.cons (o := _) ?ho53 (fun K hK => ?st53) AllReadyH.nil
          case ho53 => simp only [List.getElem?_toArray, List.getElem?_cons_succ, List.getElem?_cons_zero]; rfl
          case st53 =>
            go_simp
            refine (num_law _ _).mono ?_
            rintro e Y9 ⟨rfl, rfl⟩
            refine hK.out _ _ rfl (fun hS => ?_)
            clear hK K
            try simp only [Act.put, List.setIfInBounds_toArray, List.set_cons_zero, List.set_cons_succ]
            refine' wpAnyH_take (i := 4) (oi := _) (v := _) ?hi54 (by kernel_rfl) (by kernel_rfl) (by kernel_rfl) ?hQ54 (Or.inl ⟨?hw54, ?hy54⟩) hS ?rest54
            case hi54 => simp only [List.getElem?_toArray, List.getElem?_cons_succ, List.getElem?_cons_zero]; rfl
            case hQ54 => exact fun _ _ _ h => h
            case hw54 => rfl
            case hy54 => intro W' hS'; go_simp; with_reducible rfl
            try simp only [Act.put, List.setIfInBounds_toArray, List.set_cons_zero, List.set_cons_succ]
            refine' wpAnyH_take (i := 5) (oi := _) (v := _) ?hi55 (by kernel_rfl) (by kernel_rfl) (by kernel_rfl) ?hQ55 (Or.inl ⟨?hw55, ?hy55⟩) hS ?rest55
            case hi55 => simp only [List.getElem?_toArray, List.getElem?_cons_succ, List.getElem?_cons_zero]; rfl
            case hQ55 => exact fun _ _ _ h => h
            case hw55 => rfl
            case hy55 => intro W' hS'; go_simp; with_reducible rfl
            try simp only [Act.put, List.setIfInBounds_toArray, List.set_cons_zero, List.set_cons_succ]
            refine' wpAnyH_take (i := 6) (oi := _) (v := _) ?hi56 (by kernel_rfl) (by kernel_rfl) (by kernel_rfl) ?hQ56 (Or.inl ⟨?hw56, ?hy56⟩) hS ?rest56
            case hi56 => simp only [List.getElem?_toArray, List.getElem?_cons_succ, List.getElem?_cons_zero]; rfl
            case hQ56 => exact fun _ _ _ h => h
            case hw56 => rfl
            case hy56 => intro W' hS'; go_simp; with_reducible rfl
            try simp only [Act.put, List.setIfInBounds_toArray, List.set_cons_zero, List.set_cons_succ]
            refine' wpAnyH_take (i := 7) (oi := _) (v := _) ?hi57 (by kernel_rfl) (by kernel_rfl) (by kernel_rfl) ?hQ57 (Or.inl ⟨?hw57, ?hy57⟩) hS ?rest57
            case hi57 => simp only [List.getElem?_toArray, List.getElem?_cons_succ, List.getElem?_cons_zero]; rfl
            case hQ57 => exact fun _ _ _ h => h
            case hw57 => rfl
            case hy57 => intro W' hS'; subst hS'; have hcv := str_of _ hs0; go_simp; with_reducible rfl
            try simp only [Act.put, List.setIfInBounds_toArray, List.set_cons_zero, List.set_cons_succ]
            refine' wpAnyH_take (i := 8) (oi := _) (v := _) ?hi58 (by kernel_rfl) (by kernel_rfl) (by kernel_rfl) ?hQ58 (Or.inl ⟨?hw58, ?hy58⟩) hS ?rest58
            case hi58 => simp only [List.getElem?_toArray, List.getElem?_cons_succ, List.getElem?_cons_zero]; rfl
            case hQ58 => exact fun _ _ _ h => h
            case hw58 => rfl
            case hy58 => intro W' hS'; go_simp; with_reducible rfl
            try simp only [Act.put, List.setIfInBounds_toArray, List.set_cons_zero, List.set_cons_succ]
            refine' wpAnyH_take (i := 9) (oi := _) (v := _) ?hi59 (by kernel_rfl) (by kernel_rfl) (by kernel_rfl) ?hQ59 (Or.inl ⟨?hw59, ?hy59⟩) hS ?rest59
            case hi59 => simp only [List.getElem?_toArray, List.getElem?_cons_succ, List.getElem?_cons_zero]; rfl
            case hQ59 => exact fun _ _ _ h => h
            case hw59 => rfl
            case hy59 => intro W' hS'; subst hS'; obtain ⟨a0, a1⟩ := Blk.c2 kX; go_simp; with_reducible rfl
            try simp only [Act.put, List.setIfInBounds_toArray, List.set_cons_zero, List.set_cons_succ]
            refine' wpAnyH_take (i := 10) (oi := _) (v := _) ?hi60 (by kernel_rfl) (by kernel_rfl) (by kernel_rfl) ?hQ60 (Or.inl ⟨?hw60, ?hy60⟩) hS ?rest60
            case hi60 => simp only [List.getElem?_toArray, List.getElem?_cons_succ, List.getElem?_cons_zero]; rfl
            case hQ60 => exact fun _ _ _ h => h
            case hw60 => rfl
            case hy60 => intro W' hS'; subst hS'; have hcv := str_of _ hv3; go_simp; with_reducible rfl
            try simp only [Act.put, List.setIfInBounds_toArray, List.set_cons_zero, List.set_cons_succ]
            refine' wpAnyH_take (i := 11) (oi := _) (v := _) ?hi61 (by kernel_rfl) (by kernel_rfl) (by kernel_rfl) ?hQ61 (Or.inl ⟨?hw61, ?hy61⟩) hS ?rest61
            case hi61 => simp only [List.getElem?_toArray, List.getElem?_cons_succ, List.getElem?_cons_zero]; rfl
            case hQ61 => exact fun _ _ _ h => h
            case hw61 => rfl
            case hy61 => intro W' hS'; go_simp; with_reducible rfl
            try simp only [Act.put, List.setIfInBounds_toArray, List.set_cons_zero, List.set_cons_succ]
            refine' wpAnyH_take (i := 12) (oi := _) (v := _) ?hi62 (by kernel_rfl) (by kernel_rfl) (by kernel_rfl) ?hQ62 (Or.inl ⟨?hw62, ?hy62⟩) hS ?rest62
            case hi62 => simp only [List.getElem?_toArray, List.getElem?_cons_succ, List.getElem?_cons_zero]; rfl
            case hQ62 => exact fun _ _ _ h => h
            case hw62 => rfl
            case hy62 => intro W' hS'; go_simp; with_reducible rfl
            try simp only [Act.put, List.setIfInBounds_toArray, List.set_cons_zero, List.set_cons_succ]
            refine wpAnyH_done (by kernel_rfl) ?_ _
            clear hS hv3 kX
            obtain ⟨c0, c1, c2, c3, c4, c5, c6⟩ := kI.c7
            by_cases hm : maybeI i
            · have HE := Lib.hid (errI_zero hm)
              by_cases hn : maybeV v
              · have HF := Lib.hid (errV_zero hn)
                obtain rfl := HM.out hm hn
                have HLE : Hid ((encI i ++ encV v).length ≤ 8192) := Lib.hid (by rw [List.length_append, encV_length]; have := encI_length hm; omega)
                have G1 := Lib.hid (fun p W h => backI (p := p) hm (encV v) W h)
                have G2 := Lib.hid (fun p W h => backV (p := p) hn hv4 W h)
                clear hm hn HM
                have rt2 : (i.rt.toList == i.rt.toList) = true := by simp
                have id2 : (i.id.toList == i.id.toList) = true := by simp
                generalize encV v = R at *
                generalize encI i ++ R = E at *
                go_upto_region 13 with (first
                  | (go_at_call 8; refine (C1.out _).mono ?_; rw [HE.out]; rintro e Y5 ⟨rfl, hb⟩; replace kI := kI.below hb kI.lt; replace kV := kV.below hb kV.lt; replace hB := chain hB hb; replace hs0 := (hs0.below hb (Nat.le_refl _)).mono (Nat.le_refl _) hb.size; obtain ⟨d0, d1, d2, d3, d4⟩ := kV.c5; clear hb)
                  | (go_at_call 10; refine (S1.out _).mono ?_; rw [HF.out]; rintro e Y6 ⟨rfl, hb⟩; replace kI := kI.below hb kI.lt; replace kV := kV.below hb kV.lt; replace hB := chain hB hb; replace hs0 := (hs0.below hb (Nat.le_refl _)).mono (Nat.le_refl _) hb.size; clear hb d0 d1 d2 d3 d4)
                  | (go_at_call 19; refine (inOpen_any _ _ _ (by have := HLE.out; omega) hs0).mono ?_; rw [openS_little HLE.out]; rintro e Y7 ⟨NB2, rfl, hN, hO, hb⟩; have hn1 : some w.heap.size ≠ some NB2 := (fun e => by cases e; exact absurd kI.lt (by omega)); have hn2 : some (w.heap.size + 1) ≠ some NB2 := (fun e => by cases e; exact absurd kV.lt (by omega)); replace kI := kI.below hb kI.lt; replace kV := kV.below hb kV.lt; have hNw := Nat.le_trans hB.size hN; replace hB := chain hB hb; clear hb hN))
                clear hs0 HLE HE HF C1 S1 c0 c1 c2 c3 c4 c5 c6
                refine wp_region_held_drew (S := fun W => Blk W w.heap.size 23 (ivc i) ∧ Blk W (w.heap.size + 1) 28 (svc v)) hmx ⟨kI, kV⟩ ?_
                intro hS
                replace hB := hB.drew
                replace hO := hO.below (Below.refl _ Y7).drew
                clear kI kV
                generalize Y7.drew = Y8 at *
                refine' wpAnyH_take (i := 0) (oi := _) (v := _) ?hi63 (by kernel_rfl) (by kernel_rfl) (by kernel_rfl) ?hQ63 (Or.inl ⟨?hw63, ?hy63⟩) hS ?rest63
                case hi63 => simp only [List.getElem?_toArray, List.getElem?_cons_zero]; rfl
                case hQ63 => exact fun _ _ _ h => h
                case hw63 => rfl
                case hy63 => intro W' hS'; go_simp; with_reducible rfl
                try simp only [Act.put, List.setIfInBounds_toArray, List.set_cons_zero, List.set_cons_succ]
                refine' wpAnyH_take (i := 1) (oi := _) (v := _) ?hi64 (by kernel_rfl) (by kernel_rfl) (by kernel_rfl) ?hQ64 (Or.inl ⟨?hw64, ?hy64⟩) hS ?rest64
                case hi64 => simp only [List.getElem?_toArray, List.getElem?_cons_succ, List.getElem?_cons_zero]; rfl
                case hQ64 => exact fun _ _ _ h => h
                case hw64 => rfl
                case hy64 => intro W' hS'; go_simp; with_reducible rfl
                try simp only [Act.put, List.setIfInBounds_toArray, List.set_cons_zero, List.set_cons_succ]
                refine' wpAnyH_take (i := 2) (oi := _) (v := _) ?hi65 (by kernel_rfl) (by kernel_rfl) (by kernel_rfl) ?hQ65 (Or.inl ⟨?hw65, ?hy65⟩) hS ?rest65
                case hi65 => simp only [List.getElem?_toArray, List.getElem?_cons_succ, List.getElem?_cons_zero]; rfl
                case hQ65 => exact fun _ _ _ h => h
                case hw65 => rfl
                case hy65 => intro W' hS'; go_simp; with_reducible rfl
                try simp only [Act.put, List.setIfInBounds_toArray, List.set_cons_zero, List.set_cons_succ]
                refine' wpAnyH_take (i := 3) (oi := _) (v := _) ?hi66 (by kernel_rfl) (by kernel_rfl) (by kernel_rfl) ?hQ66 (Or.inl ⟨?hw66, ?hy66⟩) hS ?rest66
                case hi66 => simp only [List.getElem?_toArray, List.getElem?_cons_succ, List.getElem?_cons_zero]; rfl
                case hQ66 => exact fun _ _ _ h => h
                case hw66 => rfl
                case hy66 => intro W' hS'; go_simp; with_reducible rfl
                try simp only [Act.put, List.setIfInBounds_toArray, List.set_cons_zero, List.set_cons_succ]
                refine' wpAnyH_take (i := 5) (oi := _) (v := _) ?hi67 (by kernel_rfl) (by kernel_rfl) (by kernel_rfl) ?hQ67 (Or.inl ⟨?hw67, ?hy67⟩) hS ?rest67
                case hi67 => simp only [List.getElem?_toArray, List.getElem?_cons_succ, List.getElem?_cons_zero]; rfl
                case hQ67 => exact fun _ _ _ h => h
                case hw67 => rfl
                case hy67 => intro W' hS'; obtain ⟨c0, c1, c2, c3, c4, c5, c6⟩ := Blk.c7 hS'.1; go_simp; with_reducible rfl
                try simp only [Act.put, List.setIfInBounds_toArray, List.set_cons_zero, List.set_cons_succ]
                refine wpAnyH_ready (rs := [4]) (by kernel_rfl) (by simp) ?_
                refine' AllReadyH.cons (o := _) ?ho68 (fun K hK => ?st68) AllReadyH.nil
                case ho68 => simp only [List.getElem?_toArray, List.getElem?_cons_succ, List.getElem?_cons_zero]; rfl
                case st68 =>
                  go_simp
                  refine (G1.out _ _ hO).mono ?_
                  rintro e Z1 ⟨rfl, hO1, hG⟩
                  refine hK.out _ _ ⟨hS.1.kept hG hn1, hS.2.kept hG hn2⟩ (fun hS => ?_)
                  clear hK K
                  try simp only [Act.put, List.setIfInBounds_toArray, List.set_cons_zero, List.set_cons_succ]
                  replace hB := hB.grown hG hB.size (fun k e => by cases e; exact hNw)
                  clear hG hO
                  refine' wpAnyH_take (i := 6) (oi := _) (v := _) ?hi69 (by kernel_rfl) (by kernel_rfl) (by kernel_rfl) ?hQ69 (Or.inl ⟨?hw69, ?hy69⟩) hS ?rest69
                  case hi69 => simp only [List.getElem?_toArray, List.getElem?_cons_succ, List.getElem?_cons_zero]; rfl
                  case hQ69 => exact fun _ _ _ h => h
                  case hw69 => rfl
                  case hy69 => intro W' hS'; go_simp; with_reducible rfl
                  try simp only [Act.put, List.setIfInBounds_toArray, List.set_cons_zero, List.set_cons_succ]
                  refine' wpAnyH_take (i := 7) (oi := _) (v := _) ?hi70 (by kernel_rfl) (by kernel_rfl) (by kernel_rfl) ?hQ70 (Or.inl ⟨?hw70, ?hy70⟩) hS ?rest70
                  case hi70 => simp only [List.getElem?_toArray, List.getElem?_cons_succ, List.getElem?_cons_zero]; rfl
                  case hQ70 => exact fun _ _ _ h => h
                  case hw70 => rfl
                  case hy70 => intro W' hS'; go_simp; with_reducible rfl
                  try simp only [Act.put, List.setIfInBounds_toArray, List.set_cons_zero, List.set_cons_succ]
                  refine' wpAnyH_take (i := 8) (oi := _) (v := _) ?hi71 (by kernel_rfl) (by kernel_rfl) (by kernel_rfl) ?hQ71 (Or.inl ⟨?hw71, ?hy71⟩) hS ?rest71
                  case hi71 => simp only [List.getElem?_toArray, List.getElem?_cons_succ, List.getElem?_cons_zero]; rfl
                  case hQ71 => exact fun _ _ _ h => h
                  case hw71 => rfl
                  case hy71 => intro W' hS'; go_simp; with_reducible rfl
                  try simp only [Act.put, List.setIfInBounds_toArray, List.set_cons_zero, List.set_cons_succ]
                  refine' wpAnyH_take (i := 9) (oi := _) (v := _) ?hi72 (by kernel_rfl) (by kernel_rfl) (by kernel_rfl) ?hQ72 (Or.inl ⟨?hw72, ?hy72⟩) hS ?rest72
                  case hi72 => simp only [List.getElem?_toArray, List.getElem?_cons_succ, List.getElem?_cons_zero]; rfl
                  case hQ72 => exact fun _ _ _ h => h
                  case hw72 => rfl
                  case hy72 => intro W' hS'; go_simp; with_reducible rfl
                  try simp only [Act.put, List.setIfInBounds_toArray, List.set_cons_zero, List.set_cons_succ]
                  refine' wpAnyH_take (i := 11) (oi := _) (v := _) ?hi73 (by kernel_rfl) (by kernel_rfl) (by kernel_rfl) ?hQ73 (Or.inl ⟨?hw73, ?hy73⟩) hS ?rest73
                  case hi73 => simp only [List.getElem?_toArray, List.getElem?_cons_succ, List.getElem?_cons_zero]; rfl
                  case hQ73 => exact fun _ _ _ h => h
                  case hw73 => rfl
                  case hy73 => intro W' hS'; obtain ⟨c0, c1, c2, c3, c4⟩ := Blk.c5 hS'.2; go_simp; with_reducible rfl
                  try simp only [Act.put, List.setIfInBounds_toArray, List.set_cons_zero, List.set_cons_succ]
                  refine wpAnyH_ready (rs := [10]) (by kernel_rfl) (by simp) ?_
                  refine' AllReadyH.cons (o := _) ?ho74 (fun K hK => ?st74) AllReadyH.nil
                  case ho74 => simp only [List.getElem?_toArray, List.getElem?_cons_succ, List.getElem?_cons_zero]; rfl
                  case st74 =>
                    go_simp
                    refine (G2.out _ _ hO1).mono ?_
                    rintro e Z2 ⟨rfl, hO2, hG⟩
                    refine hK.out _ _ ⟨hS.1.kept hG hn1, hS.2.kept hG hn2⟩ (fun hS => ?_)
                    clear hK K
                    try simp only [Act.put, List.setIfInBounds_toArray, List.set_cons_zero, List.set_cons_succ]
                    replace hB := hB.grown hG hB.size (fun k e => by cases e; exact hNw)
                    clear hG hO1
                    have hweq := @run_equalIn_wide8
                    have hwr := wEq_refl
                    refine' wpAnyH_take (i := 12) (oi := _) (v := _) ?hi75 (by kernel_rfl) (by kernel_rfl) (by kernel_rfl) ?hQ75 (Or.inl ⟨?hw75, ?hy75⟩) hS ?rest75
                    case hi75 => simp only [List.getElem?_toArray, List.getElem?_cons_succ, List.getElem?_cons_zero]; rfl
                    case hQ75 => exact fun _ _ _ h => h
                    case hw75 => rfl
                    case hy75 => intro W' hS'; go_simp; with_reducible rfl
                    try simp only [Act.put, List.setIfInBounds_toArray, List.set_cons_zero, List.set_cons_succ]
                    refine' wpAnyH_take (i := 13) (oi := _) (v := _) ?hi76 (by kernel_rfl) (by kernel_rfl) (by kernel_rfl) ?hQ76 (Or.inl ⟨?hw76, ?hy76⟩) hS ?rest76
                    case hi76 => simp only [List.getElem?_toArray, List.getElem?_cons_succ, List.getElem?_cons_zero]; rfl
                    case hQ76 => exact fun _ _ _ h => h
                    case hw76 => rfl
                    case hy76 => intro W' hS'; go_simp; with_reducible rfl
                    try simp only [Act.put, List.setIfInBounds_toArray, List.set_cons_zero, List.set_cons_succ]
                    refine' wpAnyH_take (i := 14) (oi := _) (v := _) ?hi77 (by kernel_rfl) (by kernel_rfl) (by kernel_rfl) ?hQ77 (Or.inl ⟨?hw77, ?hy77⟩) hS ?rest77
                    case hi77 => simp only [List.getElem?_toArray, List.getElem?_cons_succ, List.getElem?_cons_zero]; rfl
                    case hQ77 => exact fun _ _ _ h => h
                    case hw77 => rfl
                    case hy77 => intro W' hS'; go_simp; with_reducible rfl
                    try simp only [Act.put, List.setIfInBounds_toArray, List.set_cons_zero, List.set_cons_succ]
                    refine' wpAnyH_take (i := 15) (oi := _) (v := _) ?hi78 (by kernel_rfl) (by kernel_rfl) (by kernel_rfl) ?hQ78 (Or.inl ⟨?hw78, ?hy78⟩) hS ?rest78
                    case hi78 => simp only [List.getElem?_toArray, List.getElem?_cons_succ, List.getElem?_cons_zero]; rfl
                    case hQ78 => exact fun _ _ _ h => h
                    case hw78 => rfl
                    case hy78 => intro W' hS'; go_simp; with_reducible rfl
                    try simp only [Act.put, List.setIfInBounds_toArray, List.set_cons_zero, List.set_cons_succ]
                    refine wpAnyH_ready (rs := [16]) (by kernel_rfl) (by simp) ?_
                    refine' AllReadyH.cons (o := _) ?ho79 (fun K hK => ?st79) AllReadyH.nil
                    case ho79 => simp only [List.getElem?_toArray, List.getElem?_cons_succ, List.getElem?_cons_zero]; rfl
                    case st79 =>
                      go_simp
                      refine (inErr_any _ hO2).mono ?_
                      rintro e Z3 ⟨rfl, rfl⟩
                      refine hK.out _ _ hS (fun hS => ?_)
                      clear hK K
                      try dsimp only
                      refine' wpAnyH_take (i := 17) (oi := _) (v := _) ?hi80 (by kernel_rfl) (by kernel_rfl) (by kernel_rfl) ?hQ80 (Or.inl ⟨?hw80, ?hy80⟩) hS ?rest80
                      case hi80 => simp only [List.getElem?_toArray, List.getElem?_cons_succ, List.getElem?_cons_zero]; rfl
                      case hQ80 => exact fun _ _ _ h => h
                      case hw80 => rfl
                      case hy80 => intro W' hS'; go_simp; with_reducible rfl
                      try simp only [Act.put, List.setIfInBounds_toArray, List.set_cons_zero, List.set_cons_succ]
                      refine' wpAnyH_take (i := 18) (oi := _) (v := _) ?hi81 (by kernel_rfl) (by kernel_rfl) (by kernel_rfl) ?hQ81 (Or.inl ⟨?hw81, ?hy81⟩) hS ?rest81
                      case hi81 => simp only [List.getElem?_toArray, List.getElem?_cons_succ, List.getElem?_cons_zero]; rfl
                      case hQ81 => exact fun _ _ _ h => h
                      case hw81 => rfl
                      case hy81 => intro W' hS'; go_simp; with_reducible rfl
                      try simp only [Act.put, List.setIfInBounds_toArray, List.set_cons_zero, List.set_cons_succ]
                      refine' wpAnyH_take (i := 19) (oi := _) (v := _) ?hi82 (by kernel_rfl) (by kernel_rfl) (by kernel_rfl) ?hQ82 (Or.inl ⟨?hw82, ?hy82⟩) hS ?rest82
                      case hi82 => simp only [List.getElem?_toArray, List.getElem?_cons_succ, List.getElem?_cons_zero]; rfl
                      case hQ82 => exact fun _ _ _ h => h
                      case hw82 => rfl
                      case hy82 => intro W' hS'; go_simp; with_reducible rfl
                      try simp only [Act.put, List.setIfInBounds_toArray, List.set_cons_zero, List.set_cons_succ]
                      refine' wpAnyH_take (i := 20) (oi := _) (v := _) ?hi83 (by kernel_rfl) (by kernel_rfl) (by kernel_rfl) ?hQ83 (Or.inl ⟨?hw83, ?hy83⟩) hS ?rest83
                      case hi83 => simp only [List.getElem?_toArray, List.getElem?_cons_succ, List.getElem?_cons_zero]; rfl
                      case hQ83 => exact fun _ _ _ h => h
                      case hw83 => rfl
                      case hy83 => intro W' hS'; go_simp; with_reducible rfl
                      try simp only [Act.put, List.setIfInBounds_toArray, List.set_cons_zero, List.set_cons_succ]
                      refine wpAnyH_ready (rs := [21]) (by kernel_rfl) (by simp) ?_
                      refine' AllReadyH.cons (o := _) ?ho84 (fun K hK => ?st84) AllReadyH.nil
                      case ho84 => simp only [List.getElem?_toArray, List.getElem?_cons_succ, List.getElem?_cons_zero]; rfl
                      case st84 =>
                        go_simp
                        refine (inLeft_any _ hO2).mono ?_
                        rintro e Z4 ⟨rfl, rfl⟩
                        refine hK.out _ _ hS (fun hS => ?_)
                        clear hK K
                        try dsimp only
                        refine' wpAnyH_take (i := 22) (oi := _) (v := _) ?hi85 (by kernel_rfl) (by kernel_rfl) (by kernel_rfl) ?hQ85 (Or.inl ⟨?hw85, ?hy85⟩) hS ?rest85
                        case hi85 => simp only [List.getElem?_toArray, List.getElem?_cons_succ, List.getElem?_cons_zero]; rfl
                        case hQ85 => exact fun _ _ _ h => h
                        case hw85 => rfl
                        case hy85 => intro W' hS'; go_simp; with_reducible rfl
                        try simp only [Act.put, List.setIfInBounds_toArray, List.set_cons_zero, List.set_cons_succ]
                        refine' wpAnyH_take (i := 23) (oi := _) (v := _) ?hi86 (by kernel_rfl) (by kernel_rfl) (by kernel_rfl) ?hQ86 (Or.inl ⟨?hw86, ?hy86⟩) hS ?rest86
                        case hi86 => simp only [List.getElem?_toArray, List.getElem?_cons_succ, List.getElem?_cons_zero]; rfl
                        case hQ86 => exact fun _ _ _ h => h
                        case hw86 => rfl
                        case hy86 => intro W' hS'; go_simp; with_reducible rfl
                        try simp only [Act.put, List.setIfInBounds_toArray, List.set_cons_zero, List.set_cons_succ]
                        refine' wpAnyH_take (i := 24) (oi := _) (v := _) ?hi87 (by kernel_rfl) (by kernel_rfl) (by kernel_rfl) ?hQ87 (Or.inl ⟨?hw87, ?hy87⟩) hS ?rest87
                        case hi87 => simp only [List.getElem?_toArray, List.getElem?_cons_succ, List.getElem?_cons_zero]; rfl
                        case hQ87 => exact fun _ _ _ h => h
                        case hw87 => rfl
                        case hy87 => intro W' hS'; go_simp; with_reducible rfl
                        try simp only [Act.put, List.setIfInBounds_toArray, List.set_cons_zero, List.set_cons_succ]
                        refine wpAnyH_done (by kernel_rfl) ?_ _
                        go_wp2_with fail
                        go_ret
                        exact ⟨rfl, hB⟩
              · have HF := Lib.hid (errV_bad hn)
                clear hm hn HM
                go_wp2_with (first
                  | (go_at_call 8; refine (C1.out _).mono ?_; rw [HE.out]; rintro e Y5 ⟨rfl, hb⟩; replace kI := kI.below hb kI.lt; replace kV := kV.below hb kV.lt; replace hB := chain hB hb; replace hs0 := (hs0.below hb (Nat.le_refl _)).mono (Nat.le_refl _) hb.size; obtain ⟨d0, d1, d2, d3, d4⟩ := kV.c5; clear hb)
                  | (go_at_call 10; refine (S1.out _).mono ?_; rw [HF.out]; rintro e Y6 ⟨rfl, hb⟩; replace kI := kI.below hb kI.lt; replace kV := kV.below hb kV.lt; replace hB := chain hB hb; replace hs0 := (hs0.below hb (Nat.le_refl _)).mono (Nat.le_refl _) hb.size; clear hb d0 d1 d2 d3 d4))
                go_ret
                exact ⟨rfl, hB⟩
            · have HE := Lib.hid (errI_bad hm)
              clear hm HM
              go_wp2_with (go_at_call 8; refine (C1.out _).mono ?_; rw [HE.out]; rintro e Y5 ⟨rfl, hb⟩; replace kI := kI.below hb kI.lt; replace kV := kV.below hb kV.lt; replace hB := chain hB hb; replace hs0 := (hs0.below hb (Nat.le_refl _)).mono (Nat.le_refl _) hb.size; obtain ⟨d0, d1, d2, d3, d4⟩ := kV.c5; clear hb)
              go_ret
              exact ⟨rfl, hB⟩
  case st5 =>
    have hXl := hS.2.lt
    go_simp
    refine hK.out _ _ ⟨hS.1.alloc _, hS.2.alloc _⟩ (fun hS => ?_)
    clear hK K
    try simp only [Act.put, List.setIfInBounds_toArray, List.set_cons_zero, List.set_cons_succ]
    have hXw : w.heap.size + 1 < Y.heap.size := hXl
    have hb := chain0 Y (.cells #[.slice none 0 0, .int .i64 0] 61)
    have kX := Blk.new Y 61 [.slice none 0 0, .int .i64 0]
    replace hB := chain hB hb
    replace hbv := (hbv.below hb (Nat.le_refl _)).mono (Nat.le_refl _) hb.size
    clear hb
    generalize hX : Y.heap.size = X at *
    generalize hY : Y.alloc _ = Z at *
    clear hX hY
    refine wpAnyH_ready (rs := [2]) (by kernel_rfl) (by simp) ?_
    refine' AllReadyH.cons (o := _) ?ho88 (fun K hK => ?st88) AllReadyH.nil
    case ho88 => simp only [List.getElem?_toArray, List.getElem?_cons_succ, List.getElem?_cons_zero]; rfl
    case st88 =>
      go_simp
      refine (P2.out _).mono ?_
      rintro e Y1 ⟨v1, rfl, hv1, hb⟩
      refine hK.out _ _ ⟨hS.1.below hb hS.1.lt, hS.2.below hb hS.2.lt⟩ (fun hS => ?_)
      clear hK K
      try simp only [Act.put, List.setIfInBounds_toArray, List.set_cons_zero, List.set_cons_succ]
      replace hB := chain hB hb
      replace hbv := (hbv.below hb (Nat.le_refl _)).mono (Nat.le_refl _) hb.size
      replace kX := kX.below hb kX.lt
      clear hb
      refine wpAnyH_ready (rs := [4]) (by kernel_rfl) (by simp) ?_
      refine' AllReadyH.cons (o := _) ?ho89 (fun K hK => ?st89) AllReadyH.nil
      case ho89 => simp only [List.getElem?_toArray, List.getElem?_cons_succ, List.getElem?_cons_zero]; rfl
      case st89 =>
        go_simp
        refine (Q2.out _ _ hv1).mono ?_
        rintro e Y2 ⟨v2, rfl, hv2, hb⟩
        refine hK.out _ _ ⟨hS.1.below hb hS.1.lt, hS.2.below hb hS.2.lt⟩ (fun hS => ?_)
        clear hK K
        try simp only [Act.put, List.setIfInBounds_toArray, List.set_cons_zero, List.set_cons_succ]
        replace hB := chain hB hb
        replace hbv := (hbv.below hb (Nat.le_refl _)).mono (Nat.le_refl _) hb.size
        replace kX := kX.below hb kX.lt
        clear hb hv1
        refine wpAnyH_ready (rs := [6]) (by kernel_rfl) (by simp) ?_
        refine' AllReadyH.cons (o := _) ?ho90 (fun K hK => ?st90) AllReadyH.nil
        case ho90 => simp only [List.getElem?_toArray, List.getElem?_cons_succ, List.getElem?_cons_zero]; rfl
        case st90 =>
          obtain ⟨r0, r1⟩ := Blk.c2 kX
          have fr := kX.frozen
          obtain ⟨xa, xm, xc, rfl⟩ := hv2.shape3
          go_simp
          refine hK.out _ _ ⟨(hS.1.other 0 _ (by omega)).other 1 _ (by omega), (hS.2.other 0 _ (by omega)).other 1 _ (by omega)⟩ (fun hS => ?_)
          clear hK K
          try simp only [Act.put, List.setIfInBounds_toArray, List.set_cons_zero, List.set_cons_succ]
          refine wpAnyH_done (by kernel_rfl) ?_ _
          have hs0 := stored_keeps (y := .int .i64 st.2) hbv ⟨_, _, _, rfl⟩ ⟨xa, xm, xc, rfl⟩ kX
          obtain ⟨kX2, hv3, hB3⟩ := stored_at (y := st.2) hv2 hB (by omega) ⟨_, _, _, rfl⟩ kX
          clear kX hbv hv2 hB r0 r1 fr
          have kI := hS.1
          have kV := hS.2
          clear hS
          have kX := kX2
          clear kX2
          go_upto_region 8 with fail
          generalize World.setCell (World.setCell _ _ _) _ _ = Y3 at *
          refine wp_region_held_drew (S := fun W => W = Y3.drew) hmx rfl ?_
          intro hS
          replace kI : Blk Y3.drew _ _ _ := kI
          replace kV : Blk Y3.drew _ _ _ := kV
          replace kX : Blk Y3.drew _ _ _ := kX
          replace hB := hB3.drew
          replace hs0 : BSl 0 Y3.drew.heap.size Y3.drew _ _ := (hs0.below (Below.refl _ Y3).drew (Nat.le_refl _)).mono (Nat.le_refl _) (Nat.le_refl _)
          replace hv3 : BSl 0 Y3.drew.heap.size Y3.drew _ _ := (hv3.below (Below.refl _ Y3).drew (Nat.le_refl _)).mono (Nat.le_refl _) (Nat.le_refl _)
          clear hB3
          generalize Y3.drew = Y4 at *
          refine' wpAnyH_take (i := 0) (oi := _) (v := _) ?hi91 (by kernel_rfl) (by kernel_rfl) (by kernel_rfl) ?hQ91 (Or.inl ⟨?hw91, ?hy91⟩) hS ?rest91
          case hi91 => simp only [List.getElem?_toArray, List.getElem?_cons_zero]; rfl
          case hQ91 => exact fun _ _ _ h => h
          case hw91 => rfl
          case hy91 => intro W' hS'; go_simp; with_reducible rfl
          try simp only [Act.put, List.setIfInBounds_toArray, List.set_cons_zero, List.set_cons_succ]
          refine' wpAnyH_take (i := 2) (oi := _) (v := _) ?hi92 (by kernel_rfl) (by kernel_rfl) (by kernel_rfl) ?hQ92 (Or.inl ⟨?hw92, ?hy92⟩) hS ?rest92
          case hi92 => simp only [List.getElem?_toArray, List.getElem?_cons_succ, List.getElem?_cons_zero]; rfl
          case hQ92 => exact fun _ _ _ h => h
          case hw92 => rfl
          case hy92 => intro W' hS'; go_simp; with_reducible rfl
          try simp only [Act.put, List.setIfInBounds_toArray, List.set_cons_zero, List.set_cons_succ]
          refine' wpAnyH_take (i := 3) (oi := _) (v := _) ?hi93 (by kernel_rfl) (by kernel_rfl) (by kernel_rfl) ?hQ93 (Or.inl ⟨?hw93, ?hy93⟩) hS ?rest93
          case hi93 => simp only [List.getElem?_toArray, List.getElem?_cons_succ, List.getElem?_cons_zero]; rfl
          case hQ93 => exact fun _ _ _ h => h
          case hw93 => rfl
          case hy93 => intro W' hS'; subst hS'; obtain ⟨a0, a1⟩ := Blk.c2 kX; go_simp; with_reducible rfl
          try simp only [Act.put, List.setIfInBounds_toArray, List.set_cons_zero, List.set_cons_succ]
          refine wpAnyH_ready (rs := [1]) (by kernel_rfl) (by simp) ?_
          refine' AllReadyH.cons (o := _) ?ho94 (fun K hK => ?st94) AllReadyH.nil
          case ho94 => simp only [List.getElem?_toArray, List.getElem?_cons_succ, List.getElem?_cons_zero]; rfl
          case st94 =>
            go_simp
            refine (num_law _ _).mono ?_
            rintro e Y9 ⟨rfl, rfl⟩
            refine hK.out _ _ rfl (fun hS => ?_)
            clear hK K
            try simp only [Act.put, List.setIfInBounds_toArray, List.set_cons_zero, List.set_cons_succ]
            refine' wpAnyH_take (i := 4) (oi := _) (v := _) ?hi95 (by kernel_rfl) (by kernel_rfl) (by kernel_rfl) ?hQ95 (Or.inl ⟨?hw95, ?hy95⟩) hS ?rest95
            case hi95 => simp only [List.getElem?_toArray, List.getElem?_cons_succ, List.getElem?_cons_zero]; rfl
            case hQ95 => exact fun _ _ _ h => h
            case hw95 => rfl
            case hy95 => intro W' hS'; go_simp; with_reducible rfl
            try simp only [Act.put, List.setIfInBounds_toArray, List.set_cons_zero, List.set_cons_succ]
            refine' wpAnyH_take (i := 5) (oi := _) (v := _) ?hi96 (by kernel_rfl) (by kernel_rfl) (by kernel_rfl) ?hQ96 (Or.inl ⟨?hw96, ?hy96⟩) hS ?rest96
            case hi96 => simp only [List.getElem?_toArray, List.getElem?_cons_succ, List.getElem?_cons_zero]; rfl
            case hQ96 => exact fun _ _ _ h => h
            case hw96 => rfl
            case hy96 => intro W' hS'; go_simp; with_reducible rfl
            try simp only [Act.put, List.setIfInBounds_toArray, List.set_cons_zero, List.set_cons_succ]
            refine' wpAnyH_take (i := 6) (oi := _) (v := _) ?hi97 (by kernel_rfl) (by kernel_rfl) (by kernel_rfl) ?hQ97 (Or.inl ⟨?hw97, ?hy97⟩) hS ?rest97
            case hi97 => simp only [List.getElem?_toArray, List.getElem?_cons_succ, List.getElem?_cons_zero]; rfl
            case hQ97 => exact fun _ _ _ h => h
            case hw97 => rfl
            case hy97 => intro W' hS'; go_simp; with_reducible rfl
            try simp only [Act.put, List.setIfInBounds_toArray, List.set_cons_zero, List.set_cons_succ]
            refine' wpAnyH_take (i := 7) (oi := _) (v := _) ?hi98 (by kernel_rfl) (by kernel_rfl) (by kernel_rfl) ?hQ98 (Or.inl ⟨?hw98, ?hy98⟩) hS ?rest98
            case hi98 => simp only [List.getElem?_toArray, List.getElem?_cons_succ, List.getElem?_cons_zero]; rfl
            case hQ98 => exact fun _ _ _ h => h
            case hw98 => rfl
            case hy98 => intro W' hS'; subst hS'; have hcv := str_of _ hs0; go_simp; with_reducible rfl
            try simp only [Act.put, List.setIfInBounds_toArray, List.set_cons_zero, List.set_cons_succ]
            refine' wpAnyH_take (i := 8) (oi := _) (v := _) ?hi99 (by kernel_rfl) (by kernel_rfl) (by kernel_rfl) ?hQ99 (Or.inl ⟨?hw99, ?hy99⟩) hS ?rest99
            case hi99 => simp only [List.getElem?_toArray, List.getElem?_cons_succ, List.getElem?_cons_zero]; rfl
            case hQ99 => exact fun _ _ _ h => h
            case hw99 => rfl
            case hy99 => intro W' hS'; go_simp; with_reducible rfl
            try simp only [Act.put, List.setIfInBounds_toArray, List.set_cons_zero, List.set_cons_succ]
            refine' wpAnyH_take (i := 9) (oi := _) (v := _) ?hi100 (by kernel_rfl) (by kernel_rfl) (by kernel_rfl) ?hQ100 (Or.inl ⟨?hw100, ?hy100⟩) hS ?rest100
            case hi100 => simp only [List.getElem?_toArray, List.getElem?_cons_succ, List.getElem?_cons_zero]; rfl
            case hQ100 => exact fun _ _ _ h => h
            case hw100 => rfl
            case hy100 => intro W' hS'; subst hS'; obtain ⟨a0, a1⟩ := Blk.c2 kX; go_simp; with_reducible rfl
            try simp only [Act.put, List.setIfInBounds_toArray, List.set_cons_zero, List.set_cons_succ]
            refine' wpAnyH_take (i := 10) (oi := _) (v := _) ?hi101 (by kernel_rfl) (by kernel_rfl) (by kernel_rfl) ?hQ101 (Or.inl ⟨?hw101, ?hy101⟩) hS ?rest101
            case hi101 => simp only [List.getElem?_toArray, List.getElem?_cons_succ, List.getElem?_cons_zero]; rfl
            case hQ101 => exact fun _ _ _ h => h
            case hw101 => rfl
            case hy101 => intro W' hS'; subst hS'; have hcv := str_of _ hv3; go_simp; with_reducible rfl
            try simp only [Act.put, List.setIfInBounds_toArray, List.set_cons_zero, List.set_cons_succ]
            refine' wpAnyH_take (i := 11) (oi := _) (v := _) ?hi102 (by kernel_rfl) (by kernel_rfl) (by kernel_rfl) ?hQ102 (Or.inl ⟨?hw102, ?hy102⟩) hS ?rest102
            case hi102 => simp only [List.getElem?_toArray, List.getElem?_cons_succ, List.getElem?_cons_zero]; rfl
            case hQ102 => exact fun _ _ _ h => h
            case hw102 => rfl
            case hy102 => intro W' hS'; go_simp; with_reducible rfl
            try simp only [Act.put, List.setIfInBounds_toArray, List.set_cons_zero, List.set_cons_succ]
            refine' wpAnyH_take (i := 12) (oi := _) (v := _) ?hi103 (by kernel_rfl) (by kernel_rfl) (by kernel_rfl) ?hQ103 (Or.inl ⟨?hw103, ?hy103⟩) hS ?rest103
            case hi103 => simp only [List.getElem?_toArray, List.getElem?_cons_succ, List.getElem?_cons_zero]; rfl
            case hQ103 => exact fun _ _ _ h => h
            case hw103 => rfl
            case hy103 => intro W' hS'; go_simp; with_reducible rfl
            try simp only [Act.put, List.setIfInBounds_toArray, List.set_cons_zero, List.set_cons_succ]
            refine wpAnyH_done (by kernel_rfl) ?_ _
            clear hS hv3 kX
            obtain ⟨c0, c1, c2, c3, c4, c5, c6⟩ := kI.c7
            by_cases hm : maybeI i
            · have HE := Lib.hid (errI_zero hm)
              by_cases hn : maybeV v
              · have HF := Lib.hid (errV_zero hn)
                obtain rfl := HM.out hm hn
                have HLE : Hid ((encI i ++ encV v).length ≤ 8192) := Lib.hid (by rw [List.length_append, encV_length]; have := encI_length hm; omega)
                have G1 := Lib.hid (fun p W h => backI (p := p) hm (encV v) W h)
                have G2 := Lib.hid (fun p W h => backV (p := p) hn hv4 W h)
                clear hm hn HM
                have rt2 : (i.rt.toList == i.rt.toList) = true := by simp
                have id2 : (i.id.toList == i.id.toList) = true := by simp
                generalize encV v = R at *
                generalize encI i ++ R = E at *
                go_upto_region 13 with (first
                  | (go_at_call 8; refine (C1.out _).mono ?_; rw [HE.out]; rintro e Y5 ⟨rfl, hb⟩; replace kI := kI.below hb kI.lt; replace kV := kV.below hb kV.lt; replace hB := chain hB hb; replace hs0 := (hs0.below hb (Nat.le_refl _)).mono (Nat.le_refl _) hb.size; obtain ⟨d0, d1, d2, d3, d4⟩ := kV.c5; clear hb)
                  | (go_at_call 10; refine (S1.out _).mono ?_; rw [HF.out]; rintro e Y6 ⟨rfl, hb⟩; replace kI := kI.below hb kI.lt; replace kV := kV.below hb kV.lt; replace hB := chain hB hb; replace hs0 := (hs0.below hb (Nat.le_refl _)).mono (Nat.le_refl _) hb.size; clear hb d0 d1 d2 d3 d4)
                  | (go_at_call 19; refine (inOpen_any _ _ _ (by have := HLE.out; omega) hs0).mono ?_; rw [openS_little HLE.out]; rintro e Y7 ⟨NB2, rfl, hN, hO, hb⟩; have hn1 : some w.heap.size ≠ some NB2 := (fun e => by cases e; exact absurd kI.lt (by omega)); have hn2 : some (w.heap.size + 1) ≠ some NB2 := (fun e => by cases e; exact absurd kV.lt (by omega)); replace kI := kI.below hb kI.lt; replace kV := kV.below hb kV.lt; have hNw := Nat.le_trans hB.size hN; replace hB := chain hB hb; clear hb hN))
                clear hs0 HLE HE HF C1 S1 c0 c1 c2 c3 c4 c5 c6
                refine wp_region_held_drew (S := fun W => Blk W w.heap.size 23 (ivc i) ∧ Blk W (w.heap.size + 1) 28 (svc v)) hmx ⟨kI, kV⟩ ?_
                intro hS
                replace hB := hB.drew
                replace hO := hO.below (Below.refl _ Y7).drew
                clear kI kV
                generalize Y7.drew = Y8 at *
                refine' wpAnyH_take (i := 0) (oi := _) (v := _) ?hi104 (by kernel_rfl) (by kernel_rfl) (by kernel_rfl) ?hQ104 (Or.inl ⟨?hw104, ?hy104⟩) hS ?rest104
                case hi104 => simp only [List.getElem?_toArray, List.getElem?_cons_zero]; rfl
                case hQ104 => exact fun _ _ _ h => h
                case hw104 => rfl
                case hy104 => intro W' hS'; go_simp; with_reducible rfl
                try simp only [Act.put, List.setIfInBounds_toArray, List.set_cons_zero, List.set_cons_succ]
                refine' wpAnyH_take (i := 1) (oi := _) (v := _) ?hi105 (by kernel_rfl) (by kernel_rfl) (by kernel_rfl) ?hQ105 (Or.inl ⟨?hw105, ?hy105⟩) hS ?rest105
                case hi105 => simp only [List.getElem?_toArray, List.getElem?_cons_succ, List.getElem?_cons_zero]; rfl
                case hQ105 => exact fun _ _ _ h => h
                case hw105 => rfl
                case hy105 => intro W' hS'; go_simp; with_reducible rfl
                try simp only [Act.put, List.setIfInBounds_toArray, List.set_cons_zero, List.set_cons_succ]
                refine' wpAnyH_take (i := 2) (oi := _) (v := _) ?hi106 (by kernel_rfl) (by kernel_rfl) (by kernel_rfl) ?hQ106 (Or.inl ⟨?hw106, ?hy106⟩) hS ?rest106
                case hi106 => simp only [List.getElem?_toArray, List.getElem?_cons_succ, List.getElem?_cons_zero]; rfl
                case hQ106 => exact fun _ _ _ h => h
                case hw106 => rfl
                case hy106 => intro W' hS'; go_simp; with_reducible rfl
                try simp only [Act.put, List.setIfInBounds_toArray, List.set_cons_zero, List.set_cons_succ]
                refine' wpAnyH_take (i := 3) (oi := _) (v := _) ?hi107 (by kernel_rfl) (by kernel_rfl) (by kernel_rfl) ?hQ107 (Or.inl ⟨?hw107, ?hy107⟩) hS ?rest107
                case hi107 => simp only [List.getElem?_toArray, List.getElem?_cons_succ, List.getElem?_cons_zero]; rfl
                case hQ107 => exact fun _ _ _ h => h
                case hw107 => rfl
                case hy107 => intro W' hS'; go_simp; with_reducible rfl
                try simp only [Act.put, List.setIfInBounds_toArray, List.set_cons_zero, List.set_cons_succ]
                refine' wpAnyH_take (i := 5) (oi := _) (v := _) ?hi108 (by kernel_rfl) (by kernel_rfl) (by kernel_rfl) ?hQ108 (Or.inl ⟨?hw108, ?hy108⟩) hS ?rest108
                case hi108 => simp only [List.getElem?_toArray, List.getElem?_cons_succ, List.getElem?_cons_zero]; rfl
                case hQ108 => exact fun _ _ _ h => h
                case hw108 => rfl
                case hy108 => intro W' hS'; obtain ⟨c0, c1, c2, c3, c4, c5, c6⟩ := Blk.c7 hS'.1; go_simp; with_reducible rfl
                try simp only [Act.put, List.setIfInBounds_toArray, List.set_cons_zero, List.set_cons_succ]
                refine wpAnyH_ready (rs := [4]) (by kernel_rfl) (by simp) ?_
                refine' AllReadyH.cons (o := _) ?ho109 (fun K hK => ?st109) AllReadyH.nil
                case ho109 => simp only [List.getElem?_toArray, List.getElem?_cons_succ, List.getElem?_cons_zero]; rfl
                case st109 =>
                  go_simp
                  refine (G1.out _ _ hO).mono ?_
                  rintro e Z1 ⟨rfl, hO1, hG⟩
                  refine hK.out _ _ ⟨hS.1.kept hG hn1, hS.2.kept hG hn2⟩ (fun hS => ?_)
                  clear hK K
                  try simp only [Act.put, List.setIfInBounds_toArray, List.set_cons_zero, List.set_cons_succ]
                  replace hB := hB.grown hG hB.size (fun k e => by cases e; exact hNw)
                  clear hG hO
                  refine' wpAnyH_take (i := 6) (oi := _) (v := _) ?hi110 (by kernel_rfl) (by kernel_rfl) (by kernel_rfl) ?hQ110 (Or.inl ⟨?hw110, ?hy110⟩) hS ?rest110
                  case hi110 => simp only [List.getElem?_toArray, List.getElem?_cons_succ, List.getElem?_cons_zero]; rfl
                  case hQ110 => exact fun _ _ _ h => h
                  case hw110 => rfl
                  case hy110 => intro W' hS'; go_simp; with_reducible rfl
                  try simp only [Act.put, List.setIfInBounds_toArray, List.set_cons_zero, List.set_cons_succ]
                  refine' wpAnyH_take (i := 7) (oi := _) (v := _) ?hi111 (by kernel_rfl) (by kernel_rfl) (by kernel_rfl) ?hQ111 (Or.inl ⟨?hw111, ?hy111⟩) hS ?rest111
                  case hi111 => simp only [List.getElem?_toArray, List.getElem?_cons_succ, List.getElem?_cons_zero]; rfl
                  case hQ111 => exact fun _ _ _ h => h
                  case hw111 => rfl
                  case hy111 => intro W' hS'; go_simp; with_reducible rfl
                  try simp only [Act.put, List.setIfInBounds_toArray, List.set_cons_zero, List.set_cons_succ]
                  refine' wpAnyH_take (i := 8) (oi := _) (v := _) ?hi112 (by kernel_rfl) (by kernel_rfl) (by kernel_rfl) ?hQ112 (Or.inl ⟨?hw112, ?hy112⟩) hS ?rest112
                  case hi112 => simp only [List.getElem?_toArray, List.getElem?_cons_succ, List.getElem?_cons_zero]; rfl
                  case hQ112 => exact fun _ _ _ h => h
                  case hw112 => rfl
                  case hy112 => intro W' hS'; go_simp; with_reducible rfl
                  try simp only [Act.put, List.setIfInBounds_toArray, List.set_cons_zero, List.set_cons_succ]
                  refine' wpAnyH_take (i := 9) (oi := _) (v := _) ?hi113 (by kernel_rfl) (by kernel_rfl) (by kernel_rfl) ?hQ113 (Or.inl ⟨?hw113, ?hy113⟩) hS ?rest113
                  case hi113 => simp only [List.getElem?_toArray, List.getElem?_cons_succ, List.getElem?_cons_zero]; rfl
                  case hQ113 => exact fun _ _ _ h => h
                  case hw113 => rfl
                  case hy113 => intro W' hS'; go_simp; with_reducible rfl
                  try simp only [Act.put, List.setIfInBounds_toArray, List.set_cons_zero, List.set_cons_succ]
                  refine' wpAnyH_take (i := 11) (oi := _) (v := _) ?hi114 (by kernel_rfl) (by kernel_rfl) (by kernel_rfl) ?hQ114 (Or.inl ⟨?hw114, ?hy114⟩) hS ?rest114
                  case hi114 => simp only [List.getElem?_toArray, List.getElem?_cons_succ, List.getElem?_cons_zero]; rfl
                  case hQ114 => exact fun _ _ _ h => h
                  case hw114 => rfl
                  case hy114 => intro W' hS'; obtain ⟨c0, c1, c2, c3, c4⟩ := Blk.c5 hS'.2; go_simp; with_reducible rfl
                  try simp only [Act.put, List.setIfInBounds_toArray, List.set_cons_zero, List.set_cons_succ]
                  refine wpAnyH_ready (rs := [10]) (by kernel_rfl) (by simp) ?_
                  refine' AllReadyH.cons (o := _) ?ho115 (fun K hK => ?st115) AllReadyH.nil
                  case ho115 => simp only [List.getElem?_toArray, List.getElem?_cons_succ, List.getElem?_cons_zero]; rfl
                  case st115 =>
                    go_simp
                    refine (G2.out _ _ hO1).mono ?_
                    rintro e Z2 ⟨rfl, hO2, hG⟩
                    refine hK.out _ _ ⟨hS.1.kept hG hn1, hS.2.kept hG hn2⟩ (fun hS => ?_)
                    clear hK K
                    try simp only [Act.put, List.setIfInBounds_toArray, List.set_cons_zero, List.set_cons_succ]
                    replace hB := hB.grown hG hB.size (fun k e => by cases e; exact hNw)
                    clear hG hO1
                    have hweq := @run_equalIn_wide8
                    have hwr := wEq_refl
                    refine' wpAnyH_take (i := 12) (oi := _) (v := _) ?hi116 (by kernel_rfl) (by kernel_rfl) (by kernel_rfl) ?hQ116 (Or.inl ⟨?hw116, ?hy116⟩) hS ?rest116
                    case hi116 => simp only [List.getElem?_toArray, List.getElem?_cons_succ, List.getElem?_cons_zero]; rfl
                    case hQ116 => exact fun _ _ _ h => h
                    case hw116 => rfl
                    case hy116 => intro W' hS'; go_simp; with_reducible rfl
                    try simp only [Act.put, List.setIfInBounds_toArray, List.set_cons_zero, List.set_cons_succ]
                    refine' wpAnyH_take (i := 13) (oi := _) (v := _) ?hi117 (by kernel_rfl) (by kernel_rfl) (by kernel_rfl) ?hQ117 (Or.inl ⟨?hw117, ?hy117⟩) hS ?rest117
                    case hi117 => simp only [List.getElem?_toArray, List.getElem?_cons_succ, List.getElem?_cons_zero]; rfl
                    case hQ117 => exact fun _ _ _ h => h
                    case hw117 => rfl
                    case hy117 => intro W' hS'; go_simp; with_reducible rfl
                    try simp only [Act.put, List.setIfInBounds_toArray, List.set_cons_zero, List.set_cons_succ]
                    refine' wpAnyH_take (i := 14) (oi := _) (v := _) ?hi118 (by kernel_rfl) (by kernel_rfl) (by kernel_rfl) ?hQ118 (Or.inl ⟨?hw118, ?hy118⟩) hS ?rest118
                    case hi118 => simp only [List.getElem?_toArray, List.getElem?_cons_succ, List.getElem?_cons_zero]; rfl
                    case hQ118 => exact fun _ _ _ h => h
                    case hw118 => rfl
                    case hy118 => intro W' hS'; go_simp; with_reducible rfl
                    try simp only [Act.put, List.setIfInBounds_toArray, List.set_cons_zero, List.set_cons_succ]
                    refine' wpAnyH_take (i := 15) (oi := _) (v := _) ?hi119 (by kernel_rfl) (by kernel_rfl) (by kernel_rfl) ?hQ119 (Or.inl ⟨?hw119, ?hy119⟩) hS ?rest119
                    case hi119 => simp only [List.getElem?_toArray, List.getElem?_cons_succ, List.getElem?_cons_zero]; rfl
                    case hQ119 => exact fun _ _ _ h => h
                    case hw119 => rfl
                    case hy119 => intro W' hS'; go_simp; with_reducible rfl
                    try simp only [Act.put, List.setIfInBounds_toArray, List.set_cons_zero, List.set_cons_succ]
                    refine wpAnyH_ready (rs := [16]) (by kernel_rfl) (by simp) ?_
                    refine' AllReadyH.cons (o := _) ?ho120 (fun K hK => ?st120) AllReadyH.nil
                    case ho120 => simp only [List.getElem?_toArray, List.getElem?_cons_succ, List.getElem?_cons_zero]; rfl
                    case st120 =>
                      go_simp
                      refine (inErr_any _ hO2).mono ?_
                      rintro e Z3 ⟨rfl, rfl⟩
                      refine hK.out _ _ hS (fun hS => ?_)
                      clear hK K
                      try dsimp only
                      refine' wpAnyH_take (i := 17) (oi := _) (v := _) ?hi121 (by kernel_rfl) (by kernel_rfl) (by kernel_rfl) ?hQ121 (Or.inl ⟨?hw121, ?hy121⟩) hS ?rest121
                      case hi121 => simp only [List.getElem?_toArray, List.getElem?_cons_succ, List.getElem?_cons_zero]; rfl
                      case hQ121 => exact fun _ _ _ h => h
                      case hw121 => rfl
                      case hy121 => intro W' hS'; go_simp; with_reducible rfl
                      try simp only [Act.put, List.setIfInBounds_toArray, List.set_cons_zero, List.set_cons_succ]
                      refine' wpAnyH_take (i := 18) (oi := _) (v := _) ?hi122 (by kernel_rfl) (by kernel_rfl) (by kernel_rfl) ?hQ122 (Or.inl ⟨?hw122, ?hy122⟩) hS ?rest122
                      case hi122 => simp only [List.getElem?_toArray, List.getElem?_cons_succ, List.getElem?_cons_zero]; rfl
                      case hQ122 => exact fun _ _ _ h => h
                      case hw122 => rfl
                      case hy122 => intro W' hS'; go_simp; with_reducible rfl
                      try simp only [Act.put, List.setIfInBounds_toArray, List.set_cons_zero, List.set_cons_succ]
                      refine' wpAnyH_take (i := 19) (oi := _) (v := _) ?hi123 (by kernel_rfl) (by kernel_rfl) (by kernel_rfl) ?hQ123 (Or.inl ⟨?hw123, ?hy123⟩) hS ?rest123
                      case hi123 => simp only [List.getElem?_toArray, List.getElem?_cons_succ, List.getElem?_cons_zero]; rfl
                      case hQ123 => exact fun _ _ _ h => h
                      case hw123 => rfl
                      case hy123 => intro W' hS'; go_simp; with_reducible rfl
                      try simp only [Act.put, List.setIfInBounds_toArray, List.set_cons_zero, List.set_cons_succ]
                      refine' wpAnyH_take (i := 20) (oi := _) (v := _) ?hi124 (by kernel_rfl) (by kernel_rfl) (by kernel_rfl) ?hQ124 (Or.inl ⟨?hw124, ?hy124⟩) hS ?rest124
                      case hi124 => simp only [List.getElem?_toArray, List.getElem?_cons_succ, List.getElem?_cons_zero]; rfl
                      case hQ124 => exact fun _ _ _ h => h
                      case hw124 => rfl
                      case hy124 => intro W' hS'; go_simp; with_reducible rfl
                      try simp only [Act.put, List.setIfInBounds_toArray, List.set_cons_zero, List.set_cons_succ]
                      refine wpAnyH_ready (rs := [21]) (by kernel_rfl) (by simp) ?_
                      refine' AllReadyH.cons (o := _) ?ho125 (fun K hK => ?st125) AllReadyH.nil
                      case ho125 => simp only [List.getElem?_toArray, List.getElem?_cons_succ, List.getElem?_cons_zero]; rfl
                      case st125 =>
                        go_simp
                        refine (inLeft_any _ hO2).mono ?_
                        rintro e Z4 ⟨rfl, rfl⟩
                        refine hK.out _ _ hS (fun hS => ?_)
                        clear hK K
                        try dsimp only
                        refine' wpAnyH_take (i := 22) (oi := _) (v := _) ?hi126 (by kernel_rfl) (by kernel_rfl) (by kernel_rfl) ?hQ126 (Or.inl ⟨?hw126, ?hy126⟩) hS ?rest126
                        case hi126 => simp only [List.getElem?_toArray, List.getElem?_cons_succ, List.getElem?_cons_zero]; rfl
                        case hQ126 => exact fun _ _ _ h => h
                        case hw126 => rfl
                        case hy126 => intro W' hS'; go_simp; with_reducible rfl
                        try simp only [Act.put, List.setIfInBounds_toArray, List.set_cons_zero, List.set_cons_succ]
                        refine' wpAnyH_take (i := 23) (oi := _) (v := _) ?hi127 (by kernel_rfl) (by kernel_rfl) (by kernel_rfl) ?hQ127 (Or.inl ⟨?hw127, ?hy127⟩) hS ?rest127
                        case hi127 => simp only [List.getElem?_toArray, List.getElem?_cons_succ, List.getElem?_cons_zero]; rfl
                        case hQ127 => exact fun _ _ _ h => h
                        case hw127 => rfl
                        case hy127 => intro W' hS'; go_simp; with_reducible rfl
                        try simp only [Act.put, List.setIfInBounds_toArray, List.set_cons_zero, List.set_cons_succ]
                        refine' wpAnyH_take (i := 24) (oi := _) (v := _) ?hi128 (by kernel_rfl) (by kernel_rfl) (by kernel_rfl) ?hQ128 (Or.inl ⟨?hw128, ?hy128⟩) hS ?rest128
                        case hi128 => simp only [List.getElem?_toArray, List.getElem?_cons_succ, List.getElem?_cons_zero]; rfl
                        case hQ128 => exact fun _ _ _ h => h
                        case hw128 => rfl
                        case hy128 => intro W' hS'; go_simp; with_reducible rfl
                        try simp only [Act.put, List.setIfInBounds_toArray, List.set_cons_zero, List.set_cons_succ]
                        refine wpAnyH_done (by kernel_rfl) ?_ _
                        go_wp2_with fail
                        go_ret
                        exact ⟨rfl, hB⟩
              · have HF := Lib.hid (errV_bad hn)
                clear hm hn HM
                go_wp2_with (first
                  | (go_at_call 8; refine (C1.out _).mono ?_; rw [HE.out]; rintro e Y5 ⟨rfl, hb⟩; replace kI := kI.below hb kI.lt; replace kV := kV.below hb kV.lt; replace hB := chain hB hb; replace hs0 := (hs0.below hb (Nat.le_refl _)).mono (Nat.le_refl _) hb.size; obtain ⟨d0, d1, d2, d3, d4⟩ := kV.c5; clear hb)
                  | (go_at_call 10; refine (S1.out _).mono ?_; rw [HF.out]; rintro e Y6 ⟨rfl, hb⟩; replace kI := kI.below hb kI.lt; replace kV := kV.below hb kV.lt; replace hB := chain hB hb; replace hs0 := (hs0.below hb (Nat.le_refl _)).mono (Nat.le_refl _) hb.size; clear hb d0 d1 d2 d3 d4))
                go_ret
                exact ⟨rfl, hB⟩
            · have HE := Lib.hid (errI_bad hm)
              clear hm HM
              go_wp2_with (go_at_call 8; refine (C1.out _).mono ?_; rw [HE.out]; rintro e Y5 ⟨rfl, hb⟩; replace kI := kI.below hb kI.lt; replace kV := kV.below hb kV.lt; replace hB := chain hB hb; replace hs0 := (hs0.below hb (Nat.le_refl _)).mono (Nat.le_refl _) hb.size; obtain ⟨d0, d1, d2, d3, d4⟩ := kV.c5; clear hb)
              go_ret
              exact ⟨rfl, hB⟩
end Go.Proofs.Ytififfadodjmeaa

namespace Go.Proofs.Ytififfadodjmeaa
open Go.ChangeShapes Go.WideShapes Go.ChangeAt Go.RowKit Go.Deep
open Go.ChangeMaps (open_string)

set_option maxRecDepth 100000 in
theorem dealBack_lifted (os : Os) (started : os.Started) (H : Type) (enc : TypeId × Value → H) :
    ReturnsInHanded {} Try.checked os 5 .any (Rows.dealBackSpec.pre6 enc Try.prog Try.f5 Rows.dealBackRow.domain false) (Rows.dealBackSpec.post enc Try.prog Try.f5 false true false false) := by
  refine returnsInHanded_of_change_sized (C := Try.checked) Try.own started (by kernel_rfl) Try.func5
    (ChangeSpec.witness6 (enc := enc) (C := Try.checked) false ⟨#[], #[.agg #[.int .i64 0, .string ⟨#[]⟩, .int .i64 0, .int .i64 0, .int .i64 0, .int .i64 0, .string ⟨#[]⟩], .agg #[.int .u64 0, .int .u64 0, .int .u64 0, .int .u64 0, .int .i64 0]], []⟩ 8 (by kernel_rfl) (by kernel_rfl) (by kernel_rfl) (by kernel_rfl)) ?_
  intro W base args ds gs before hval0 hW hcnd hsz0 _
  have hval : ∀ (j : Nat) t v, Try.f5.params[j]? = some t → args[j]? = some v → Value.okWide Try.prog W .any base t v := hval0
  have hW' := hW
  obtain ⟨p, q, hA0, hV, rfl, hfz, hnd⟩ := hW
  have hA : DataW.TrodAll enc Try.prog W 0 (fun _ => true) true Try.f5.params.toList args.toList ds p := hA0
  have hsz : (DataW.weightsEach Try.prog (Try.f5.params.toList ++ Rows.dealBackSpec.plain.varTypes Try.prog) (ds ++ gs)).all (· ≤ reachBytes) = true := hsz0
  rw [Try.params5] at hA hval hsz
  obtain ⟨v0, v1, d0, d1, p0, p1, rfl, rfl, rfl, h0, h1⟩ := trodAll_two hA
  obtain ⟨rfl, rfl⟩ := trodVars_none hV
  have k0 := h0
  have k1 := h1
  have lt0 : ∀ x ∈ p0, x.block < W.heap.size := by obtain ⟨m, hm⟩ := k0; exact DataW.trod_lt m _ _ _ hm
  have lt1 : ∀ x ∈ p1, x.block < W.heap.size := by obtain ⟨m, hm⟩ := k1; exact DataW.trod_lt m _ _ _ hm
  obtain ⟨i0, rfl, wr0, wi0⟩ := open_inv (hval 0 23 v0 rfl rfl) h0
  obtain ⟨x1, rfl, hx1⟩ := open_var (hval 1 28 v1 rfl rfl) h1
  clear hA0 hval0
  refine (dealBack_any i0 x1 hx1 W).mono fun e W' ⟨he, bel⟩ => ?_
  subst he
  exact ⟨_, rfl, _, _, _, [], _, [], hW', trodAll_mk1 (shut_bool Try.underlying4 _), (trodAll_mk2 (Below.trod Try.laidOut (by kernel_rfl) (of_decide_eq_true (by kernel_rfl)) k0 bel lt0) (Below.trod Try.laidOut (by kernel_rfl) (of_decide_eq_true (by kernel_rfl)) k1 bel lt1)), rfl, bel.frame _, fun h => by cases h⟩

theorem dealBack_over : Rows.dealBackRow.holds Try.pinned (OpenSpec.ofChange Rows.dealBackSpec) :=
  OpenClaim.holds_of_wide 5 Try.f5 rfl rfl rfl rfl rfl rfl rfl ⟨rfl, rfl, rfl, rfl, rfl⟩ rfl rfl rfl rfl rfl (by kernel_rfl) Try.func5 (by kernel_rfl)
    (of_decide_eq_true (by kernel_rfl)) (by unfold Func.isWrapper; first | (rw [if_pos (by decide +kernel)]; kernel_rfl) | (rw [if_neg (by decide +kernel)]; exact ⟨rfl, rfl⟩))
    (fun os started H enc _ => dealBack_lifted os started H enc)

/-- The statement. -/
theorem dealBack_proved : Rows.DealBackSaid := dealBack_over
end Go.Proofs.Ytififfadodjmeaa
