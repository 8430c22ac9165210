/-
  TxsTells answers true at every input, and leaves its arguments as they are.
  The walk of TxsTells: which transactions may be, any one's octets, and whether two are the same, are as the reference's.
-/
import Derived.ChangeMaps5
import Derived.Test.YtafcngnophlhgaaK14
namespace Go.Proofs.Ytafcngnophlhgaa
open Go.RowKit Go.Shelf

set_option maxRecDepth 100000 in
set_option maxHeartbeats 8000000 in
theorem txsTells_yes (t u : Tr) (ht : OkT t) (he : errT t = 0) (w : World) :
    Calls Try.prog 3 #[txv t, txv u] w fun e W' => e = .returned (.bool true) ∧ Below w.heap.size w W' := by
  have hmx : Try.prog.follows .mixedOrders = true := by kernel_rfl
  have HOC := Lib.hid (txsOctets_any t ht)
  have HC := Lib.hid (txsCheck_any t)
  have HR := Lib.hid (refTx_any t)
  have HSM := Lib.hid (txsSame_any t u)
  have HEQ := Lib.hid (run_eqT t u)
  have HNIL : Hid (∀ W : World, BSl 0 W.heap.size W (.slice none 0 0) []) := Lib.hid fun W => ⟨none, 0, rfl, Nat.le_refl 0, .inl rfl⟩
  have HRP : Hid (∀ W v, BSl 0 W.heap.size W v [] → Calls Try.prog 9 #[.agg #[v, .int .i64 0], txv t] W (RefS (putT ([], 0) t) W)) := Lib.hid fun W v h => refPutTx_any okS_new v t ht W h
  rw [octT_yes he] at HOC
  rw [he] at HC HR
  generalize putT ([], 0) t = st at *
  clear ht he
  have kA := (Blk.new w 30 (txc t)).alloc (.cells (txc u).toArray 30)
  have kB : Blk ((w.alloc (.cells (txc t).toArray 30)).alloc (.cells (txc u).toArray 30)) (w.heap.size + 1) 30 (txc u) := Blk.new' (by simp)
  have hB := chainA (chain0 w (.cells (txc t).toArray 30)) (.cells (txc u).toArray 30)
  go_enter Try.func3, Try.ntmps3
  go_upto_region 4 with (first
    | ((with_reducible refine wpList_loadIf 30 (.tmp 2) ?_ (some 10) ?_ ?_ (txv t) ?_ ?_); (· rfl); (· rfl); (· rfl); (· exact load_tx kA))
    | ((with_reducible refine wpList_loadIf 30 (.tmp 2) ?_ (some 14) ?_ ?_ (txv t) ?_ ?_); (· rfl); (· rfl); (· rfl); (· exact load_tx kA))
    | (go_at_call 7; refine (HOC.out _).mono ?_; rintro e w1 ⟨sv, rfl, hsv, hb⟩; obtain ⟨va, vm, vc, rfl⟩ := hsv.shape3; replace kA := kA.below hb kA.lt; replace kB := kB.below hb kB.lt; replace hB := chain hB hb; clear hb)
    | (go_at_call 8; refine (HR.out _).mono ?_; rintro e w2 ⟨rfl, hb⟩; replace kA := kA.below hb kA.lt; replace kB := kB.below hb kB.lt; replace hsv := bslU hsv hb; replace hB := chain hB hb; clear hb))
  have hb := chain0 w2 (.cells #[.slice none 0 0, .int .i64 0] 37)
  have kX := Blk.new w2 37 [.slice none 0 0, .int .i64 0]
  have hXA : w.heap.size < w2.heap.size := kA.lt
  have hXB : w.heap.size + 1 < w2.heap.size := kB.lt
  replace kA := kA.below hb kA.lt
  replace kB := kB.below hb kB.lt
  replace hsv := bslU hsv hb
  have hXw := hB.size
  replace hB := chain hB hb
  clear hb
  generalize w2.heap.size = XB at *
  generalize w2.alloc _ = X0 at *
  obtain ⟨a0, a1⟩ := Blk.c2 kX
  have HNA : Hid (w.heap.size ≠ XB) := Lib.hid (by omega)
  have HNB : Hid (w.heap.size + 1 ≠ XB) := Lib.hid (by omega)
  go_upto_region 7 with (first
    | ((with_reducible refine wpList_loadIf 30 (.tmp 2) ?_ (some 20) ?_ ?_ (txv t) ?_ ?_); (· rfl); (· rfl); (· rfl); (· exact load_tx kA))
    | (go_at_call 9; refine (HRP.out _ _ (HNIL.out _)).mono ?_; rintro e w5 ⟨v2, rfl, hv2, hb⟩; obtain ⟨xa, xm, xc, rfl⟩ := hv2.shape3; replace kX := kX.below hb kX.lt; replace kA := kA.below hb kA.lt; replace kB := kB.below hb kB.lt; replace hsv := bslU hsv hb; replace hB := chain hB hb; clear hb a0 a1; obtain ⟨a0, a1⟩ := Blk.c2 kX)
    | ((refine wpList_store_part 37 (.tmp 8) (.tmp 21) [Value.slice xa xm xc, .int .i64 st.2] kX 0 (.agg #[Value.slice xa xm xc, .int .i64 st.2]) [Value.slice xa xm xc, .int .i64 st.2] ?_ ?_ ?_ ?_ ?_ ?_ ?_ ?_ ?_ ?_ ?_); (· rfl); (· rfl); (· rfl); (· rfl); (· rfl); (· rfl); (· kernel_rfl); (· exact Nat.le_of_ble_eq_true rfl); (· rfl); (· rfl); replace hsv := bsl_row hsv (noOct2 kX) [Value.slice xa xm xc, .int .i64 st.2].toArray; replace hv2 := bsl_row hv2 (noOct2 kX) [Value.slice xa xm xc, .int .i64 st.2].toArray; replace kA := kA.rowO [Value.slice xa xm xc, .int .i64 st.2].toArray (g := XB) HNA.out; replace kB := kB.rowO [Value.slice xa xm xc, .int .i64 st.2].toArray (g := XB) HNB.out; replace kX := kX.row [Value.slice xa xm xc, .int .i64 st.2]; replace hB := below_setRow hB hXw [Value.slice xa xm xc, .int .i64 st.2].toArray; clear a0 a1; obtain ⟨a0, a1⟩ := Blk.c2 kX))
  generalize World.setRow _ _ _ = X at *
  clear HOC HNIL a0 a1 HRP
  refine wp_region_held_drew (S := fun W => Below X.drew.heap.size X.drew W) hmx (Below.refl _ _) ?_
  intro hS
  have hd := (Below.refl X.heap.size X).drew
  replace kX : Blk X.drew _ _ _ := kX
  replace kA : Blk X.drew _ _ _ := kA
  replace kB : Blk X.drew _ _ _ := kB
  replace hB := hB.drew
  replace hsv := bslU hsv hd
  replace hv2 := bslU hv2 hd
  clear hd
  generalize X.drew = Y at *
  refine' wpAnyH_take (i := 0) (oi := _) (v := txv t) ?hi1 (by kernel_rfl) (by kernel_rfl) (by kernel_rfl) ?hQ1 (Or.inl ⟨?hw1, ?hy1⟩) hS ?rest1
  case hi1 => simp only [List.getElem?_toArray, List.getElem?_cons_zero]; rfl
  case hQ1 => exact fun _ _ _ h => h
  case hw1 => rfl
  case hy1 => exact fun W' hS' => exec_load 30 (.tmp 2) rfl _ W' (load_tx (kA.below hS' kA.lt))
  try simp only [Act.put, List.setIfInBounds_toArray, List.set_cons_zero, List.set_cons_succ]
  refine' wpAnyH_take (i := 3) (oi := _) (v := txv t) ?hi2 (by kernel_rfl) (by kernel_rfl) (by kernel_rfl) ?hQ2 (Or.inl ⟨?hw2, ?hy2⟩) hS ?rest2
  case hi2 => simp only [List.getElem?_toArray, List.getElem?_cons_succ, List.getElem?_cons_zero]; rfl
  case hQ2 => exact fun _ _ _ h => h
  case hw2 => rfl
  case hy2 => exact fun W' hS' => exec_load 30 (.tmp 2) rfl _ W' (load_tx (kA.below hS' kA.lt))
  try simp only [Act.put, List.setIfInBounds_toArray, List.set_cons_zero, List.set_cons_succ]
  refine wpAnyH_ready (rs := [1]) (by kernel_rfl) (by simp) ?_
  refine' AllReadyH.cons (o := _) ?ho3 (fun K hK => ?st3) AllReadyH.nil
  case ho3 => simp only [List.getElem?_toArray, List.getElem?_cons_succ, List.getElem?_cons_zero]; rfl
  case st3 =>
    go_simp
    refine (HC.out _).mono ?_
    rintro e Y1 ⟨rfl, hb⟩
    refine hK.out _ _ (chain hS hb) (fun hS => ?_)
    clear hK K
    try simp only [Act.put, List.setIfInBounds_toArray, List.set_cons_zero, List.set_cons_succ]
    clear hb
    refine wpAnyH_ready (rs := [2]) (by kernel_rfl) (by simp) ?_
    refine' AllReadyH.cons (o := _) ?ho4 (fun K hK => ?st4) AllReadyH.nil
    case ho4 => simp only [List.getElem?_toArray, List.getElem?_cons_succ, List.getElem?_cons_zero]; rfl
    case st4 =>
      go_simp
      refine (txsNum_any _ _).mono ?_
      rintro e Y1 ⟨rfl, rfl⟩
      refine hK.out _ _ hS (fun hS => ?_)
      clear hK K
      try simp only [Act.put, List.setIfInBounds_toArray, List.set_cons_zero, List.set_cons_succ]
      refine wpAnyH_ready (rs := [4]) (by kernel_rfl) (by simp) ?_
      refine' AllReadyH.cons (o := _) ?ho5 (fun K hK => ?st5) AllReadyH.nil
      case ho5 => simp only [List.getElem?_toArray, List.getElem?_cons_succ, List.getElem?_cons_zero]; rfl
      case st5 =>
        go_simp
        refine (HR.out _).mono ?_
        rintro e Y1 ⟨rfl, hb⟩
        refine hK.out _ _ (chain hS hb) (fun hS => ?_)
        clear hK K
        try simp only [Act.put, List.setIfInBounds_toArray, List.set_cons_zero, List.set_cons_succ]
        clear hb
        refine' wpAnyH_take (i := 5) (oi := _) (v := _) ?hi6 (by kernel_rfl) (by kernel_rfl) (by kernel_rfl) ?hQ6 (Or.inl ⟨?hw6, ?hy6⟩) hS ?rest6
        case hi6 => simp only [List.getElem?_toArray, List.getElem?_cons_succ, List.getElem?_cons_zero]; rfl
        case hQ6 => exact fun _ _ _ h => h
        case hw6 => rfl
        case hy6 => intro W' hS'; go_simp; with_reducible rfl
        try simp only [Act.put, List.setIfInBounds_toArray, List.set_cons_zero, List.set_cons_succ]
        refine' wpAnyH_take (i := 6) (oi := _) (v := _) ?hi7 (by kernel_rfl) (by kernel_rfl) (by kernel_rfl) ?hQ7 (Or.inl ⟨?hw7, ?hy7⟩) hS ?rest7
        case hi7 => simp only [List.getElem?_toArray, List.getElem?_cons_succ, List.getElem?_cons_zero]; rfl
        case hQ7 => exact fun _ _ _ h => h
        case hw7 => rfl
        case hy7 => intro W' hS'; go_simp; with_reducible rfl
        try simp only [Act.put, List.setIfInBounds_toArray, List.set_cons_zero, List.set_cons_succ]
        refine' wpAnyH_take (i := 7) (oi := _) (v := _) ?hi8 (by kernel_rfl) (by kernel_rfl) (by kernel_rfl) ?hQ8 (Or.inl ⟨?hw8, ?hy8⟩) hS ?rest8
        case hi8 => simp only [List.getElem?_toArray, List.getElem?_cons_succ, List.getElem?_cons_zero]; rfl
        case hQ8 => exact fun _ _ _ h => h
        case hw8 => rfl
        case hy8 => intro W' hS'; go_simp; with_reducible rfl
        try simp only [Act.put, List.setIfInBounds_toArray, List.set_cons_zero, List.set_cons_succ]
        refine' wpAnyH_take (i := 9) (oi := _) (v := _) ?hi9 (by kernel_rfl) (by kernel_rfl) (by kernel_rfl) ?hQ9 (Or.inl ⟨?hw9, ?hy9⟩) hS ?rest9
        case hi9 => simp only [List.getElem?_toArray, List.getElem?_cons_succ, List.getElem?_cons_zero]; rfl
        case hQ9 => exact fun _ _ _ h => h
        case hw9 => rfl
        case hy9 => intro W' hS'; go_simp; with_reducible rfl
        try simp only [Act.put, List.setIfInBounds_toArray, List.set_cons_zero, List.set_cons_succ]
        refine wpAnyH_ready (rs := [8]) (by kernel_rfl) (by simp) ?_
        refine' AllReadyH.cons (o := _) ?ho10 (fun K hK => ?st10) AllReadyH.nil
        case ho10 => simp only [List.getElem?_toArray, List.getElem?_cons_succ, List.getElem?_cons_zero]; rfl
        case st10 =>
          go_simp
          refine (txsNum_any _ _).mono ?_
          rintro e Y1 ⟨rfl, rfl⟩
          refine hK.out _ _ hS (fun hS => ?_)
          clear hK K
          try simp only [Act.put, List.setIfInBounds_toArray, List.set_cons_zero, List.set_cons_succ]
          refine' wpAnyH_take (i := 10) (oi := _) (v := _) ?hi11 (by kernel_rfl) (by kernel_rfl) (by kernel_rfl) ?hQ11 (Or.inl ⟨?hw11, ?hy11⟩) hS ?rest11
          case hi11 => simp only [List.getElem?_toArray, List.getElem?_cons_succ, List.getElem?_cons_zero]; rfl
          case hQ11 => exact fun _ _ _ h => h
          case hw11 => rfl
          case hy11 => intro W' hS'; go_simp; with_reducible rfl
          try simp only [Act.put, List.setIfInBounds_toArray, List.set_cons_zero, List.set_cons_succ]
          refine' wpAnyH_take (i := 11) (oi := _) (v := _) ?hi12 (by kernel_rfl) (by kernel_rfl) (by kernel_rfl) ?hQ12 (Or.inl ⟨?hw12, ?hy12⟩) hS ?rest12
          case hi12 => simp only [List.getElem?_toArray, List.getElem?_cons_succ, List.getElem?_cons_zero]; rfl
          case hQ12 => exact fun _ _ _ h => h
          case hw12 => rfl
          case hy12 => intro W' hS'; go_simp; with_reducible rfl
          try simp only [Act.put, List.setIfInBounds_toArray, List.set_cons_zero, List.set_cons_succ]
          refine' wpAnyH_take (i := 12) (oi := _) (v := _) ?hi13 (by kernel_rfl) (by kernel_rfl) (by kernel_rfl) ?hQ13 (Or.inl ⟨?hw13, ?hy13⟩) hS ?rest13
          case hi13 => simp only [List.getElem?_toArray, List.getElem?_cons_succ, List.getElem?_cons_zero]; rfl
          case hQ13 => exact fun _ _ _ h => h
          case hw13 => rfl
          case hy13 => intro W' hS'; go_simp; with_reducible rfl
          try simp only [Act.put, List.setIfInBounds_toArray, List.set_cons_zero, List.set_cons_succ]
          refine' wpAnyH_take (i := 13) (oi := _) (v := _) ?hi14 (by kernel_rfl) (by kernel_rfl) (by kernel_rfl) ?hQ14 (Or.inl ⟨?hw14, ?hy14⟩) hS ?rest14
          case hi14 => simp only [List.getElem?_toArray, List.getElem?_cons_succ, List.getElem?_cons_zero]; rfl
          case hQ14 => exact fun _ _ _ h => h
          case hw14 => rfl
          case hy14 => intro W' hS'; go_simp; with_reducible rfl
          try simp only [Act.put, List.setIfInBounds_toArray, List.set_cons_zero, List.set_cons_succ]
          refine' wpAnyH_take (i := 14) (oi := _) (v := _) ?hi15 (by kernel_rfl) (by kernel_rfl) (by kernel_rfl) ?hQ15 (Or.inl ⟨?hw15, ?hy15⟩) hS ?rest15
          case hi15 => simp only [List.getElem?_toArray, List.getElem?_cons_succ, List.getElem?_cons_zero]; rfl
          case hQ15 => exact fun _ _ _ h => h
          case hw15 => rfl
          case hy15 => intro W' hS'; have hcv := str_of W' (hsv.below hS' (Nat.le_refl _)); go_simp; with_reducible rfl
          try simp only [Act.put, List.setIfInBounds_toArray, List.set_cons_zero, List.set_cons_succ]
          refine' wpAnyH_take (i := 15) (oi := _) (v := _) ?hi16 (by kernel_rfl) (by kernel_rfl) (by kernel_rfl) ?hQ16 (Or.inl ⟨?hw16, ?hy16⟩) hS ?rest16
          case hi16 => simp only [List.getElem?_toArray, List.getElem?_cons_succ, List.getElem?_cons_zero]; rfl
          case hQ16 => exact fun _ _ _ h => h
          case hw16 => rfl
          case hy16 => intro W' hS'; go_simp; with_reducible rfl
          try simp only [Act.put, List.setIfInBounds_toArray, List.set_cons_zero, List.set_cons_succ]
          refine' wpAnyH_take (i := 16) (oi := _) (v := _) ?hi17 (by kernel_rfl) (by kernel_rfl) (by kernel_rfl) ?hQ17 (Or.inl ⟨?hw17, ?hy17⟩) hS ?rest17
          case hi17 => simp only [List.getElem?_toArray, List.getElem?_cons_succ, List.getElem?_cons_zero]; rfl
          case hQ17 => exact fun _ _ _ h => h
          case hw17 => rfl
          case hy17 => intro W' hS'; obtain ⟨a0, a1⟩ := Blk.c2 (kX.below hS' kX.lt); go_simp; with_reducible rfl
          try simp only [Act.put, List.setIfInBounds_toArray, List.set_cons_zero, List.set_cons_succ]
          refine' wpAnyH_take (i := 17) (oi := _) (v := _) ?hi18 (by kernel_rfl) (by kernel_rfl) (by kernel_rfl) ?hQ18 (Or.inl ⟨?hw18, ?hy18⟩) hS ?rest18
          case hi18 => simp only [List.getElem?_toArray, List.getElem?_cons_succ, List.getElem?_cons_zero]; rfl
          case hQ18 => exact fun _ _ _ h => h
          case hw18 => rfl
          case hy18 => intro W' hS'; have hcv := str_of W' (hv2.below hS' (Nat.le_refl _)); go_simp; with_reducible rfl
          try simp only [Act.put, List.setIfInBounds_toArray, List.set_cons_zero, List.set_cons_succ]
          refine' wpAnyH_take (i := 18) (oi := _) (v := _) ?hi19 (by kernel_rfl) (by kernel_rfl) (by kernel_rfl) ?hQ19 (Or.inl ⟨?hw19, ?hy19⟩) hS ?rest19
          case hi19 => simp only [List.getElem?_toArray, List.getElem?_cons_succ, List.getElem?_cons_zero]; rfl
          case hQ19 => exact fun _ _ _ h => h
          case hw19 => rfl
          case hy19 => intro W' hS'; go_simp; with_reducible rfl
          try simp only [Act.put, List.setIfInBounds_toArray, List.set_cons_zero, List.set_cons_succ]
          refine' wpAnyH_take (i := 19) (oi := _) (v := _) ?hi20 (by kernel_rfl) (by kernel_rfl) (by kernel_rfl) ?hQ20 (Or.inl ⟨?hw20, ?hy20⟩) hS ?rest20
          case hi20 => simp only [List.getElem?_toArray, List.getElem?_cons_succ, List.getElem?_cons_zero]; rfl
          case hQ20 => exact fun _ _ _ h => h
          case hw20 => rfl
          case hy20 => intro W' hS'; go_simp; with_reducible rfl
          try simp only [Act.put, List.setIfInBounds_toArray, List.set_cons_zero, List.set_cons_succ]
          refine' wpAnyH_take (i := 20) (oi := _) (v := _) ?hi21 (by kernel_rfl) (by kernel_rfl) (by kernel_rfl) ?hQ21 (Or.inl ⟨?hw21, ?hy21⟩) hS ?rest21
          case hi21 => simp only [List.getElem?_toArray, List.getElem?_cons_succ, List.getElem?_cons_zero]; rfl
          case hQ21 => exact fun _ _ _ h => h
          case hw21 => rfl
          case hy21 => intro W' hS'; go_simp; with_reducible rfl
          try simp only [Act.put, List.setIfInBounds_toArray, List.set_cons_zero, List.set_cons_succ]
          refine' wpAnyH_take (i := 21) (oi := _) (v := txv t) ?hi22 (by kernel_rfl) (by kernel_rfl) (by kernel_rfl) ?hQ22 (Or.inl ⟨?hw22, ?hy22⟩) hS ?rest22
          case hi22 => simp only [List.getElem?_toArray, List.getElem?_cons_succ, List.getElem?_cons_zero]; rfl
          case hQ22 => exact fun _ _ _ h => h
          case hw22 => rfl
          case hy22 => exact fun W' hS' => exec_load 30 (.tmp 2) rfl _ W' (load_tx (kA.below hS' kA.lt))
          try simp only [Act.put, List.setIfInBounds_toArray, List.set_cons_zero, List.set_cons_succ]
          refine' wpAnyH_take (i := 22) (oi := _) (v := txv u) ?hi23 (by kernel_rfl) (by kernel_rfl) (by kernel_rfl) ?hQ23 (Or.inl ⟨?hw23, ?hy23⟩) hS ?rest23
          case hi23 => simp only [List.getElem?_toArray, List.getElem?_cons_succ, List.getElem?_cons_zero]; rfl
          case hQ23 => exact fun _ _ _ h => h
          case hw23 => rfl
          case hy23 => exact fun W' hS' => exec_load 30 (.tmp 3) rfl _ W' (load_tx (kB.below hS' kB.lt))
          try simp only [Act.put, List.setIfInBounds_toArray, List.set_cons_zero, List.set_cons_succ]
          refine' wpAnyH_take (i := 24) (oi := _) (v := txv t) ?hi24 (by kernel_rfl) (by kernel_rfl) (by kernel_rfl) ?hQ24 (Or.inl ⟨?hw24, ?hy24⟩) hS ?rest24
          case hi24 => simp only [List.getElem?_toArray, List.getElem?_cons_succ, List.getElem?_cons_zero]; rfl
          case hQ24 => exact fun _ _ _ h => h
          case hw24 => rfl
          case hy24 => exact fun W' hS' => exec_load 30 (.tmp 2) rfl _ W' (load_tx (kA.below hS' kA.lt))
          try simp only [Act.put, List.setIfInBounds_toArray, List.set_cons_zero, List.set_cons_succ]
          refine' wpAnyH_take (i := 25) (oi := _) (v := txv u) ?hi25 (by kernel_rfl) (by kernel_rfl) (by kernel_rfl) ?hQ25 (Or.inl ⟨?hw25, ?hy25⟩) hS ?rest25
          case hi25 => simp only [List.getElem?_toArray, List.getElem?_cons_succ, List.getElem?_cons_zero]; rfl
          case hQ25 => exact fun _ _ _ h => h
          case hw25 => rfl
          case hy25 => exact fun W' hS' => exec_load 30 (.tmp 3) rfl _ W' (load_tx (kB.below hS' kB.lt))
          try simp only [Act.put, List.setIfInBounds_toArray, List.set_cons_zero, List.set_cons_succ]
          refine' wpAnyH_take (i := 26) (oi := _) (v := .bool (eqT t u)) ?hi26 (by kernel_rfl) (by kernel_rfl) (by kernel_rfl) ?hQ26 (Or.inl ⟨?hw26, ?hy26⟩) hS ?rest26
          case hi26 => simp only [List.getElem?_toArray, List.getElem?_cons_succ, List.getElem?_cons_zero]; rfl
          case hQ26 => exact fun _ _ _ h => h
          case hw26 => rfl
          case hy26 => exact fun W' hS' => exec_eqT (.tmp 48) (.tmp 49) _ rfl t u rfl rfl W'
          try simp only [Act.put, List.setIfInBounds_toArray, List.set_cons_zero, List.set_cons_succ]
          refine wpAnyH_ready (rs := [23]) (by kernel_rfl) (by simp) ?_
          refine' AllReadyH.cons (o := _) ?ho27 (fun K hK => ?st27) AllReadyH.nil
          case ho27 => simp only [List.getElem?_toArray, List.getElem?_cons_succ, List.getElem?_cons_zero]; rfl
          case st27 =>
            go_simp
            refine (HSM.out _).mono ?_
            rintro e Y1 ⟨rfl, hb⟩
            refine hK.out _ _ (chain hS hb) (fun hS => ?_)
            clear hK K
            try simp only [Act.put, List.setIfInBounds_toArray, List.set_cons_zero, List.set_cons_succ]
            clear hb
            refine' wpAnyH_take (i := 27) (oi := _) (v := _) ?hi28 (by kernel_rfl) (by kernel_rfl) (by kernel_rfl) ?hQ28 (Or.inl ⟨?hw28, ?hy28⟩) hS ?rest28
            case hi28 => simp only [List.getElem?_toArray, List.getElem?_cons_succ, List.getElem?_cons_zero]; rfl
            case hQ28 => exact fun _ _ _ h => h
            case hw28 => rfl
            case hy28 => intro W' hS'; go_simp; with_reducible rfl
            try simp only [Act.put, List.setIfInBounds_toArray, List.set_cons_zero, List.set_cons_succ]
            refine' wpAnyH_take (i := 28) (oi := _) (v := _) ?hi29 (by kernel_rfl) (by kernel_rfl) (by kernel_rfl) ?hQ29 (Or.inl ⟨?hw29, ?hy29⟩) hS ?rest29
            case hi29 => simp only [List.getElem?_toArray, List.getElem?_cons_succ, List.getElem?_cons_zero]; rfl
            case hQ29 => exact fun _ _ _ h => h
            case hw29 => rfl
            case hy29 => intro W' hS'; go_simp; with_reducible rfl
            try simp only [Act.put, List.setIfInBounds_toArray, List.set_cons_zero, List.set_cons_succ]
            refine' wpAnyH_take (i := 29) (oi := _) (v := _) ?hi30 (by kernel_rfl) (by kernel_rfl) (by kernel_rfl) ?hQ30 (Or.inl ⟨?hw30, ?hy30⟩) hS ?rest30
            case hi30 => simp only [List.getElem?_toArray, List.getElem?_cons_succ, List.getElem?_cons_zero]; rfl
            case hQ30 => exact fun _ _ _ h => h
            case hw30 => rfl
            case hy30 => intro W' hS'; go_simp; with_reducible rfl
            try simp only [Act.put, List.setIfInBounds_toArray, List.set_cons_zero, List.set_cons_succ]
            refine wpAnyH_ready (rs := [30]) (by kernel_rfl) (by simp) ?_
            refine' AllReadyH.cons (o := _) ?ho31 (fun K hK => ?st31) AllReadyH.nil
            case ho31 => simp only [List.getElem?_toArray, List.getElem?_cons_succ, List.getElem?_cons_zero]; rfl
            case st31 =>
              go_simp
              refine (txsAlive_any _).mono ?_
              rintro e Y1 ⟨rfl, hb⟩
              refine hK.out _ _ (chain hS hb) (fun hS => ?_)
              clear hK K
              try simp only [Act.put, List.setIfInBounds_toArray, List.set_cons_zero, List.set_cons_succ]
              clear hb
              refine' wpAnyH_take (i := 31) (oi := _) (v := _) ?hi32 (by kernel_rfl) (by kernel_rfl) (by kernel_rfl) ?hQ32 (Or.inl ⟨?hw32, ?hy32⟩) hS ?rest32
              case hi32 => simp only [List.getElem?_toArray, List.getElem?_cons_succ, List.getElem?_cons_zero]; rfl
              case hQ32 => exact fun _ _ _ h => h
              case hw32 => rfl
              case hy32 => intro W' hS'; go_simp; with_reducible rfl
              try simp only [Act.put, List.setIfInBounds_toArray, List.set_cons_zero, List.set_cons_succ]
              refine' wpAnyH_take (i := 32) (oi := _) (v := _) ?hi33 (by kernel_rfl) (by kernel_rfl) (by kernel_rfl) ?hQ33 (Or.inl ⟨?hw33, ?hy33⟩) hS ?rest33
              case hi33 => simp only [List.getElem?_toArray, List.getElem?_cons_succ, List.getElem?_cons_zero]; rfl
              case hQ33 => exact fun _ _ _ h => h
              case hw33 => rfl
              case hy33 => intro W' hS'; go_simp; with_reducible rfl
              try simp only [Act.put, List.setIfInBounds_toArray, List.set_cons_zero, List.set_cons_succ]
              refine wpAnyH_done (by kernel_rfl) ?_ _
              go_wp2_with fail
              go_ret
              exact ⟨rfl, chain hB hS⟩
set_option maxRecDepth 100000 in
set_option maxHeartbeats 8000000 in
theorem txsTells_no (t u : Tr) (ht : OkT t) (he : errT t ≠ 0) (w : World) :
    Calls Try.prog 3 #[txv t, txv u] w fun e W' => e = .returned (.bool true) ∧ Below w.heap.size w W' := by
  have hmx : Try.prog.follows .mixedOrders = true := by kernel_rfl
  have HOC := Lib.hid (txsOctets_any t ht)
  have HC := Lib.hid (txsCheck_any t)
  have HR := Lib.hid (refTx_any t)
  have HSM := Lib.hid (txsSame_any t u)
  have HEQ := Lib.hid (run_eqT t u)
  have HNIL : Hid (∀ W : World, BSl 0 W.heap.size W (.slice none 0 0) []) := Lib.hid fun W => ⟨none, 0, rfl, Nat.le_refl 0, .inl rfl⟩
  have q1 : (errT t == 0) = false := by simpa using he
  have q2 : (errT t != 0) = true := by simpa using he
  rw [octT_no he] at HOC
  generalize hst : (([], errT t) : St) = st at HOC
  have hs1 : st.1 = [] := by rw [← hst]
  have hs2 : st.2 = errT t := by rw [← hst]
  rw [← hs2] at HC HR q1 q2
  have HS1 := Lib.hid hs1
  clear ht he hst hs1 hs2
  have kA := (Blk.new w 30 (txc t)).alloc (.cells (txc u).toArray 30)
  have kB : Blk ((w.alloc (.cells (txc t).toArray 30)).alloc (.cells (txc u).toArray 30)) (w.heap.size + 1) 30 (txc u) := Blk.new' (by simp)
  have hB := chainA (chain0 w (.cells (txc t).toArray 30)) (.cells (txc u).toArray 30)
  go_enter Try.func3, Try.ntmps3
  go_upto_region 4 with (first
    | ((with_reducible refine wpList_loadIf 30 (.tmp 2) ?_ (some 10) ?_ ?_ (txv t) ?_ ?_); (· rfl); (· rfl); (· rfl); (· exact load_tx kA))
    | ((with_reducible refine wpList_loadIf 30 (.tmp 2) ?_ (some 14) ?_ ?_ (txv t) ?_ ?_); (· rfl); (· rfl); (· rfl); (· exact load_tx kA))
    | (go_at_call 7; refine (HOC.out _).mono ?_; rintro e w1 ⟨sv, rfl, hsv, hb⟩; obtain ⟨va, vm, vc, rfl⟩ := hsv.shape3; replace kA := kA.below hb kA.lt; replace kB := kB.below hb kB.lt; replace hB := chain hB hb; clear hb)
    | (go_at_call 8; refine (HR.out _).mono ?_; rintro e w2 ⟨rfl, hb⟩; replace kA := kA.below hb kA.lt; replace kB := kB.below hb kB.lt; replace hsv := bslU hsv hb; replace hB := chain hB hb; clear hb))
  have hb := chain0 w2 (.cells #[.slice none 0 0, .int .i64 0] 37)
  have kX := Blk.new w2 37 [.slice none 0 0, .int .i64 0]
  have hXA : w.heap.size < w2.heap.size := kA.lt
  replace kA := kA.below hb kA.lt
  replace kB := kB.below hb kB.lt
  replace hsv := bslU hsv hb
  have hXw := hB.size
  replace hB := chain hB hb
  clear hb
  generalize w2.heap.size = XB at *
  generalize w2.alloc _ = X0 at *
  obtain ⟨a0, a1⟩ := Blk.c2 kX
  go_upto_region 7 with fail
  have hv2 : BSl 0 X0.heap.size X0 (.slice none 0 0) st.1 := by rw [HS1.out]; exact HNIL.out X0
  generalize X0 = X at *
  clear HOC HNIL a0 a1 HS1
  refine wp_region_held_drew (S := fun W => Below X.drew.heap.size X.drew W) hmx (Below.refl _ _) ?_
  intro hS
  have hd := (Below.refl X.heap.size X).drew
  replace kX : Blk X.drew _ _ _ := kX
  replace kA : Blk X.drew _ _ _ := kA
  replace kB : Blk X.drew _ _ _ := kB
  replace hB := hB.drew
  replace hsv := bslU hsv hd
  replace hv2 := bslU hv2 hd
  clear hd
  generalize X.drew = Y at *
  refine' wpAnyH_take (i := 0) (oi := _) (v := txv t) ?hi34 (by kernel_rfl) (by kernel_rfl) (by kernel_rfl) ?hQ34 (Or.inl ⟨?hw34, ?hy34⟩) hS ?rest34
  case hi34 => simp only [List.getElem?_toArray, List.getElem?_cons_zero]; rfl
  case hQ34 => exact fun _ _ _ h => h
  case hw34 => rfl
  case hy34 => exact fun W' hS' => exec_load 30 (.tmp 2) rfl _ W' (load_tx (kA.below hS' kA.lt))
  try simp only [Act.put, List.setIfInBounds_toArray, List.set_cons_zero, List.set_cons_succ]
  refine' wpAnyH_take (i := 3) (oi := _) (v := txv t) ?hi35 (by kernel_rfl) (by kernel_rfl) (by kernel_rfl) ?hQ35 (Or.inl ⟨?hw35, ?hy35⟩) hS ?rest35
  case hi35 => simp only [List.getElem?_toArray, List.getElem?_cons_succ, List.getElem?_cons_zero]; rfl
  case hQ35 => exact fun _ _ _ h => h
  case hw35 => rfl
  case hy35 => exact fun W' hS' => exec_load 30 (.tmp 2) rfl _ W' (load_tx (kA.below hS' kA.lt))
  try simp only [Act.put, List.setIfInBounds_toArray, List.set_cons_zero, List.set_cons_succ]
  refine wpAnyH_ready (rs := [1]) (by kernel_rfl) (by simp) ?_
  refine' AllReadyH.cons (o := _) ?ho36 (fun K hK => ?st36) AllReadyH.nil
  case ho36 => simp only [List.getElem?_toArray, List.getElem?_cons_succ, List.getElem?_cons_zero]; rfl
  case st36 =>
    go_simp
    refine (HC.out _).mono ?_
    rintro e Y1 ⟨rfl, hb⟩
    refine hK.out _ _ (chain hS hb) (fun hS => ?_)
    clear hK K
    try simp only [Act.put, List.setIfInBounds_toArray, List.set_cons_zero, List.set_cons_succ]
    clear hb
    refine wpAnyH_ready (rs := [2]) (by kernel_rfl) (by simp) ?_
    refine' AllReadyH.cons (o := _) ?ho37 (fun K hK => ?st37) AllReadyH.nil
    case ho37 => simp only [List.getElem?_toArray, List.getElem?_cons_succ, List.getElem?_cons_zero]; rfl
    case st37 =>
      go_simp
      refine (txsNum_any _ _).mono ?_
      rintro e Y1 ⟨rfl, rfl⟩
      refine hK.out _ _ hS (fun hS => ?_)
      clear hK K
      try simp only [Act.put, List.setIfInBounds_toArray, List.set_cons_zero, List.set_cons_succ]
      refine wpAnyH_ready (rs := [4]) (by kernel_rfl) (by simp) ?_
      refine' AllReadyH.cons (o := _) ?ho38 (fun K hK => ?st38) AllReadyH.nil
      case ho38 => simp only [List.getElem?_toArray, List.getElem?_cons_succ, List.getElem?_cons_zero]; rfl
      case st38 =>
        go_simp
        refine (HR.out _).mono ?_
        rintro e Y1 ⟨rfl, hb⟩
        refine hK.out _ _ (chain hS hb) (fun hS => ?_)
        clear hK K
        try simp only [Act.put, List.setIfInBounds_toArray, List.set_cons_zero, List.set_cons_succ]
        clear hb
        refine' wpAnyH_take (i := 5) (oi := _) (v := _) ?hi39 (by kernel_rfl) (by kernel_rfl) (by kernel_rfl) ?hQ39 (Or.inl ⟨?hw39, ?hy39⟩) hS ?rest39
        case hi39 => simp only [List.getElem?_toArray, List.getElem?_cons_succ, List.getElem?_cons_zero]; rfl
        case hQ39 => exact fun _ _ _ h => h
        case hw39 => rfl
        case hy39 => intro W' hS'; go_simp; with_reducible rfl
        try simp only [Act.put, List.setIfInBounds_toArray, List.set_cons_zero, List.set_cons_succ]
        refine' wpAnyH_take (i := 6) (oi := _) (v := _) ?hi40 (by kernel_rfl) (by kernel_rfl) (by kernel_rfl) ?hQ40 (Or.inl ⟨?hw40, ?hy40⟩) hS ?rest40
        case hi40 => simp only [List.getElem?_toArray, List.getElem?_cons_succ, List.getElem?_cons_zero]; rfl
        case hQ40 => exact fun _ _ _ h => h
        case hw40 => rfl
        case hy40 => intro W' hS'; go_simp; with_reducible rfl
        try simp only [Act.put, List.setIfInBounds_toArray, List.set_cons_zero, List.set_cons_succ]
        refine' wpAnyH_take (i := 7) (oi := _) (v := _) ?hi41 (by kernel_rfl) (by kernel_rfl) (by kernel_rfl) ?hQ41 (Or.inl ⟨?hw41, ?hy41⟩) hS ?rest41
        case hi41 => simp only [List.getElem?_toArray, List.getElem?_cons_succ, List.getElem?_cons_zero]; rfl
        case hQ41 => exact fun _ _ _ h => h
        case hw41 => rfl
        case hy41 => intro W' hS'; go_simp; with_reducible rfl
        try simp only [Act.put, List.setIfInBounds_toArray, List.set_cons_zero, List.set_cons_succ]
        refine' wpAnyH_take (i := 9) (oi := _) (v := _) ?hi42 (by kernel_rfl) (by kernel_rfl) (by kernel_rfl) ?hQ42 (Or.inl ⟨?hw42, ?hy42⟩) hS ?rest42
        case hi42 => simp only [List.getElem?_toArray, List.getElem?_cons_succ, List.getElem?_cons_zero]; rfl
        case hQ42 => exact fun _ _ _ h => h
        case hw42 => rfl
        case hy42 => intro W' hS'; go_simp; with_reducible rfl
        try simp only [Act.put, List.setIfInBounds_toArray, List.set_cons_zero, List.set_cons_succ]
        refine wpAnyH_ready (rs := [8]) (by kernel_rfl) (by simp) ?_
        refine' AllReadyH.cons (o := _) ?ho43 (fun K hK => ?st43) AllReadyH.nil
        case ho43 => simp only [List.getElem?_toArray, List.getElem?_cons_succ, List.getElem?_cons_zero]; rfl
        case st43 =>
          go_simp
          refine (txsNum_any _ _).mono ?_
          rintro e Y1 ⟨rfl, rfl⟩
          refine hK.out _ _ hS (fun hS => ?_)
          clear hK K
          try simp only [Act.put, List.setIfInBounds_toArray, List.set_cons_zero, List.set_cons_succ]
          refine' wpAnyH_take (i := 10) (oi := _) (v := _) ?hi44 (by kernel_rfl) (by kernel_rfl) (by kernel_rfl) ?hQ44 (Or.inl ⟨?hw44, ?hy44⟩) hS ?rest44
          case hi44 => simp only [List.getElem?_toArray, List.getElem?_cons_succ, List.getElem?_cons_zero]; rfl
          case hQ44 => exact fun _ _ _ h => h
          case hw44 => rfl
          case hy44 => intro W' hS'; go_simp; with_reducible rfl
          try simp only [Act.put, List.setIfInBounds_toArray, List.set_cons_zero, List.set_cons_succ]
          refine' wpAnyH_take (i := 11) (oi := _) (v := _) ?hi45 (by kernel_rfl) (by kernel_rfl) (by kernel_rfl) ?hQ45 (Or.inl ⟨?hw45, ?hy45⟩) hS ?rest45
          case hi45 => simp only [List.getElem?_toArray, List.getElem?_cons_succ, List.getElem?_cons_zero]; rfl
          case hQ45 => exact fun _ _ _ h => h
          case hw45 => rfl
          case hy45 => intro W' hS'; go_simp; with_reducible rfl
          try simp only [Act.put, List.setIfInBounds_toArray, List.set_cons_zero, List.set_cons_succ]
          refine' wpAnyH_take (i := 12) (oi := _) (v := _) ?hi46 (by kernel_rfl) (by kernel_rfl) (by kernel_rfl) ?hQ46 (Or.inl ⟨?hw46, ?hy46⟩) hS ?rest46
          case hi46 => simp only [List.getElem?_toArray, List.getElem?_cons_succ, List.getElem?_cons_zero]; rfl
          case hQ46 => exact fun _ _ _ h => h
          case hw46 => rfl
          case hy46 => intro W' hS'; go_simp; with_reducible rfl
          try simp only [Act.put, List.setIfInBounds_toArray, List.set_cons_zero, List.set_cons_succ]
          refine' wpAnyH_take (i := 13) (oi := _) (v := _) ?hi47 (by kernel_rfl) (by kernel_rfl) (by kernel_rfl) ?hQ47 (Or.inl ⟨?hw47, ?hy47⟩) hS ?rest47
          case hi47 => simp only [List.getElem?_toArray, List.getElem?_cons_succ, List.getElem?_cons_zero]; rfl
          case hQ47 => exact fun _ _ _ h => h
          case hw47 => rfl
          case hy47 => intro W' hS'; go_simp; with_reducible rfl
          try simp only [Act.put, List.setIfInBounds_toArray, List.set_cons_zero, List.set_cons_succ]
          refine' wpAnyH_take (i := 14) (oi := _) (v := _) ?hi48 (by kernel_rfl) (by kernel_rfl) (by kernel_rfl) ?hQ48 (Or.inl ⟨?hw48, ?hy48⟩) hS ?rest48
          case hi48 => simp only [List.getElem?_toArray, List.getElem?_cons_succ, List.getElem?_cons_zero]; rfl
          case hQ48 => exact fun _ _ _ h => h
          case hw48 => rfl
          case hy48 => intro W' hS'; have hcv := str_of W' (hsv.below hS' (Nat.le_refl _)); go_simp; with_reducible rfl
          try simp only [Act.put, List.setIfInBounds_toArray, List.set_cons_zero, List.set_cons_succ]
          refine' wpAnyH_take (i := 15) (oi := _) (v := _) ?hi49 (by kernel_rfl) (by kernel_rfl) (by kernel_rfl) ?hQ49 (Or.inl ⟨?hw49, ?hy49⟩) hS ?rest49
          case hi49 => simp only [List.getElem?_toArray, List.getElem?_cons_succ, List.getElem?_cons_zero]; rfl
          case hQ49 => exact fun _ _ _ h => h
          case hw49 => rfl
          case hy49 => intro W' hS'; go_simp; with_reducible rfl
          try simp only [Act.put, List.setIfInBounds_toArray, List.set_cons_zero, List.set_cons_succ]
          refine' wpAnyH_take (i := 16) (oi := _) (v := _) ?hi50 (by kernel_rfl) (by kernel_rfl) (by kernel_rfl) ?hQ50 (Or.inl ⟨?hw50, ?hy50⟩) hS ?rest50
          case hi50 => simp only [List.getElem?_toArray, List.getElem?_cons_succ, List.getElem?_cons_zero]; rfl
          case hQ50 => exact fun _ _ _ h => h
          case hw50 => rfl
          case hy50 => intro W' hS'; obtain ⟨a0, a1⟩ := Blk.c2 (kX.below hS' kX.lt); go_simp; with_reducible rfl
          try simp only [Act.put, List.setIfInBounds_toArray, List.set_cons_zero, List.set_cons_succ]
          refine' wpAnyH_take (i := 17) (oi := _) (v := _) ?hi51 (by kernel_rfl) (by kernel_rfl) (by kernel_rfl) ?hQ51 (Or.inl ⟨?hw51, ?hy51⟩) hS ?rest51
          case hi51 => simp only [List.getElem?_toArray, List.getElem?_cons_succ, List.getElem?_cons_zero]; rfl
          case hQ51 => exact fun _ _ _ h => h
          case hw51 => rfl
          case hy51 => intro W' hS'; have hcv := str_of W' (hv2.below hS' (Nat.le_refl _)); go_simp; with_reducible rfl
          try simp only [Act.put, List.setIfInBounds_toArray, List.set_cons_zero, List.set_cons_succ]
          refine' wpAnyH_take (i := 18) (oi := _) (v := _) ?hi52 (by kernel_rfl) (by kernel_rfl) (by kernel_rfl) ?hQ52 (Or.inl ⟨?hw52, ?hy52⟩) hS ?rest52
          case hi52 => simp only [List.getElem?_toArray, List.getElem?_cons_succ, List.getElem?_cons_zero]; rfl
          case hQ52 => exact fun _ _ _ h => h
          case hw52 => rfl
          case hy52 => intro W' hS'; go_simp; with_reducible rfl
          try simp only [Act.put, List.setIfInBounds_toArray, List.set_cons_zero, List.set_cons_succ]
          refine' wpAnyH_take (i := 19) (oi := _) (v := _) ?hi53 (by kernel_rfl) (by kernel_rfl) (by kernel_rfl) ?hQ53 (Or.inl ⟨?hw53, ?hy53⟩) hS ?rest53
          case hi53 => simp only [List.getElem?_toArray, List.getElem?_cons_succ, List.getElem?_cons_zero]; rfl
          case hQ53 => exact fun _ _ _ h => h
          case hw53 => rfl
          case hy53 => intro W' hS'; go_simp; with_reducible rfl
          try simp only [Act.put, List.setIfInBounds_toArray, List.set_cons_zero, List.set_cons_succ]
          refine' wpAnyH_take (i := 20) (oi := _) (v := _) ?hi54 (by kernel_rfl) (by kernel_rfl) (by kernel_rfl) ?hQ54 (Or.inl ⟨?hw54, ?hy54⟩) hS ?rest54
          case hi54 => simp only [List.getElem?_toArray, List.getElem?_cons_succ, List.getElem?_cons_zero]; rfl
          case hQ54 => exact fun _ _ _ h => h
          case hw54 => rfl
          case hy54 => intro W' hS'; go_simp; with_reducible rfl
          try simp only [Act.put, List.setIfInBounds_toArray, List.set_cons_zero, List.set_cons_succ]
          refine' wpAnyH_take (i := 21) (oi := _) (v := txv t) ?hi55 (by kernel_rfl) (by kernel_rfl) (by kernel_rfl) ?hQ55 (Or.inl ⟨?hw55, ?hy55⟩) hS ?rest55
          case hi55 => simp only [List.getElem?_toArray, List.getElem?_cons_succ, List.getElem?_cons_zero]; rfl
          case hQ55 => exact fun _ _ _ h => h
          case hw55 => rfl
          case hy55 => exact fun W' hS' => exec_load 30 (.tmp 2) rfl _ W' (load_tx (kA.below hS' kA.lt))
          try simp only [Act.put, List.setIfInBounds_toArray, List.set_cons_zero, List.set_cons_succ]
          refine' wpAnyH_take (i := 22) (oi := _) (v := txv u) ?hi56 (by kernel_rfl) (by kernel_rfl) (by kernel_rfl) ?hQ56 (Or.inl ⟨?hw56, ?hy56⟩) hS ?rest56
          case hi56 => simp only [List.getElem?_toArray, List.getElem?_cons_succ, List.getElem?_cons_zero]; rfl
          case hQ56 => exact fun _ _ _ h => h
          case hw56 => rfl
          case hy56 => exact fun W' hS' => exec_load 30 (.tmp 3) rfl _ W' (load_tx (kB.below hS' kB.lt))
          try simp only [Act.put, List.setIfInBounds_toArray, List.set_cons_zero, List.set_cons_succ]
          refine' wpAnyH_take (i := 24) (oi := _) (v := txv t) ?hi57 (by kernel_rfl) (by kernel_rfl) (by kernel_rfl) ?hQ57 (Or.inl ⟨?hw57, ?hy57⟩) hS ?rest57
          case hi57 => simp only [List.getElem?_toArray, List.getElem?_cons_succ, List.getElem?_cons_zero]; rfl
          case hQ57 => exact fun _ _ _ h => h
          case hw57 => rfl
          case hy57 => exact fun W' hS' => exec_load 30 (.tmp 2) rfl _ W' (load_tx (kA.below hS' kA.lt))
          try simp only [Act.put, List.setIfInBounds_toArray, List.set_cons_zero, List.set_cons_succ]
          refine' wpAnyH_take (i := 25) (oi := _) (v := txv u) ?hi58 (by kernel_rfl) (by kernel_rfl) (by kernel_rfl) ?hQ58 (Or.inl ⟨?hw58, ?hy58⟩) hS ?rest58
          case hi58 => simp only [List.getElem?_toArray, List.getElem?_cons_succ, List.getElem?_cons_zero]; rfl
          case hQ58 => exact fun _ _ _ h => h
          case hw58 => rfl
          case hy58 => exact fun W' hS' => exec_load 30 (.tmp 3) rfl _ W' (load_tx (kB.below hS' kB.lt))
          try simp only [Act.put, List.setIfInBounds_toArray, List.set_cons_zero, List.set_cons_succ]
          refine' wpAnyH_take (i := 26) (oi := _) (v := .bool (eqT t u)) ?hi59 (by kernel_rfl) (by kernel_rfl) (by kernel_rfl) ?hQ59 (Or.inl ⟨?hw59, ?hy59⟩) hS ?rest59
          case hi59 => simp only [List.getElem?_toArray, List.getElem?_cons_succ, List.getElem?_cons_zero]; rfl
          case hQ59 => exact fun _ _ _ h => h
          case hw59 => rfl
          case hy59 => exact fun W' hS' => exec_eqT (.tmp 48) (.tmp 49) _ rfl t u rfl rfl W'
          try simp only [Act.put, List.setIfInBounds_toArray, List.set_cons_zero, List.set_cons_succ]
          refine wpAnyH_ready (rs := [23]) (by kernel_rfl) (by simp) ?_
          refine' AllReadyH.cons (o := _) ?ho60 (fun K hK => ?st60) AllReadyH.nil
          case ho60 => simp only [List.getElem?_toArray, List.getElem?_cons_succ, List.getElem?_cons_zero]; rfl
          case st60 =>
            go_simp
            refine (HSM.out _).mono ?_
            rintro e Y1 ⟨rfl, hb⟩
            refine hK.out _ _ (chain hS hb) (fun hS => ?_)
            clear hK K
            try simp only [Act.put, List.setIfInBounds_toArray, List.set_cons_zero, List.set_cons_succ]
            clear hb
            refine' wpAnyH_take (i := 27) (oi := _) (v := _) ?hi61 (by kernel_rfl) (by kernel_rfl) (by kernel_rfl) ?hQ61 (Or.inl ⟨?hw61, ?hy61⟩) hS ?rest61
            case hi61 => simp only [List.getElem?_toArray, List.getElem?_cons_succ, List.getElem?_cons_zero]; rfl
            case hQ61 => exact fun _ _ _ h => h
            case hw61 => rfl
            case hy61 => intro W' hS'; go_simp; with_reducible rfl
            try simp only [Act.put, List.setIfInBounds_toArray, List.set_cons_zero, List.set_cons_succ]
            refine' wpAnyH_take (i := 28) (oi := _) (v := _) ?hi62 (by kernel_rfl) (by kernel_rfl) (by kernel_rfl) ?hQ62 (Or.inl ⟨?hw62, ?hy62⟩) hS ?rest62
            case hi62 => simp only [List.getElem?_toArray, List.getElem?_cons_succ, List.getElem?_cons_zero]; rfl
            case hQ62 => exact fun _ _ _ h => h
            case hw62 => rfl
            case hy62 => intro W' hS'; go_simp; with_reducible rfl
            try simp only [Act.put, List.setIfInBounds_toArray, List.set_cons_zero, List.set_cons_succ]
            refine' wpAnyH_take (i := 29) (oi := _) (v := _) ?hi63 (by kernel_rfl) (by kernel_rfl) (by kernel_rfl) ?hQ63 (Or.inl ⟨?hw63, ?hy63⟩) hS ?rest63
            case hi63 => simp only [List.getElem?_toArray, List.getElem?_cons_succ, List.getElem?_cons_zero]; rfl
            case hQ63 => exact fun _ _ _ h => h
            case hw63 => rfl
            case hy63 => intro W' hS'; go_simp; with_reducible rfl
            try simp only [Act.put, List.setIfInBounds_toArray, List.set_cons_zero, List.set_cons_succ]
            refine wpAnyH_ready (rs := [30]) (by kernel_rfl) (by simp) ?_
            refine' AllReadyH.cons (o := _) ?ho64 (fun K hK => ?st64) AllReadyH.nil
            case ho64 => simp only [List.getElem?_toArray, List.getElem?_cons_succ, List.getElem?_cons_zero]; rfl
            case st64 =>
              go_simp
              refine (txsAlive_any _).mono ?_
              rintro e Y1 ⟨rfl, hb⟩
              refine hK.out _ _ (chain hS hb) (fun hS => ?_)
              clear hK K
              try simp only [Act.put, List.setIfInBounds_toArray, List.set_cons_zero, List.set_cons_succ]
              clear hb
              refine' wpAnyH_take (i := 31) (oi := _) (v := _) ?hi65 (by kernel_rfl) (by kernel_rfl) (by kernel_rfl) ?hQ65 (Or.inl ⟨?hw65, ?hy65⟩) hS ?rest65
              case hi65 => simp only [List.getElem?_toArray, List.getElem?_cons_succ, List.getElem?_cons_zero]; rfl
              case hQ65 => exact fun _ _ _ h => h
              case hw65 => rfl
              case hy65 => intro W' hS'; go_simp; with_reducible rfl
              try simp only [Act.put, List.setIfInBounds_toArray, List.set_cons_zero, List.set_cons_succ]
              refine' wpAnyH_take (i := 32) (oi := _) (v := _) ?hi66 (by kernel_rfl) (by kernel_rfl) (by kernel_rfl) ?hQ66 (Or.inl ⟨?hw66, ?hy66⟩) hS ?rest66
              case hi66 => simp only [List.getElem?_toArray, List.getElem?_cons_succ, List.getElem?_cons_zero]; rfl
              case hQ66 => exact fun _ _ _ h => h
              case hw66 => rfl
              case hy66 => intro W' hS'; go_simp; with_reducible rfl
              try simp only [Act.put, List.setIfInBounds_toArray, List.set_cons_zero, List.set_cons_succ]
              refine wpAnyH_done (by kernel_rfl) ?_ _
              go_wp2_with fail
              go_ret
              exact ⟨rfl, chain hB hS⟩
theorem txsTells_any (t u : Tr) (ht : OkT t) (w : World) :
    Calls Try.prog 3 #[txv t, txv u] w fun e W' => e = .returned (.bool true) ∧ Below w.heap.size w W' := by
  by_cases he : errT t = 0
  · exact txsTells_yes t u ht he w
  · exact txsTells_no t u ht he w
end Go.Proofs.Ytafcngnophlhgaa

namespace Go.Proofs.Ytafcngnophlhgaa
open Go.ChangeShapes Go.WideShapes Go.ChangeAt Go.RowKit Go.Deep
open Go.ChangeMaps (open_string)

set_option maxRecDepth 100000 in
theorem txsTells_lifted (os : Os) (started : os.Started) (H : Type) (enc : TypeId × Value → H) :
    ReturnsInHanded {} Try.checked os 3 .any (Rows.txsTellsSpec.pre6 enc Try.prog Try.f3 Rows.txsTellsRow.domain false) (Rows.txsTellsSpec.post enc Try.prog Try.f3 false true false false) := by
  refine returnsInHanded_of_change_sized (C := Try.checked) Try.own started (by kernel_rfl) Try.func3
    (ChangeSpec.witness6 (enc := enc) (C := Try.checked) false ⟨#[], #[.agg #[.int .i64 0, .int .i64 0, .int .i64 0, .int .i64 0, .int .u64 0, .int .u64 0, .int .u64 0, .int .u64 0, .int .i64 0, .string ⟨#[]⟩, .int .i64 0, .int .i64 0, .int .i64 0, .int .i64 0, .string ⟨#[]⟩, .int .u64 0, .int .u64 0, .int .u64 0, .int .u64 0, .int .i64 0, .int .u64 0, .int .u64 0, .int .u64 0, .int .u64 0, .string ⟨#[]⟩], .agg #[.int .i64 0, .int .i64 0, .int .i64 0, .int .i64 0, .int .u64 0, .int .u64 0, .int .u64 0, .int .u64 0, .int .i64 0, .string ⟨#[]⟩, .int .i64 0, .int .i64 0, .int .i64 0, .int .i64 0, .string ⟨#[]⟩, .int .u64 0, .int .u64 0, .int .u64 0, .int .u64 0, .int .i64 0, .int .u64 0, .int .u64 0, .int .u64 0, .int .u64 0, .string ⟨#[]⟩]], []⟩ 8 (by kernel_rfl) (by kernel_rfl) (by kernel_rfl) (by kernel_rfl)) ?_
  intro W base args ds gs before hval0 hW hcnd hsz0 _
  have hval : ∀ (j : Nat) t v, Try.f3.params[j]? = some t → args[j]? = some v → Value.okWide Try.prog W .any base t v := hval0
  have hW' := hW
  obtain ⟨p, q, hA0, hV, rfl, hfz, hnd⟩ := hW
  have hA : DataW.TrodAll enc Try.prog W 0 (fun _ => true) true Try.f3.params.toList args.toList ds p := hA0
  have hsz : (DataW.weightsEach Try.prog (Try.f3.params.toList ++ Rows.txsTellsSpec.plain.varTypes Try.prog) (ds ++ gs)).all (· ≤ reachBytes) = true := hsz0
  rw [Try.params3] at hA hval hsz
  obtain ⟨v0, v1, d0, d1, p0, p1, rfl, rfl, rfl, h0, h1⟩ := trodAll_two hA
  obtain ⟨rfl, rfl⟩ := trodVars_none hV
  have k0 := h0
  have k1 := h1
  have lt0 : ∀ x ∈ p0, x.block < W.heap.size := by obtain ⟨m, hm⟩ := k0; exact DataW.trod_lt m _ _ _ hm
  have lt1 : ∀ x ∈ p1, x.block < W.heap.size := by obtain ⟨m, hm⟩ := k1; exact DataW.trod_lt m _ _ _ hm
  obtain ⟨i0, rfl, hx0⟩ := open_tx (hval 0 30 v0 rfl rfl) h0
  obtain ⟨i1, rfl, hx1⟩ := open_tx (hval 1 30 v1 rfl rfl) h1
  clear hA0 hval0
  refine (txsTells_any i0 i1 hx0 W).mono fun e W' ⟨he, bel⟩ => ?_
  subst he
  exact ⟨_, rfl, _, _, _, [], _, [], hW', trodAll_mk1 (shut_bool Try.underlying4 _), (trodAll_mk2 (Below.trod Try.laidOut (by kernel_rfl) (of_decide_eq_true (by kernel_rfl)) k0 bel lt0) (Below.trod Try.laidOut (by kernel_rfl) (of_decide_eq_true (by kernel_rfl)) k1 bel lt1)), rfl, bel.frame _, fun h => by cases h⟩

theorem txsTells_over : Rows.txsTellsRow.holds Try.pinned (OpenSpec.ofChange Rows.txsTellsSpec) :=
  OpenClaim.holds_of_wide 3 Try.f3 rfl rfl rfl rfl rfl rfl rfl ⟨rfl, rfl, rfl, rfl, rfl⟩ rfl rfl rfl rfl rfl (by kernel_rfl) Try.func3 (by kernel_rfl)
    (of_decide_eq_true (by kernel_rfl)) (by unfold Func.isWrapper; first | (rw [if_pos (by decide +kernel)]; kernel_rfl) | (rw [if_neg (by decide +kernel)]; exact ⟨rfl, rfl⟩))
    (fun os started H enc _ => txsTells_lifted os started H enc)

/-- The statement. -/
theorem txsTells_proved : Rows.TxsTellsSaid := txsTells_over
end Go.Proofs.Ytafcngnophlhgaa
