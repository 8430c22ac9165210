/-
  MssTells answers true at every input, and leaves its arguments as they are.
  The walk of MssTells: root, paths and signatures are as the reference says.
  A key among the arguments is a text and a number; sizes within an argument.
  Lists of strings against each other that are one.
-/
import Derived.Deep.QuietTactic
import Derived.BigQuiet
import Derived.Outline
import Derived.ChangeMaps5
import Derived.Lib.SmallJoins
import Derived.JoinedCond
import Derived.Test.YtalmoaggancdjaaK14
namespace Go.Proofs.Ytalmoaggancdjaa
open Go.RowKit Go.Shelf

theorem Below.drewN {n : Nat} (w : World) (k : Nat) : Below n w (w.drewN k) := ⟨rfl, rfl, rfl, Nat.le_refl _, fun _ _ => rfl⟩

theorem BSl.up {W W' : World} {sv : Value} {l : List UInt8} (h : BSl 0 W.heap.size W sv l) (hb : Below W.heap.size W W') : BSl 0 W'.heap.size W' sv l := (h.below hb (Nat.le_refl _)).mono (Nat.le_refl _) hb.size
theorem VSl.up {W W' : World} {sv : Value} {vs : List Value} (h : VSl 0 W.heap.size W sv vs) (hb : Below W.heap.size W W') : VSl 0 W'.heap.size W' sv vs := (h.below hb (Nat.le_refl _)).mono (Nat.le_refl _) hb.size

set_option maxRecDepth 100000 in
set_option maxHeartbeats 4000000 in
theorem textsEq_any (zs : List ByteArray) (hn : zs.length ≤ 1000000) (s1 s2 : Value) (w : World) (h1 : VSl 0 w.heap.size w s1 (zs.map tv)) (h2 : VSl 0 w.heap.size w s2 (zs.map tv)) :
    Calls Try.prog 9 #[s1, s2] w fun e W' => e = .returned (.bool true) ∧ Below w.heap.size w W' := by
  have row : ∀ {sv : Value}, VSl 0 w.heap.size w sv (zs.map tv) → ∃ a c, sv = .slice a zs.length c ∧ ∀ k x, zs[k]? = some x → ∃ b off, a = some ⟨b, off, none⟩ ∧ b < w.heap.size ∧ w.cell? ⟨b, off + k, none⟩ = some (tv x) := fun h => by
    obtain ⟨a, c, e, _, h0⟩ := h
    rw [List.length_map] at e
    refine ⟨a, c, e, fun k x hx => ?_⟩
    rcases h0 with h0 | ⟨b, off, ha, _, hb, hr⟩
    · rw [List.map_eq_nil_iff] at h0; subst h0; simp at hx
    · exact ⟨b, off, ha, hb, hr k _ (by rw [List.getElem?_map, hx]; rfl)⟩
  obtain ⟨a1, c1, rfl, r1⟩ := row h1
  obtain ⟨a2, c2, rfl, r2⟩ := row h2
  have R1 := Lib.hid r1
  have R2 := Lib.hid r2
  clear row h1 h2 r1 r2
  go_enter Try.func9, Try.ntmps9
  go_wp2
  go_loopw [5] (fun i wr => ∃ k : Nat, k ≤ zs.length ∧ i = .int .i64 (k : Nat) ∧ Below w.heap.size w wr) (fun i _ => zs.length - (intOf i).toNat)
  case atStart => exact ⟨0, by omega, rfl, Below.refl _ _⟩
  case round =>
    obtain ⟨k, hk, rfl, hB⟩ := hrel
    by_cases hlt : k < zs.length
    · obtain ⟨x, hx⟩ : ∃ x, zs[k]? = some x := ⟨_, List.getElem?_eq_getElem hlt⟩
      obtain ⟨b1, o1, rfl, hb1, e1⟩ := R1.out k x hx
      obtain ⟨b2, o2, rfl, hb2, e2⟩ := R2.out k x hx
      replace e1 := (hB.cell (p := ⟨b1, o1 + k, none⟩) hb1).trans e1
      replace e2 := (hB.cell (p := ⟨b2, o2 + k, none⟩) hb2).trans e2
      simp only [tv] at e1 e2
      have hlt' : (k : Int) < (zs.length : Int) := by omega
      have HLT := Lib.hid hlt
      clear hx hk hlt
      generalize hL : zs.length = len at *
      have HLn := Lib.hid hL
      clear hL
      go_wp2_with fail
      go_quiet (fail)
      go_wp2_with fail
      go_roundw
      case rel => exact ⟨k + 1, HLT.out, by simp, hB.trans (Below.drewN _ _)⟩
      case measure => have := HLT.out; simp [intOf]; omega
    · obtain rfl : k = zs.length := by omega
      go_wp2_with fail
      go_ret
      exact ⟨rfl, hB⟩
end Go.Proofs.Ytalmoaggancdjaa

namespace Go.Proofs.Ytalmoaggancdjaa
open Go.ChangeShapes Go.WideShapes Go.ChangeAt Go.RowKit Go.Deep

theorem sized_in {H : Type} {P : Program} {ts : List TypeId} {ds : List (DataW H)} (h : (DataW.weightsEach P ts ds).all (· ≤ reachBytes) = true) {j : Nat} {t : TypeId} {d : DataW H} (ht : ts[j]? = some t) (hd : ds[j]? = some d) (n : Nat) (hn : n ∈ d.weights P t) : n ≤ 140737488351232 := by
  have := List.all_eq_true.1 h _ (DataW.weights_mem_each ht hd n hn)
  have h2 := of_decide_eq_true this
  simp only [reachBytes] at h2
  exact h2
theorem weightsAll_mem {H : Type} {P : Program} {e : TypeId} : ∀ {l : List (DataW H)} {d : DataW H}, d ∈ l → ∀ n ∈ d.weights P e, n ∈ DataW.weightsAll P e l
  | [], _, h, _, _ => by cases h
  | x :: l, d, h, n, hn => by
    simp only [DataW.weightsAll, List.mem_append]
    rcases List.mem_cons.1 h with rfl | h
    · exact .inl hn
    · exact .inr (weightsAll_mem h n hn)

theorem Try.cellsKey : Try.prog.cellsOf 23 = 2 := by kernel_rfl
set_option maxRecDepth 100000 in
theorem open_key {H : Type} {enc : TypeId × Value → H} {r : Reach} {w : World} {b0 base : Nat} {spare : Nat → Bool} {held : Bool} {v : Value} {d : DataW H} {p : List MemPlace}
    (hv : Value.okWide Try.prog w r b0 23 v) (h : DataW.Trod enc Try.prog w base spare held 23 v d p) :
    ∃ (s : ByteArray) (z : Int) (d1 : DataW H), v = .agg #[.string s, .int .i64 z] ∧ d = .agg [.lit (.string s.data.toList), d1] ∧ s.data.toList.length ∈ d.weights Try.prog 23 := by
  obtain ⟨v0, v1, y0, y1, n, rfl, rfl, _, h0, h1⟩ := Joins.open_agg2 Try.underlying23 (by kernel_rfl) Try.cellsKey hv h
  obtain ⟨s, e0, hx0, _⟩ := DataW.trod_string Try.underlying9 h0
  obtain ⟨z, e1, hx1, _⟩ := DataW.trod_int Try.underlying3 h1
  simp at e0 e1
  subst e0 e1
  refine ⟨s, z, y1.1, rfl, by rw [hx0], ?_⟩
  rw [hx0]
  simp [DataW.weights, DataW.weightsEach, Try.underlying23]
end Go.Proofs.Ytalmoaggancdjaa

namespace Go.Proofs.Ytalmoaggancdjaa
open Go.RowKit Go.Shelf

set_option maxRecDepth 100000 in
set_option maxHeartbeats 8000000 in
theorem mssTells_any (s : ByteArray) (hs : s.size ≤ 140737488352000) (z y : Int) (a : Option Addr) (cap : Nat) (l : List UInt8) (hreach : l.length ≤ 140737488351232) (w : World) (hsb : BSl 0 w.heap.size w (.slice a l.length cap) l) :
    Calls Try.prog 3 #[.agg #[.string s, .int .i64 z], .int .i64 y, .slice a l.length cap] w fun e W' => e = .returned (.bool true) ∧ Below w.heap.size w W' := by
  have hmx : Try.prog.follows .mixedOrders = true := by kernel_rfl
  have HR := Lib.hid (fun w => root_any s hs w)
  have HRR := Lib.hid (fun w => refRoot_any s hs w)
  have HP := Lib.hid (fun w => path_any s hs y w)
  have HPR := Lib.hid (fun w => refPath_any s hs y w)
  have hpl : (pathL s y).length ≤ 3 := by
    unfold pathL
    split
    · rw [upto_length]; exact Nat.le_refl _
    · exact Nat.zero_le _
  have HPL := Lib.hid hpl
  clear hpl
  generalize rootB s = rb at *
  generalize pathL s y = pl at *
  have he : (rb.toList == rb.toList) = true := by simp
  go_enter Try.func3, Try.ntmps3
  go_wp2_with fail
  refine (mssAlive_any _).mono ?_
  rintro e w1 ⟨rfl, hb1⟩
  have kb0 : Blk (w.alloc (.cells #[.string s, .int .i64 z] 23)) w.heap.size 23 [.string s, .int .i64 z] := Blk.new w _ _
  have kb : Blk w1 w.heap.size 23 [.string s, .int .i64 z] := kb0.below hb1 (by simp)
  have hb0 : Below w.heap.size w w1 := chain (chain0 _ _) hb1
  clear kb0 hb1
  have c0 : w1.cell? ⟨w.heap.size, 0, none⟩ = some (.string s) := kb.cell 0
  have c1 : w1.cell? ⟨w.heap.size, 1, none⟩ = some (.int .i64 z) := kb.cell 1
  have hbw : w.heap.size < w1.heap.size := kb.lt
  have hsb1 := (hsb.below hb0 (Nat.le_refl _)).mono (Nat.le_refl _) hb0.size
  clear hsb kb
  generalize hBk : w.heap.size = B at *
  go_wp2_with fail
  refine wp_region_held_drew (S := fun W => Below w1.heap.size w1 W) hmx (Below.refl _ w1).drew ?_
  intro hS
  generalize w1.drew = Y at *
  refine' wpAnyH_take (i := 0) (oi := _) (v := _) ?hi1 (by kernel_rfl) (by kernel_rfl) (by kernel_rfl) ?hQ1 (Or.inl ⟨?hw1, ?hy1⟩) hS ?rest1
  case hi1 => simp only [List.getElem?_toArray, List.getElem?_cons_zero]; rfl
  case hQ1 => exact fun _ _ _ h => h
  case hw1 => rfl
  case hy1 => intro W' hS'; go_simp; with_reducible rfl
  try simp only [Act.put, List.setIfInBounds_toArray, List.set_cons_zero, List.set_cons_succ]
  refine' wpAnyH_take (i := 1) (oi := _) (v := _) ?hi2 (by kernel_rfl) (by kernel_rfl) (by kernel_rfl) ?hQ2 (Or.inl ⟨?hw2, ?hy2⟩) hS ?rest2
  case hi2 => simp only [List.getElem?_toArray, List.getElem?_cons_succ, List.getElem?_cons_zero]; rfl
  case hQ2 => exact fun _ _ _ h => h
  case hw2 => rfl
  case hy2 => intro W' hS'; have hc := (hS'.cell (p := ⟨B, 0, none⟩) hbw).trans c0; go_simp; with_reducible rfl
  try simp only [Act.put, List.setIfInBounds_toArray, List.set_cons_zero, List.set_cons_succ]
  refine' wpAnyH_take (i := 3) (oi := _) (v := _) ?hi3 (by kernel_rfl) (by kernel_rfl) (by kernel_rfl) ?hQ3 (Or.inl ⟨?hw3, ?hy3⟩) hS ?rest3
  case hi3 => simp only [List.getElem?_toArray, List.getElem?_cons_succ, List.getElem?_cons_zero]; rfl
  case hQ3 => exact fun _ _ _ h => h
  case hw3 => rfl
  case hy3 => intro W' hS'; go_simp; with_reducible rfl
  try simp only [Act.put, List.setIfInBounds_toArray, List.set_cons_zero, List.set_cons_succ]
  refine' wpAnyH_take (i := 4) (oi := _) (v := _) ?hi4 (by kernel_rfl) (by kernel_rfl) (by kernel_rfl) ?hQ4 (Or.inl ⟨?hw4, ?hy4⟩) hS ?rest4
  case hi4 => simp only [List.getElem?_toArray, List.getElem?_cons_succ, List.getElem?_cons_zero]; rfl
  case hQ4 => exact fun _ _ _ h => h
  case hw4 => rfl
  case hy4 => intro W' hS'; have hc := (hS'.cell (p := ⟨B, 0, none⟩) hbw).trans c0; go_simp; with_reducible rfl
  try simp only [Act.put, List.setIfInBounds_toArray, List.set_cons_zero, List.set_cons_succ]
  refine wpAnyH_ready (rs := [2]) (by kernel_rfl) (by simp) ?_
  refine' AllReadyH.cons (o := _) ?ho5 (fun K hK => ?st5) AllReadyH.nil
  case ho5 => simp only [List.getElem?_toArray, List.getElem?_cons_succ, List.getElem?_cons_zero]; rfl
  case st5 =>
    go_simp
    refine (HR.out _).mono ?_
    rintro e Y1 ⟨rfl, hb⟩
    refine hK.out _ _ (hS.trans (hb.mono hS.size)) (fun hS => ?_)
    clear hK K
    try simp only [Act.put, List.setIfInBounds_toArray, List.set_cons_zero, List.set_cons_succ]
    clear hb
    refine wpAnyH_ready (rs := [5]) (by kernel_rfl) (by simp) ?_
    refine' AllReadyH.cons (o := _) ?ho6 (fun K hK => ?st6) AllReadyH.nil
    case ho6 => simp only [List.getElem?_toArray, List.getElem?_cons_succ, List.getElem?_cons_zero]; rfl
    case st6 =>
      go_simp
      refine (HRR.out _).mono ?_
      rintro e Y2 ⟨rfl, hb⟩
      refine hK.out _ _ (hS.trans (hb.mono hS.size)) (fun hS => ?_)
      clear hK K
      try simp only [Act.put, List.setIfInBounds_toArray, List.set_cons_zero, List.set_cons_succ]
      clear hb
      refine' wpAnyH_take (i := 6) (oi := _) (v := _) ?hi7 (by kernel_rfl) (by kernel_rfl) (by kernel_rfl) ?hQ7 (Or.inl ⟨?hw7, ?hy7⟩) hS ?rest7
      case hi7 => simp only [List.getElem?_toArray, List.getElem?_cons_succ, List.getElem?_cons_zero]; rfl
      case hQ7 => exact fun _ _ _ h => h
      case hw7 => rfl
      case hy7 => intro W' hS'; go_simp; with_reducible rfl
      try simp only [Act.put, List.setIfInBounds_toArray, List.set_cons_zero, List.set_cons_succ]
      refine' wpAnyH_take (i := 7) (oi := _) (v := _) ?hi8 (by kernel_rfl) (by kernel_rfl) (by kernel_rfl) ?hQ8 (Or.inl ⟨?hw8, ?hy8⟩) hS ?rest8
      case hi8 => simp only [List.getElem?_toArray, List.getElem?_cons_succ, List.getElem?_cons_zero]; rfl
      case hQ8 => exact fun _ _ _ h => h
      case hw8 => rfl
      case hy8 => intro W' hS'; go_simp; with_reducible rfl
      try simp only [Act.put, List.setIfInBounds_toArray, List.set_cons_zero, List.set_cons_succ]
      refine' wpAnyH_take (i := 8) (oi := _) (v := _) ?hi9 (by kernel_rfl) (by kernel_rfl) (by kernel_rfl) ?hQ9 (Or.inl ⟨?hw9, ?hy9⟩) hS ?rest9
      case hi9 => simp only [List.getElem?_toArray, List.getElem?_cons_succ, List.getElem?_cons_zero]; rfl
      case hQ9 => exact fun _ _ _ h => h
      case hw9 => rfl
      case hy9 => intro W' hS'; go_simp; with_reducible rfl
      try simp only [Act.put, List.setIfInBounds_toArray, List.set_cons_zero, List.set_cons_succ]
      refine' wpAnyH_take (i := 9) (oi := _) (v := _) ?hi10 (by kernel_rfl) (by kernel_rfl) (by kernel_rfl) ?hQ10 (Or.inl ⟨?hw10, ?hy10⟩) hS ?rest10
      case hi10 => simp only [List.getElem?_toArray, List.getElem?_cons_succ, List.getElem?_cons_zero]; rfl
      case hQ10 => exact fun _ _ _ h => h
      case hw10 => rfl
      case hy10 => intro W' hS'; have hc := (hS'.cell (p := ⟨B, 0, none⟩) hbw).trans c0; go_simp; with_reducible rfl
      try simp only [Act.put, List.setIfInBounds_toArray, List.set_cons_zero, List.set_cons_succ]
      refine' wpAnyH_take (i := 10) (oi := _) (v := _) ?hi11 (by kernel_rfl) (by kernel_rfl) (by kernel_rfl) ?hQ11 (Or.inl ⟨?hw11, ?hy11⟩) hS ?rest11
      case hi11 => simp only [List.getElem?_toArray, List.getElem?_cons_succ, List.getElem?_cons_zero]; rfl
      case hQ11 => exact fun _ _ _ h => h
      case hw11 => rfl
      case hy11 => intro W' hS'; go_simp; with_reducible rfl
      try simp only [Act.put, List.setIfInBounds_toArray, List.set_cons_zero, List.set_cons_succ]
      refine' wpAnyH_take (i := 12) (oi := _) (v := _) ?hi12 (by kernel_rfl) (by kernel_rfl) (by kernel_rfl) ?hQ12 (Or.inl ⟨?hw12, ?hy12⟩) hS ?rest12
      case hi12 => simp only [List.getElem?_toArray, List.getElem?_cons_succ, List.getElem?_cons_zero]; rfl
      case hQ12 => exact fun _ _ _ h => h
      case hw12 => rfl
      case hy12 => intro W' hS'; go_simp; with_reducible rfl
      try simp only [Act.put, List.setIfInBounds_toArray, List.set_cons_zero, List.set_cons_succ]
      refine' wpAnyH_take (i := 13) (oi := _) (v := _) ?hi13 (by kernel_rfl) (by kernel_rfl) (by kernel_rfl) ?hQ13 (Or.inl ⟨?hw13, ?hy13⟩) hS ?rest13
      case hi13 => simp only [List.getElem?_toArray, List.getElem?_cons_succ, List.getElem?_cons_zero]; rfl
      case hQ13 => exact fun _ _ _ h => h
      case hw13 => rfl
      case hy13 => intro W' hS'; have hc := (hS'.cell (p := ⟨B, 0, none⟩) hbw).trans c0; go_simp; with_reducible rfl
      try simp only [Act.put, List.setIfInBounds_toArray, List.set_cons_zero, List.set_cons_succ]
      refine' wpAnyH_take (i := 14) (oi := _) (v := _) ?hi14 (by kernel_rfl) (by kernel_rfl) (by kernel_rfl) ?hQ14 (Or.inl ⟨?hw14, ?hy14⟩) hS ?rest14
      case hi14 => simp only [List.getElem?_toArray, List.getElem?_cons_succ, List.getElem?_cons_zero]; rfl
      case hQ14 => exact fun _ _ _ h => h
      case hw14 => rfl
      case hy14 => intro W' hS'; go_simp; with_reducible rfl
      try simp only [Act.put, List.setIfInBounds_toArray, List.set_cons_zero, List.set_cons_succ]
      refine wpAnyH_ready (rs := [11]) (by kernel_rfl) (by simp) ?_
      refine' AllReadyH.cons (o := _) ?ho15 (fun K hK => ?st15) AllReadyH.nil
      case ho15 => simp only [List.getElem?_toArray, List.getElem?_cons_succ, List.getElem?_cons_zero]; rfl
      case st15 =>
        go_simp
        refine (HP.out _).mono ?_
        rintro e Y3 ⟨v3, rfl, hown3, hb⟩
        refine hK.out _ _ (hS.trans (hb.mono hS.size)) (fun hS => ?_)
        clear hK K
        try simp only [Act.put, List.setIfInBounds_toArray, List.set_cons_zero, List.set_cons_succ]
        clear hb
        have hV3 := (VSl.of_own (vs := pl.map tv) (by rw [List.length_map]; exact hown3)).mono (Nat.zero_le _) (Nat.le_refl _)
        obtain ⟨a3, d3, rfl⟩ := ownsRow_slice hown3
        clear hown3
        refine wpAnyH_ready (rs := [15]) (by kernel_rfl) (by simp) ?_
        refine' AllReadyH.cons (o := _) ?ho16 (fun K hK => ?st16) AllReadyH.nil
        case ho16 => simp only [List.getElem?_toArray, List.getElem?_cons_succ, List.getElem?_cons_zero]; rfl
        case st16 =>
          go_simp
          refine (HPR.out _).mono ?_
          rintro e Y4 ⟨v4, rfl, hown4, hb⟩
          refine hK.out _ _ (hS.trans (hb.mono hS.size)) (fun hS => ?_)
          clear hK K
          try simp only [Act.put, List.setIfInBounds_toArray, List.set_cons_zero, List.set_cons_succ]
          have hV4 := (VSl.of_own (vs := pl.map tv) (by rw [List.length_map]; exact hown4)).mono (Nat.zero_le _) (Nat.le_refl _)
          have hV3' := VSl.up hV3 hb
          obtain ⟨a4, d4, rfl⟩ := ownsRow_slice hown4
          clear hown4 hb hV3
          refine wpAnyH_ready (rs := [16]) (by kernel_rfl) (by simp) ?_
          refine' AllReadyH.cons (o := _) ?ho17 (fun K hK => ?st17) AllReadyH.nil
          case ho17 => simp only [List.getElem?_toArray, List.getElem?_cons_succ, List.getElem?_cons_zero]; rfl
          case st17 =>
            go_simp
            refine (textsEq_any pl (by have := HPL.out; omega) _ _ _ hV3' hV4).mono ?_
            rintro e Y5 ⟨rfl, hb⟩
            refine hK.out _ _ (hS.trans (hb.mono hS.size)) (fun hS => ?_)
            clear hK K
            try simp only [Act.put, List.setIfInBounds_toArray, List.set_cons_zero, List.set_cons_succ]
            clear hb hV3' hV4
            refine' wpAnyH_take (i := 17) (oi := _) (v := _) ?hi18 (by kernel_rfl) (by kernel_rfl) (by kernel_rfl) ?hQ18 (Or.inl ⟨?hw18, ?hy18⟩) hS ?rest18
            case hi18 => simp only [List.getElem?_toArray, List.getElem?_cons_succ, List.getElem?_cons_zero]; rfl
            case hQ18 => exact fun _ _ _ h => h
            case hw18 => rfl
            case hy18 => intro W' hS'; go_simp; with_reducible rfl
            try simp only [Act.put, List.setIfInBounds_toArray, List.set_cons_zero, List.set_cons_succ]
            refine' wpAnyH_take (i := 18) (oi := _) (v := _) ?hi19 (by kernel_rfl) (by kernel_rfl) (by kernel_rfl) ?hQ19 (Or.inl ⟨?hw19, ?hy19⟩) hS ?rest19
            case hi19 => simp only [List.getElem?_toArray, List.getElem?_cons_succ, List.getElem?_cons_zero]; rfl
            case hQ19 => exact fun _ _ _ h => h
            case hw19 => rfl
            case hy19 => intro W' hS'; go_simp; with_reducible rfl
            try simp only [Act.put, List.setIfInBounds_toArray, List.set_cons_zero, List.set_cons_succ]
            refine wpAnyH_done (by kernel_rfl) ?_ _
            have C0 := (hS.cell (p := ⟨B, 0, none⟩) hbw).trans c0
            have C1 := (hS.cell (p := ⟨B, 1, none⟩) hbw).trans c1
            have hB5 : Below B w Y5 := hb0.trans (hS.mono (by omega))
            have hsb5 := BSl.up hsb1 hS
            have hbY : B < Y5.heap.size := by have := hS.size; omega
            clear hS hsb1 hb0 c0 c1 hbw HP HPR HPL HR HRR
            have hC : ∀ w2 : World, Below Y5.heap.size Y5 w2 → ∀ o : Obj, ((w2.alloc o).cell? ⟨B, 0, none⟩ = some (.string s) ∧ (w2.alloc o).cell? ⟨B, 1, none⟩ = some (.int .i64 z)) ∧ Below B w (w2.alloc o) := fun w2 hb2 o => by
              have h := chainA hb2 o
              exact ⟨⟨(h.cell (p := ⟨B, 0, none⟩) hbY).trans C0, (h.cell (p := ⟨B, 1, none⟩) hbY).trans C1⟩, hB5.trans (h.mono (by omega))⟩
            have HCC := Lib.hid hC
            clear hC
            by_cases h0 : z < 0
            · go_wp2_with fail
              refine (mssSign_state s z (.inl h0) _ _).mono ?_
              rintro e w2 ⟨rfl, hb2⟩
              have hC0 := fun o => (HCC.out w2 hb2 o).1.1
              have hC1 := fun o => (HCC.out w2 hb2 o).1.2
              have HB := Lib.hid (fun o => (HCC.out w2 hb2 o).2)
              clear C0 C1 hb2
              go_wp2_with fail
              go_ret
              exact ⟨rfl, by rw [hBk]; exact HB.out _⟩
            by_cases h8 : 8 < z
            · go_wp2_with fail
              refine (mssSign_state s z (.inr h8) _ _).mono ?_
              rintro e w2 ⟨rfl, hb2⟩
              have hC0 := fun o => (HCC.out w2 hb2 o).1.1
              have hC1 := fun o => (HCC.out w2 hb2 o).1.2
              have HB := Lib.hid (fun o => (HCC.out w2 hb2 o).2)
              clear C0 C1 hb2
              go_wp2_with fail
              go_ret
              exact ⟨rfl, by rw [hBk]; exact HB.out _⟩
            by_cases h9 : z = 8
            · subst h9
              clear h0 h8
              go_wp2_with fail
              refine (mssSign_full s _ _).mono ?_
              rintro e w2 ⟨rfl, hb2⟩
              have hC0 := fun o => (HCC.out w2 hb2 o).1.1
              have hC1 := fun o => (HCC.out w2 hb2 o).1.2
              have HB := Lib.hid (fun o => (HCC.out w2 hb2 o).2)
              clear C0 C1 hb2
              go_wp2_with fail
              go_ret
              exact ⟨rfl, by rw [hBk]; exact HB.out _⟩
            obtain ⟨n, rfl⟩ : ∃ n : Nat, z = (n : Int) := ⟨z.toNat, by omega⟩
            have hn : n < 8 := by omega
            have hn0 : ¬ (n : Int) < 0 := by omega
            have hn8 : ¬ 8 < (n : Int) := by omega
            have hn9 : ((n : Int) == 8) = false := by simp; omega
            have HSG := Lib.hid (fun w h => refSig_any s hs n hn l (.slice a l.length cap) w (by omega) h)
            have HN := Lib.hid hn
            clear h0 h8 h9
            go_wp2_with fail
            refine (mssSign_any s hs n HN.out l _ _ (by omega) hsb5).mono ?_
            rintro e w2 ⟨rfl, hb2⟩
            have hC0 := fun o => (HCC.out w2 hb2 o).1.1
            have hC1 := fun o => (HCC.out w2 hb2 o).1.2
            have HB := Lib.hid (fun o => (HCC.out w2 hb2 o).2)
            have hsb6 := fun o => BSl.up hsb5 (chainA hb2 o)
            have HSB := Lib.hid hsb6
            clear C0 C1 hb2 hsb6 hsb5 hn
            generalize sigB s n l = sg at *
            have he2 : (sg.toList == sg.toList) = true := by simp
            go_wp2_with fail
            refine (HSG.out _ (HSB.out _)).mono ?_
            rintro e w3 ⟨rfl, hb3⟩
            have kk : Blk (w2.alloc (.cells #[.string s, .int .i64 ((n : Int) + 1)] 23)) w2.heap.size 23 [.string s, .int .i64 ((n : Int) + 1)] := Blk.new w2 _ _
            have kk3 := kk.below hb3 kk.lt
            have D0 : w3.cell? ⟨w2.heap.size, 0, none⟩ = some (.string s) := kk3.cell 0
            have D1 : w3.cell? ⟨w2.heap.size, 1, none⟩ = some (.int .i64 ((n : Int) + 1)) := kk3.cell 1
            have hbb : B < (w2.alloc (.cells #[.string s, .int .i64 ((n : Int) + 1)] 23)).heap.size := World.block_lt_of_cell? _ _ (hC0 _)
            have E0 : w3.cell? ⟨B, 0, none⟩ = some (.string s) := (hb3.cell (p := ⟨B, 0, none⟩) hbb).trans (hC0 _)
            have E1 : w3.cell? ⟨B, 1, none⟩ = some (.int .i64 (n : Int)) := (hb3.cell (p := ⟨B, 1, none⟩) hbb).trans (hC1 _)
            have hBe : Below B w w3 := (HB.out _).trans (hb3.mono (Nat.le_of_lt hbb))
            have he3 : (s.toList == s.toList) = true := by simp
            clear hC0 hC1 kk kk3 hb3 hbb
            go_wp2_with fail
            go_ret
            exact ⟨rfl, by rw [hBk]; exact hBe⟩

end Go.Proofs.Ytalmoaggancdjaa

namespace Go.Proofs.Ytalmoaggancdjaa
open Go.ChangeShapes Go.WideShapes Go.ChangeAt Go.RowKit Go.Deep
open Go.ChangeMaps (open_string)

set_option maxRecDepth 100000 in
theorem mssTells_lifted (os : Os) (started : os.Started) (H : Type) (enc : TypeId × Value → H) :
    ReturnsInHanded {} Try.checked os 3 .any (Rows.mssTellsSpec.pre6 enc Try.prog Try.f3 Rows.mssTellsRow.domain false) (Rows.mssTellsSpec.post enc Try.prog Try.f3 false true false false) := by
  refine returnsInHanded_of_change_sized (C := Try.checked) Try.own started (by kernel_rfl) Try.func3
    (ChangeSpec.witness6 (enc := enc) (C := Try.checked) false ⟨#[], #[.agg #[.string ⟨#[]⟩, .int .i64 0], .int .i64 0, .slice none 0 0], []⟩ 8 (by kernel_rfl) (by kernel_rfl) (by kernel_rfl) (by kernel_rfl)) ?_
  intro W base args ds gs before hval0 hW hcnd hsz0 _
  have hval : ∀ (j : Nat) t v, Try.f3.params[j]? = some t → args[j]? = some v → Value.okWide Try.prog W .any base t v := hval0
  have hW' := hW
  obtain ⟨p, q, hA0, hV, rfl, hfz, hnd⟩ := hW
  have hA : DataW.TrodAll enc Try.prog W 0 (fun _ => true) true Try.f3.params.toList args.toList ds p := hA0
  have hsz : (DataW.weightsEach Try.prog (Try.f3.params.toList ++ Rows.mssTellsSpec.plain.varTypes Try.prog) (ds ++ gs)).all (· ≤ reachBytes) = true := hsz0
  rw [Try.params3] at hA hval hsz
  obtain ⟨v0, v1, v2, d0, d1, d2, p0, p1, p2, rfl, rfl, rfl, h0, h1, h2⟩ := trodAll_three hA
  obtain ⟨rfl, rfl⟩ := trodVars_none hV
  obtain ⟨a2, len2, cap2, rfl⟩ := okWide_slice Try.underlying24 (hval 2 24 v2 rfl rfl)
  have k0 := h0
  have k1 := h1
  have k2 := h2
  have lt0 : ∀ x ∈ p0, x.block < W.heap.size := by obtain ⟨m, hm⟩ := k0; exact DataW.trod_lt m _ _ _ hm
  have lt1 : ∀ x ∈ p1, x.block < W.heap.size := by obtain ⟨m, hm⟩ := k1; exact DataW.trod_lt m _ _ _ hm
  have lt2 : ∀ x ∈ p2, x.block < W.heap.size := by obtain ⟨m, hm⟩ := k2; exact DataW.trod_lt m _ _ _ hm
  obtain ⟨s0, z0, dk0, rfl, _, hw0⟩ := open_key (hval 0 23 v0 rfl rfl) h0
  have hs0 : s0.size ≤ 140737488351232 := sized_in hsz (j := 0) (t := 23) rfl rfl _ hw0
  obtain ⟨z1, rfl, _, _, wf1⟩ := open_int Try.underlying3 (hval 1 3 v1 rfl rfl) h1
  obtain ⟨zl1, zh1⟩ := wf_i64 wf1
  obtain ⟨l2, rfl, hsl2, hd2⟩ := open_bytes h2
  have hreach2 : l2.length ≤ 140737488351232 := by
    rcases hd2 with rfl | ⟨el, sp, rfl, hel⟩
    · simp
    · have := sized_slice hsz (j := 2) (t := 24) (e := 5) rfl rfl Try.underlying24
      rw [Try.bytes8] at this
      simp only [reachBytes] at this
      omega
  clear hA0 hval0
  refine (mssTells_any s0 (by omega) z0 z1 a2 cap2 l2 hreach2 W hsl2).mono fun e W' ⟨he, bel⟩ => ?_
  subst he
  exact ⟨_, rfl, _, _, _, [], _, [], hW', trodAll_mk1 (shut_bool Try.underlying4 _), (trodAll_mk3 (Below.trod Try.laidOut (by kernel_rfl) (of_decide_eq_true (by kernel_rfl)) k0 bel lt0) (Below.trod Try.laidOut (by kernel_rfl) (of_decide_eq_true (by kernel_rfl)) k1 bel lt1) (Below.trod Try.laidOut (by kernel_rfl) (of_decide_eq_true (by kernel_rfl)) k2 bel lt2)), rfl, bel.frame _, fun h => by cases h⟩

theorem mssTells_over : Rows.mssTellsRow.holds Try.pinned (OpenSpec.ofChange Rows.mssTellsSpec) :=
  OpenClaim.holds_of_wide 3 Try.f3 rfl rfl rfl rfl rfl rfl rfl ⟨rfl, rfl, rfl, rfl, rfl⟩ rfl rfl rfl rfl rfl (by kernel_rfl) Try.func3 (by kernel_rfl)
    (of_decide_eq_true (by kernel_rfl)) (by unfold Func.isWrapper; first | (rw [if_pos (by decide +kernel)]; kernel_rfl) | (rw [if_neg (by decide +kernel)]; exact ⟨rfl, rfl⟩))
    (fun os started H enc _ => mssTells_lifted os started H enc)

/-- The statement. -/
theorem mssTells_proved : Rows.MssTellsSaid := mssTells_over
end Go.Proofs.Ytalmoaggancdjaa
