/-
  ots.beginnings: what a leaf's chains begin with, one by one; ots.Begin.
-/
import Derived.Test.YtneilnfjnbecbaaAppendSeqT
import Derived.Test.YtneilnfjnbecbaaNumO
import Derived.Test.YtneilnfjnbecbaaConvB
import Derived.Test.YtneilnfjnbecbaaPiece
import Derived.Test.YtneilnfjnbecbaaFenceAny
import Derived.Outline
namespace Go.Proofs.Ytneilnfjnbecbaa
open Go.RowKit Go.Shelf
attribute [local go_sem] Oper.semAt_some

/-- Short of three texts, of a row just laid. -/
theorem short_three (W : World) (v1 v2 v3 : Value) (l1 l2 l3 : List UInt8) (h1 : BSl 0 W.heap.size W v1 l1) (h2 : BSl 0 W.heap.size W v2 l2) (h3 : BSl 0 W.heap.size W v3 l3) (hl : l1.length + l2.length + l3.length ≤ 140737488353000) :
    Calls Try.prog 52 #[.slice (some ⟨W.heap.size, 0, none⟩) 3 3] (W.alloc (.cells #[v1, v2, v3] 22)) fun e W' => e = .returned (.string (shortB (l1 ++ (l2 ++ l3)))) ∧ Below W.heap.size W W' := by
  have hb : Below W.heap.size W (W.alloc (.cells #[v1, v2, v3] 22)) := chain0 _ _
  have up : ∀ {v : Value} {l : List UInt8}, BSl 0 W.heap.size W v l → BSl 0 (W.alloc (.cells #[v1, v2, v3] 22)).heap.size (W.alloc (.cells #[v1, v2, v3] 22)) v l := fun h => (h.below hb (Nat.le_refl _)).mono (Nat.le_refl _) hb.size
  have hs := short_of (W.alloc (.cells #[v1, v2, v3] 22)) (.slice (some ⟨W.heap.size, 0, none⟩) 3 3) [(v1, l1), (v2, l2), (v3, l3)] (by simp) (fun p hp => by
    simp only [List.mem_cons, List.not_mem_nil, or_false] at hp
    rcases hp with rfl | rfl | rfl
    · exact ⟨up h1, by show l1.length ≤ _; omega⟩
    · exact ⟨up h2, by show l2.length ≤ _; omega⟩
    · exact ⟨up h3, by show l3.length ≤ _; omega⟩) (by simp; omega) ⟨_, 3, rfl, Nat.le_refl _, .inr ⟨_, 0, rfl, Nat.zero_le _, by simp, fun k x hx => by
      have hB : Blk (W.alloc (.cells #[v1, v2, v3] 22)) W.heap.size 22 [v1, v2, v3] := Blk.new W _ [v1, v2, v3]
      rw [Nat.zero_add, hB.cell]
      exact hx⟩⟩
  refine hs.mono fun e W' ⟨he, hb2⟩ => ⟨?_, chain hb hb2⟩
  rw [he]
  simp

/-- From 0 to 65535, else the nearest. -/
def lfN (z : Int) : Nat := if z ≤ 0 then 0 else if 65535 ≤ z then 65535 else z.toNat
theorem lfN_cases (z : Int) : (z < 0 ∧ (lfN z : Int) = 0) ∨ (0 ≤ z ∧ z ≤ 65535 ∧ (lfN z : Int) = z) ∨ (65535 < z ∧ (lfN z : Int) = 65535) := by
  unfold lfN
  by_cases h1 : z < 0
  · left; rw [if_pos (by omega)]; exact ⟨h1, rfl⟩
  · by_cases h2 : z ≤ 65535
    · right; left
      refine ⟨by omega, h2, ?_⟩
      split <;> (try split) <;> omega
    · right; right
      rw [if_neg (by omega), if_pos (by omega)]; exact ⟨by omega, rfl⟩
theorem lfN_le (z : Int) : lfN z ≤ 65535 := by unfold lfN; split <;> (try split) <;> omega
/-- What the chain at place j of leaf f begins with. -/
def begB (s : ByteArray) (f j : Nat) : ByteArray := shortB (s.data.toList ++ (octs (two (f : Int)) 2 ++ octs (two (j : Int)) 1))
def begs (s : ByteArray) (f : Nat) : List ByteArray := (List.range 15).map (begB s f)
theorem begs_length (s : ByteArray) (f : Nat) : (begs s f).length = 15 := by simp [begs]
theorem begs_at (s : ByteArray) (f : Nat) {k : Nat} (h : k < 15) : (begs s f)[k]? = some (begB s f k) := by unfold begs; rw [List.getElem?_map, List.getElem?_range h]; rfl

set_option maxRecDepth 100000 in
set_option maxHeartbeats 8000000 in
theorem beginnings1_rel (m : Nat) (hm : 1 ≤ m) (s : ByteArray) (hs : s.size ≤ 140737488352000) (z : Int) (n₀ B Bs Bl : Nat) (w : World) (hB : B < w.heap.size) (hBs : Bs < n₀)
    (ks : Boxed w Bs 9 (.string s)) (kl : Boxed w Bl 3 (.int .i64 z)) :
    SeqRel Fence.wide m Try.prog 54 #[.pointer (some ⟨Bl, 0, none⟩), .pointer (some ⟨Bs, 0, none⟩)] 15 (fun k r _ => ∃ y : ByteArray, (begs s (lfN z))[k]? = some y ∧ r = #[tv y]) (fun l A B' => Below n₀ A B' ∧ ButRows 9 B l A B') w := fun l J W hW hl0 hlW hJ hY h0 => by
  have hmx : Try.prog.follows .mixedOrders = true := by kernel_rfl
  have hcs : Boxed W Bs 9 (.string s) := (hW.block Bs ks.lt).trans ks
  have hcl : Boxed W Bl 3 (.int .i64 z) := (hW.block Bl kl.lt).trans kl
  have hwW := hW.size
  have h1 : 1 ≤ m := hm
  have cl := hcl.cell
  have cs := hcs.cell
  have hCC := lfN_cases z
  have hf5 := lfN_le z
  generalize lfN z = f at *
  refine callsIn_of_wp Try.func54 rfl trivial ?_ rfl
  simp only [Try.ntmps54, List.size_toArray, List.length_cons, List.length_nil, Nat.reduceAdd, Nat.reduceSub, Array.replicate_succ, Array.replicate_zero, List.push_toArray, List.append_toArray, List.nil_append, List.cons_append]
  obtain ⟨u, hq1, hq2⟩ : ∃ u : Int, (if z < 0 then (0 : Int) else z) = u ∧ (if 65535 < u then (65535 : Int) else u) = (f : Int) := by
    refine ⟨_, rfl, ?_⟩
    rcases hCC with ⟨hc0, hC⟩ | ⟨hc0, hc8, hC⟩ | ⟨hc8, hC⟩
    · rw [hC, if_pos hc0]; rfl
    · rw [hC, if_neg (show ¬ z < 0 by omega), if_neg (by omega)]
    · rw [hC, if_neg (show ¬ z < 0 by omega), if_pos (by omega)]
  clear hCC
  clear hf5
  have HQ1 := Lib.hid hq1
  gi_wp2_with fail
  refine ⟨trivial, ?_⟩
  refine (callsIn_wide.2 (numO_any (f : Int) 2 (by omega) (by omega) _)).mono ?_
  rintro e w2 ⟨v2, rfl, hown2, hb2⟩
  rw [show clamp 2 = 2 from rfl, octs_length] at hown2
  obtain ⟨g2, c2, rfl⟩ := ownsRow_succ hown2
  clear cl cs hq1 hq2 HQ1
  gi_wp2_with fail
  gi_loopw [10] (fun i wr => ∃ k : Nat, k ≤ 15 ∧ i = .int .i64 (k : Nat) ∧ J k wr ∧ Boxed wr Bs 9 (.string s) ∧ wr.ownsRow W.heap.size 5 1 (.slice (some ⟨g2, 0, none⟩) (1 + 1) c2) 2 ((octs (two (f : Int)) 2).map bv) ∧ W.heap.size ≤ wr.heap.size) (fun i _ => 15 - (intOf i).toNat)
  case atStart => exact ⟨0, by omega, rfl, hJ 0 W w2 none h0 (grown_of_below hb2) (by simp), (hb2.block Bs hcs.lt).trans hcs, hown2, hb2.size⟩
  clear h0 hcs hcl hown2 hb2
  case round =>
    obtain ⟨k, hk, rfl, hJk, hbs, hown2, hsz⟩ := hrel
    by_cases hlt : k < 15
    · have hlt' : (k : Int) < 15 := by omega
      gi_wp2_with fail
      refine wpIn_fence_any hmx ?_
      change wpAnyIn _ _ _ _ _ _ _ _ _ wr.drew
      replace hJk := hJ k wr wr.drew none hJk ⟨rfl, rfl, rfl, Nat.le_refl _, fun _ _ _ => rfl⟩ (by simp)
      replace hbs : Boxed wr.drew Bs 9 (.string s) := hbs
      replace hown2 : wr.drew.ownsRow W.heap.size 5 1 (.slice (some ⟨g2, 0, none⟩) (1 + 1) c2) 2 ((octs (two (f : Int)) 2).map bv) := hown2
      replace hsz : W.heap.size ≤ wr.drew.heap.size := hsz
      generalize wr.drew = Y at *
      refine' wpAnyIn_take (i := 0) (oi := _) (v := _) rfl ?hi1 (by kernel_rfl) (by kernel_rfl) (by kernel_rfl) ?hQ1 ⟨Or.inl ⟨?hw1, ?hy1⟩, ?ha1⟩ ?rest1
      case hi1 => simp only [List.getElem?_toArray, List.getElem?_cons_zero]; rfl
      case hQ1 => exact fun _ _ _ h => h
      case hw1 => rfl
      case hy1 => intro W'; go_simp; with_reducible rfl
      case ha1 => intro W'; rfl
      try simp only [Act.put, List.setIfInBounds_toArray, List.set_cons_zero, List.set_cons_succ]
      refine' wpAnyIn_take (i := 3) (oi := _) (v := _) rfl ?hi2 (by kernel_rfl) (by kernel_rfl) (by kernel_rfl) ?hQ2 ⟨Or.inl ⟨?hw2, ?hy2⟩, ?ha2⟩ ?rest2
      case hi2 => simp only [List.getElem?_toArray, List.getElem?_cons_succ, List.getElem?_cons_zero]; rfl
      case hQ2 => exact fun _ _ _ h => h
      case hw2 => rfl
      case hy2 => intro W'; go_simp; with_reducible rfl
      case ha2 => intro W'; rfl
      try simp only [Act.put, List.setIfInBounds_toArray, List.set_cons_zero, List.set_cons_succ]
      refine' wpAnyIn_take (i := 4) (oi := _) (v := _) rfl ?hi3 (by kernel_rfl) (by kernel_rfl) (by kernel_rfl) ?hQ3 ⟨Or.inl ⟨?hw3, ?hy3⟩, ?ha3⟩ ?rest3
      case hi3 => simp only [List.getElem?_toArray, List.getElem?_cons_succ, List.getElem?_cons_zero]; rfl
      case hQ3 => exact fun _ _ _ h => h
      case hw3 => rfl
      case hy3 => intro W'; go_simp; with_reducible rfl
      case ha3 => intro W'; rfl
      try simp only [Act.put, List.setIfInBounds_toArray, List.set_cons_zero, List.set_cons_succ]
      refine wpAnyIn_ready (rs := [1, 5]) (by kernel_rfl) (by simp) ?_
      refine' AllReadyIn.cons (o := _) ?ho5 (fun K hK => ?st5) (AllReadyIn.cons (o := _) ?ho4 (fun K hK => ?st4) AllReadyIn.nil)
      case ho5 => simp only [List.getElem?_toArray, List.getElem?_cons_succ, List.getElem?_cons_zero]; rfl
      case ho4 => simp only [List.getElem?_toArray, List.getElem?_cons_succ, List.getElem?_cons_zero]; rfl
      case st5 =>
        have cs := hbs.cell
        go_simp
        clear cs
        refine hK _ _ ?_
        clear hK K
        try simp only [Act.put, List.setIfInBounds_toArray, List.set_cons_zero, List.set_cons_succ]
        refine wpAnyIn_ready (rs := [2, 5]) (by kernel_rfl) (by simp) ?_
        refine' AllReadyIn.cons (o := _) ?ho7 (fun K hK => ?st7) (AllReadyIn.cons (o := _) ?ho6 (fun K hK => ?st6) AllReadyIn.nil)
        case ho7 => simp only [List.getElem?_toArray, List.getElem?_cons_succ, List.getElem?_cons_zero]; rfl
        case ho6 => simp only [List.getElem?_toArray, List.getElem?_cons_succ, List.getElem?_cons_zero]; rfl
        case st7 =>
          obtain ⟨c1, Y1, hcv, hc1, hb, hz1, ho1⟩ := conv_bytes Y s
          go_simp
          clear hcv
          refine hK _ _ ?_
          clear hK K
          try simp only [Act.put, List.setIfInBounds_toArray, List.set_cons_zero, List.set_cons_succ]
          have hv1 := (conv_bsl hc1 hz1 ho1).mono (Nat.zero_le _) (Nat.le_refl _)
          clear hc1 hz1 ho1
          replace hJk := hJ k Y Y1 none hJk (grown_of_below hb) (by simp)
          replace hbs : Boxed Y1 Bs 9 (.string s) := (hb.block Bs hbs.lt).trans hbs
          replace hown2 := own_below4 hown2 hb
          replace hsz := Nat.le_trans hsz hb.size
          clear hb
          refine wpAnyIn_ready (rs := [5]) (by kernel_rfl) (by simp) ?_
          refine' AllReadyIn.cons (o := _) ?ho8 (fun K hK => ?st8) AllReadyIn.nil
          case ho8 => simp only [List.getElem?_toArray, List.getElem?_cons_succ, List.getElem?_cons_zero]; rfl
          case st8 =>
            go_simp
            refine ⟨trivial, ?_⟩
            refine (callsIn_wide.2 (num_any (k : Int) 1 (by omega) (by omega) _)).mono ?_
            rintro e Y2 ⟨v3, rfl, hv3, hb⟩
            rw [show clamp 1 = 1 from rfl] at hv3
            replace hv3 := hv3.mono (Nat.zero_le _) (Nat.le_refl _)
            obtain ⟨a3, c3, rfl⟩ := bsl_slice hv3
            refine hK _ _ ?_
            clear hK K
            try simp only [Act.put, List.setIfInBounds_toArray, List.set_cons_zero, List.set_cons_succ]
            replace hJk := hJ k Y1 Y2 none hJk (grown_of_below hb) (by simp)
            replace hbs : Boxed Y2 Bs 9 (.string s) := (hb.block Bs hbs.lt).trans hbs
            replace hown2 := own_below4 hown2 hb
            replace hsz := Nat.le_trans hsz hb.size
            replace hv1 := (hv1.below hb (Nat.le_refl _)).mono (Nat.le_refl _) hb.size
            clear hb
            refine wpAnyIn_ready (rs := [6]) (by kernel_rfl) (by simp) ?_
            refine' AllReadyIn.cons (o := _) ?ho9 (fun K hK => ?st9) AllReadyIn.nil
            case ho9 => simp only [List.getElem?_toArray, List.getElem?_cons_succ, List.getElem?_cons_zero]; rfl
            case st9 =>
              go_simp
              refine hK _ _ ?_
              clear hK K
              try simp only [Act.put, List.setIfInBounds_toArray, List.set_cons_zero, List.set_cons_succ]
              refine wpAnyIn_ready (rs := [7]) (by kernel_rfl) (by simp) ?_
              refine' AllReadyIn.cons (o := _) ?ho10 (fun K hK => ?st10) AllReadyIn.nil
              case ho10 => simp only [List.getElem?_toArray, List.getElem?_cons_succ, List.getElem?_cons_zero]; rfl
              case st10 =>
                go_simp
                refine ⟨trivial, ?_⟩
                have hv2 := (BSl.of_own (l := octs (two (f : Int)) 2) (by rw [octs_length]; exact hown2)).mono (Nat.zero_le _) (Nat.le_refl _)
                refine (callsIn_wide.2 (short_three Y2 _ _ _ s.data.toList (octs (two (f : Int)) 2) (octs (two (k : Int)) 1) hv1 hv2 hv3 (by rw [octs_length, octs_length]; have : s.data.toList.length = s.size := rfl; omega))).mono ?_
                clear hv2
                rintro e Y3 ⟨rfl, hb⟩
                refine hK _ _ ?_
                clear hK K
                try simp only [Act.put, List.setIfInBounds_toArray, List.set_cons_zero, List.set_cons_succ]
                replace hJk := hJ k Y2 Y3 none hJk (grown_of_below hb) (by simp)
                replace hbs : Boxed Y3 Bs 9 (.string s) := (hb.block Bs hbs.lt).trans hbs
                replace hown2 := own_below4 hown2 hb
                replace hsz := Nat.le_trans hsz hb.size
                clear hb hv1 hv3
                refine wpAnyIn_ready (rs := [8]) (by kernel_rfl) (by simp) ?_
                refine' AllReadyIn.cons (o := _) ?ho11 (fun K hK => ?st11) AllReadyIn.nil
                case ho11 => simp only [List.getElem?_toArray, List.getElem?_cons_succ, List.getElem?_cons_zero]; rfl
                case st11 =>
                  obtain ⟨fn, tmps, assign, body, hy, hR⟩ := hY k #[tv (begB s f k)] Y3 hlt ⟨_, begs_at s f hlt, rfl⟩ hJk
                  simp only [tv, begB] at hy
                  go_simp
                  clear hy
                  refine hR.mono ?_
                  rintro e Y4 ⟨rfl, hJ4, hkp1, hkp2⟩
                  refine hK _ _ ?_
                  clear hK K
                  try simp only [Act.put, List.setIfInBounds_toArray, List.set_cons_zero, List.set_cons_succ]
                  refine wpAnyIn_ready (rs := [9]) (by kernel_rfl) (by simp) ?_
                  refine' AllReadyIn.cons (o := _) ?ho12 (fun K hK => ?st12) AllReadyIn.nil
                  case ho12 => simp only [List.getElem?_toArray, List.getElem?_cons_succ, List.getElem?_cons_zero]; rfl
                  case st12 =>
                    go_simp
                    refine hK _ _ ?_
                    clear hK K
                    try simp only [Act.put, List.setIfInBounds_toArray, List.set_cons_zero, List.set_cons_succ]
                    refine wpAnyIn_done (by kernel_rfl) ?_ _
                    replace hbs : Boxed Y4 Bs 9 (.string s) := (hkp1.block Bs hBs).trans hbs
                    replace hown2 := own_butRows hown2 hkp2 (by decide) (by omega) (by omega)
                    replace hsz := Nat.le_trans hsz hkp1.size
                    clear hR hkp1 hkp2
                    gi_wp2_with fail
                    go_roundw
                    case rel => exact ⟨k + 1, by omega, by simp, hJ4, hbs, hown2, hsz⟩
                    case measure => simp [intOf]; omega
        case st6 =>
          go_simp
          refine ⟨trivial, ?_⟩
          refine (callsIn_wide.2 (num_any (k : Int) 1 (by omega) (by omega) _)).mono ?_
          rintro e Y1 ⟨v3, rfl, hv3, hb⟩
          rw [show clamp 1 = 1 from rfl] at hv3
          replace hv3 := hv3.mono (Nat.zero_le _) (Nat.le_refl _)
          obtain ⟨a3, c3, rfl⟩ := bsl_slice hv3
          refine hK _ _ ?_
          clear hK K
          try simp only [Act.put, List.setIfInBounds_toArray, List.set_cons_zero, List.set_cons_succ]
          replace hJk := hJ k Y Y1 none hJk (grown_of_below hb) (by simp)
          replace hbs : Boxed Y1 Bs 9 (.string s) := (hb.block Bs hbs.lt).trans hbs
          replace hown2 := own_below4 hown2 hb
          replace hsz := Nat.le_trans hsz hb.size
          clear hb
          refine wpAnyIn_ready (rs := [2]) (by kernel_rfl) (by simp) ?_
          refine' AllReadyIn.cons (o := _) ?ho13 (fun K hK => ?st13) AllReadyIn.nil
          case ho13 => simp only [List.getElem?_toArray, List.getElem?_cons_succ, List.getElem?_cons_zero]; rfl
          case st13 =>
            obtain ⟨c1, Y2, hcv, hc1, hb, hz1, ho1⟩ := conv_bytes Y1 s
            go_simp
            clear hcv
            refine hK _ _ ?_
            clear hK K
            try simp only [Act.put, List.setIfInBounds_toArray, List.set_cons_zero, List.set_cons_succ]
            have hv1 := (conv_bsl hc1 hz1 ho1).mono (Nat.zero_le _) (Nat.le_refl _)
            clear hc1 hz1 ho1
            replace hJk := hJ k Y1 Y2 none hJk (grown_of_below hb) (by simp)
            replace hbs : Boxed Y2 Bs 9 (.string s) := (hb.block Bs hbs.lt).trans hbs
            replace hown2 := own_below4 hown2 hb
            replace hsz := Nat.le_trans hsz hb.size
            replace hv3 := (hv3.below hb (Nat.le_refl _)).mono (Nat.le_refl _) hb.size
            clear hb
            refine wpAnyIn_ready (rs := [6]) (by kernel_rfl) (by simp) ?_
            refine' AllReadyIn.cons (o := _) ?ho14 (fun K hK => ?st14) AllReadyIn.nil
            case ho14 => simp only [List.getElem?_toArray, List.getElem?_cons_succ, List.getElem?_cons_zero]; rfl
            case st14 =>
              go_simp
              refine hK _ _ ?_
              clear hK K
              try simp only [Act.put, List.setIfInBounds_toArray, List.set_cons_zero, List.set_cons_succ]
              refine wpAnyIn_ready (rs := [7]) (by kernel_rfl) (by simp) ?_
              refine' AllReadyIn.cons (o := _) ?ho15 (fun K hK => ?st15) AllReadyIn.nil
              case ho15 => simp only [List.getElem?_toArray, List.getElem?_cons_succ, List.getElem?_cons_zero]; rfl
              case st15 =>
                go_simp
                refine ⟨trivial, ?_⟩
                have hv2 := (BSl.of_own (l := octs (two (f : Int)) 2) (by rw [octs_length]; exact hown2)).mono (Nat.zero_le _) (Nat.le_refl _)
                refine (callsIn_wide.2 (short_three Y2 _ _ _ s.data.toList (octs (two (f : Int)) 2) (octs (two (k : Int)) 1) hv1 hv2 hv3 (by rw [octs_length, octs_length]; have : s.data.toList.length = s.size := rfl; omega))).mono ?_
                clear hv2
                rintro e Y3 ⟨rfl, hb⟩
                refine hK _ _ ?_
                clear hK K
                try simp only [Act.put, List.setIfInBounds_toArray, List.set_cons_zero, List.set_cons_succ]
                replace hJk := hJ k Y2 Y3 none hJk (grown_of_below hb) (by simp)
                replace hbs : Boxed Y3 Bs 9 (.string s) := (hb.block Bs hbs.lt).trans hbs
                replace hown2 := own_below4 hown2 hb
                replace hsz := Nat.le_trans hsz hb.size
                clear hb hv1 hv3
                refine wpAnyIn_ready (rs := [8]) (by kernel_rfl) (by simp) ?_
                refine' AllReadyIn.cons (o := _) ?ho16 (fun K hK => ?st16) AllReadyIn.nil
                case ho16 => simp only [List.getElem?_toArray, List.getElem?_cons_succ, List.getElem?_cons_zero]; rfl
                case st16 =>
                  obtain ⟨fn, tmps, assign, body, hy, hR⟩ := hY k #[tv (begB s f k)] Y3 hlt ⟨_, begs_at s f hlt, rfl⟩ hJk
                  simp only [tv, begB] at hy
                  go_simp
                  clear hy
                  refine hR.mono ?_
                  rintro e Y4 ⟨rfl, hJ4, hkp1, hkp2⟩
                  refine hK _ _ ?_
                  clear hK K
                  try simp only [Act.put, List.setIfInBounds_toArray, List.set_cons_zero, List.set_cons_succ]
                  refine wpAnyIn_ready (rs := [9]) (by kernel_rfl) (by simp) ?_
                  refine' AllReadyIn.cons (o := _) ?ho17 (fun K hK => ?st17) AllReadyIn.nil
                  case ho17 => simp only [List.getElem?_toArray, List.getElem?_cons_succ, List.getElem?_cons_zero]; rfl
                  case st17 =>
                    go_simp
                    refine hK _ _ ?_
                    clear hK K
                    try simp only [Act.put, List.setIfInBounds_toArray, List.set_cons_zero, List.set_cons_succ]
                    refine wpAnyIn_done (by kernel_rfl) ?_ _
                    replace hbs : Boxed Y4 Bs 9 (.string s) := (hkp1.block Bs hBs).trans hbs
                    replace hown2 := own_butRows hown2 hkp2 (by decide) (by omega) (by omega)
                    replace hsz := Nat.le_trans hsz hkp1.size
                    clear hR hkp1 hkp2
                    gi_wp2_with fail
                    go_roundw
                    case rel => exact ⟨k + 1, by omega, by simp, hJ4, hbs, hown2, hsz⟩
                    case measure => simp [intOf]; omega
      case st4 =>
        go_simp
        refine ⟨trivial, ?_⟩
        refine (callsIn_wide.2 (num_any (k : Int) 1 (by omega) (by omega) _)).mono ?_
        rintro e Y1 ⟨v3, rfl, hv3, hb⟩
        rw [show clamp 1 = 1 from rfl] at hv3
        replace hv3 := hv3.mono (Nat.zero_le _) (Nat.le_refl _)
        obtain ⟨a3, c3, rfl⟩ := bsl_slice hv3
        refine hK _ _ ?_
        clear hK K
        try simp only [Act.put, List.setIfInBounds_toArray, List.set_cons_zero, List.set_cons_succ]
        replace hJk := hJ k Y Y1 none hJk (grown_of_below hb) (by simp)
        replace hbs : Boxed Y1 Bs 9 (.string s) := (hb.block Bs hbs.lt).trans hbs
        replace hown2 := own_below4 hown2 hb
        replace hsz := Nat.le_trans hsz hb.size
        clear hb
        refine wpAnyIn_ready (rs := [1]) (by kernel_rfl) (by simp) ?_
        refine' AllReadyIn.cons (o := _) ?ho18 (fun K hK => ?st18) AllReadyIn.nil
        case ho18 => simp only [List.getElem?_toArray, List.getElem?_cons_succ, List.getElem?_cons_zero]; rfl
        case st18 =>
          have cs := hbs.cell
          go_simp
          clear cs
          refine hK _ _ ?_
          clear hK K
          try simp only [Act.put, List.setIfInBounds_toArray, List.set_cons_zero, List.set_cons_succ]
          refine wpAnyIn_ready (rs := [2]) (by kernel_rfl) (by simp) ?_
          refine' AllReadyIn.cons (o := _) ?ho19 (fun K hK => ?st19) AllReadyIn.nil
          case ho19 => simp only [List.getElem?_toArray, List.getElem?_cons_succ, List.getElem?_cons_zero]; rfl
          case st19 =>
            obtain ⟨c1, Y2, hcv, hc1, hb, hz1, ho1⟩ := conv_bytes Y1 s
            go_simp
            clear hcv
            refine hK _ _ ?_
            clear hK K
            try simp only [Act.put, List.setIfInBounds_toArray, List.set_cons_zero, List.set_cons_succ]
            have hv1 := (conv_bsl hc1 hz1 ho1).mono (Nat.zero_le _) (Nat.le_refl _)
            clear hc1 hz1 ho1
            replace hJk := hJ k Y1 Y2 none hJk (grown_of_below hb) (by simp)
            replace hbs : Boxed Y2 Bs 9 (.string s) := (hb.block Bs hbs.lt).trans hbs
            replace hown2 := own_below4 hown2 hb
            replace hsz := Nat.le_trans hsz hb.size
            replace hv3 := (hv3.below hb (Nat.le_refl _)).mono (Nat.le_refl _) hb.size
            clear hb
            refine wpAnyIn_ready (rs := [6]) (by kernel_rfl) (by simp) ?_
            refine' AllReadyIn.cons (o := _) ?ho20 (fun K hK => ?st20) AllReadyIn.nil
            case ho20 => simp only [List.getElem?_toArray, List.getElem?_cons_succ, List.getElem?_cons_zero]; rfl
            case st20 =>
              go_simp
              refine hK _ _ ?_
              clear hK K
              try simp only [Act.put, List.setIfInBounds_toArray, List.set_cons_zero, List.set_cons_succ]
              refine wpAnyIn_ready (rs := [7]) (by kernel_rfl) (by simp) ?_
              refine' AllReadyIn.cons (o := _) ?ho21 (fun K hK => ?st21) AllReadyIn.nil
              case ho21 => simp only [List.getElem?_toArray, List.getElem?_cons_succ, List.getElem?_cons_zero]; rfl
              case st21 =>
                go_simp
                refine ⟨trivial, ?_⟩
                have hv2 := (BSl.of_own (l := octs (two (f : Int)) 2) (by rw [octs_length]; exact hown2)).mono (Nat.zero_le _) (Nat.le_refl _)
                refine (callsIn_wide.2 (short_three Y2 _ _ _ s.data.toList (octs (two (f : Int)) 2) (octs (two (k : Int)) 1) hv1 hv2 hv3 (by rw [octs_length, octs_length]; have : s.data.toList.length = s.size := rfl; omega))).mono ?_
                clear hv2
                rintro e Y3 ⟨rfl, hb⟩
                refine hK _ _ ?_
                clear hK K
                try simp only [Act.put, List.setIfInBounds_toArray, List.set_cons_zero, List.set_cons_succ]
                replace hJk := hJ k Y2 Y3 none hJk (grown_of_below hb) (by simp)
                replace hbs : Boxed Y3 Bs 9 (.string s) := (hb.block Bs hbs.lt).trans hbs
                replace hown2 := own_below4 hown2 hb
                replace hsz := Nat.le_trans hsz hb.size
                clear hb hv1 hv3
                refine wpAnyIn_ready (rs := [8]) (by kernel_rfl) (by simp) ?_
                refine' AllReadyIn.cons (o := _) ?ho22 (fun K hK => ?st22) AllReadyIn.nil
                case ho22 => simp only [List.getElem?_toArray, List.getElem?_cons_succ, List.getElem?_cons_zero]; rfl
                case st22 =>
                  obtain ⟨fn, tmps, assign, body, hy, hR⟩ := hY k #[tv (begB s f k)] Y3 hlt ⟨_, begs_at s f hlt, rfl⟩ hJk
                  simp only [tv, begB] at hy
                  go_simp
                  clear hy
                  refine hR.mono ?_
                  rintro e Y4 ⟨rfl, hJ4, hkp1, hkp2⟩
                  refine hK _ _ ?_
                  clear hK K
                  try simp only [Act.put, List.setIfInBounds_toArray, List.set_cons_zero, List.set_cons_succ]
                  refine wpAnyIn_ready (rs := [9]) (by kernel_rfl) (by simp) ?_
                  refine' AllReadyIn.cons (o := _) ?ho23 (fun K hK => ?st23) AllReadyIn.nil
                  case ho23 => simp only [List.getElem?_toArray, List.getElem?_cons_succ, List.getElem?_cons_zero]; rfl
                  case st23 =>
                    go_simp
                    refine hK _ _ ?_
                    clear hK K
                    try simp only [Act.put, List.setIfInBounds_toArray, List.set_cons_zero, List.set_cons_succ]
                    refine wpAnyIn_done (by kernel_rfl) ?_ _
                    replace hbs : Boxed Y4 Bs 9 (.string s) := (hkp1.block Bs hBs).trans hbs
                    replace hown2 := own_butRows hown2 hkp2 (by decide) (by omega) (by omega)
                    replace hsz := Nat.le_trans hsz hkp1.size
                    clear hR hkp1 hkp2
                    gi_wp2_with fail
                    go_roundw
                    case rel => exact ⟨k + 1, by omega, by simp, hJ4, hbs, hown2, hsz⟩
                    case measure => simp [intOf]; omega
    · obtain rfl : k = 15 := by omega
      gi_wp2_with fail
      go_end0
      exact ⟨⟨_, rfl⟩, hJk⟩

set_option maxHeartbeats 1000000 in
theorem beginnings_in (F : Fence) (m : Nat) (h : F.fn 32) (hro : F.round = none) (s : ByteArray) (z : Int) (w : World) :
    CallsIn F m Try.prog 32 #[.string s, .int .i64 z] w fun e w' => e = .returned (.func (.func 54) #[] #[.pointer (some ⟨w.heap.size + 1, 0, none⟩), .pointer (some ⟨w.heap.size, 0, none⟩)]) ∧ w' = (w.alloc (.cells #[.string s] 9)).alloc (.cells #[.int .i64 z] 3) := by
  refine callsIn_of_wp Try.func32 rfl h ?_ hro
  simp only [Try.ntmps32, List.size_toArray, List.length_cons, List.length_nil, Nat.reduceAdd, Nat.reduceSub, Array.replicate_succ, Array.replicate_zero, List.push_toArray, List.append_toArray, List.nil_append, List.cons_append]
  gi_wp2
  go_ret
  exact ⟨rfl, rfl⟩

set_option maxHeartbeats 2000000 in
theorem begin_in (m : Nat) (hm : 7 ≤ m) (s : ByteArray) (hs : s.size ≤ 140737488352000) (z : Int) (w : World) :
    CallsIn Fence.wide m Try.prog 14 #[.string s, .int .i64 z] w (RowW w.heap.size 9 15 ((begs s (lfN z)).map tv) w) := by
  have h1 : 1 ≤ m := by omega
  refine callsIn_of_wp Try.func14 rfl trivial ?_ rfl
  simp only [Try.ntmps14, List.size_toArray, List.length_cons, List.length_nil, Nat.reduceAdd, Nat.reduceSub, Array.replicate_succ, Array.replicate_zero, List.push_toArray, List.append_toArray, List.nil_append, List.cons_append]
  have hbl : (begs s (lfN z)).length ≤ 1000000 := by rw [begs_length]; omega
  gi_wp2_with (first
    | (refine ⟨trivial, ?_⟩; gi_at_call 32; refine (beginnings_in Fence.wide (m - 1) trivial rfl _ _ _).mono ?_; rintro e w1 ⟨rfl, hw1⟩; have ks : Boxed w1 w.heap.size 9 (.string s) := (by rw [hw1]; exact (Boxed.new _ _ _).alloc _); have kl : Boxed w1 (w.heap.size + 1) 3 (.int .i64 z) := (by rw [hw1]; exact Blk.new' (vs := [.int .i64 z]) (by simp)); have hb1 : Below w.heap.size w w1 := (by rw [hw1]; exact chainA (chain0 _ _) _); clear hw1)
    | (refine ⟨trivial, ?_⟩; gi_at_call 31; refine (collectT_in (m - 1) (by omega) (begs s (lfN z)) hbl w1 _ _ (enters_of Try.func54 (by kernel_rfl) rfl) (fun W hW hlt => by
        rw [begs_length]
        exact beginnings1_rel (m - 1 - 1 - 1) (by omega) s hs z w1.heap.size w1.heap.size w.heap.size (w.heap.size + 1) W hlt ks.lt ((hW.block _ ks.lt).trans ks) ((hW.block _ kl.lt).trans kl))).mono ?_; rintro e w2 ⟨v2, rfl, hown2, hb2⟩; rw [begs_length] at hown2; obtain ⟨g2, c2, rfl⟩ := ownsRow_succ hown2))
  go_ret
  exact ⟨_, rfl, own_base hown2 hb1.size, chain hb1 hb2⟩

theorem begin_any (s : ByteArray) (hs : s.size ≤ 140737488352000) (z : Int) (w : World) :
    Calls Try.prog 14 #[.string s, .int .i64 z] w (RowW w.heap.size 9 15 ((begs s (lfN z)).map tv) w) := callsIn_wide.1 (begin_in 7 (by omega) s hs z w)
end Go.Proofs.Ytneilnfjnbecbaa
