/-
  A region that draws, inside a fence of activations: operation by operation; ots.beginnings: what a leaf's chains begin with, one by one; ots.Begin; ots.chain: a text's chain, link by link; ots.Walk; slices.All over strings: each with its place; ots.walkAll: each part, walked as many steps as are told of its place
-/
import Derived.OrdersIn
import Derived.WalkKit
import Derived.CallsIn
import Derived.TacticsInMore
import Derived.Outline
import Derived.Test.YtechcdkakgpnkaaGreatK09
namespace Go.Proofs.YtechcdkakgpnkaaGreat
open Go.RowKit
theorem wpIn_fence_any {F : Fence} {n id : Nat} {P : Program} {Q : Exit → Act → World → Prop} {a : Act} {w : World} {l : List Oper} (hm : P.follows .mixedOrders = true)
    (h : wpAnyIn F n P .any l.toArray (Exit.then (fun a w => Q .normal a w) (fun _ _ _ => False)) l.length (Array.replicate l.length false) a w.drew) : (Code.region id l.toArray true).wpIn F n P Q a w := by
  refine wpIn_mono (wpIn_region_any (Q := Exit.then (fun a w => Q .normal a w) (fun _ _ _ => False)) hm (by simpa using h)) ?_
  intro e a w hq
  cases e <;> first | exact hq | exact hq.elim
end Go.Proofs.YtechcdkakgpnkaaGreat
namespace Go.Proofs.YtechcdkakgpnkaaGreat
open Go.RowKit Go.Shelf
attribute [local go_sem] Oper.semAt_some
theorem short_three (W : World) (v1 v2 v3 : Value) (l1 l2 l3 : List UInt8) (h1 : BSl 0 W.heap.size W v1 l1) (h2 : BSl 0 W.heap.size W v2 l2) (h3 : BSl 0 W.heap.size W v3 l3) (hl : l1.length + l2.length + l3.length ≤ 140737488353000) :
    Calls Tryz.prog 173 #[.slice (some ⟨W.heap.size, 0, none⟩) 3 3] (W.alloc (.cells #[v1, v2, v3] 35)) fun e W' => e = .returned (.string (shortB (l1 ++ (l2 ++ l3)))) ∧ Below W.heap.size W W' := by
  have hb : Below W.heap.size W (W.alloc (.cells #[v1, v2, v3] 35)) := chain0 _ _
  have up : ∀ {v : Value} {l : List UInt8}, BSl 0 W.heap.size W v l → BSl 0 (W.alloc (.cells #[v1, v2, v3] 35)).heap.size (W.alloc (.cells #[v1, v2, v3] 35)) v l := fun h => (h.below hb (Nat.le_refl _)).mono (Nat.le_refl _) hb.size
  have hs := short_of (W.alloc (.cells #[v1, v2, v3] 35)) (.slice (some ⟨W.heap.size, 0, none⟩) 3 3) [(v1, l1), (v2, l2), (v3, l3)] (by simp) (fun p hp => by
    simp only [List.mem_cons, List.not_mem_nil, or_false] at hp
    rcases hp with rfl | rfl | rfl
    · exact ⟨up h1, by show l1.length ≤ _; omega⟩
    · exact ⟨up h2, by show l2.length ≤ _; omega⟩
    · exact ⟨up h3, by show l3.length ≤ _; omega⟩) (by simp; omega) ⟨_, 3, rfl, Nat.le_refl _, .inr ⟨_, 0, rfl, Nat.zero_le _, by simp, fun k x hx => by
      have hB : Blk (W.alloc (.cells #[v1, v2, v3] 35)) W.heap.size 35 [v1, v2, v3] := Blk.new W _ [v1, v2, v3]
      rw [Nat.zero_add, hB.cell]
      exact hx⟩⟩
  refine hs.mono fun e W' ⟨he, hb2⟩ => ⟨?_, chain hb hb2⟩
  rw [he]
  simp
def lfN (z : Int) : Nat := if z ≤ 0 then 0 else if 65535 ≤ z then 65535 else z.toNat
theorem lfN_cases (z : Int) : (z < 0 ∧ (lfN z : Int) = 0) ∨ (0 ≤ z ∧ z ≤ 65535 ∧ (lfN z : Int) = z) ∨ (65535 < z ∧ (lfN z : Int) = 65535) := by
  unfold lfN
  by_cases h1 : z < 0
  · left; rw [if_pos (by omega)]; exact ⟨h1, rfl⟩
  · by_cases h2 : z ≤ 65535
    · right; left
      refine ⟨by omega, h2, ?_⟩
      split <;> (try split) <;> omega
    · right; right
      rw [if_neg (by omega), if_pos (by omega)]; exact ⟨by omega, rfl⟩
theorem lfN_le (z : Int) : lfN z ≤ 65535 := by unfold lfN; split <;> (try split) <;> omega
def begB (s : ByteArray) (f j : Nat) : ByteArray := shortB (s.data.toList ++ (octs (two (f : Int)) 2 ++ octs (two (j : Int)) 1))
def begs (s : ByteArray) (f : Nat) : List ByteArray := (List.range 15).map (begB s f)
theorem begs_length (s : ByteArray) (f : Nat) : (begs s f).length = 15 := by simp [begs]
theorem begs_at (s : ByteArray) (f : Nat) {k : Nat} (h : k < 15) : (begs s f)[k]? = some (begB s f k) := by unfold begs; rw [List.getElem?_map, List.getElem?_range h]; rfl
set_option maxRecDepth 100000 in
set_option maxHeartbeats 8000000 in
theorem beginnings1_rel (m : Nat) (hm : 1 ≤ m) (s : ByteArray) (hs : s.size ≤ 140737488352000) (z : Int) (n₀ B Bs Bl : Nat) (w : World) (hB : B < w.heap.size) (hBs : Bs < n₀)
    (ks : Boxed w Bs 9 (.string s)) (kl : Boxed w Bl 3 (.int .i64 z)) :
    SeqRel Fence.wide m Tryz.prog 213 #[.pointer (some ⟨Bl, 0, none⟩), .pointer (some ⟨Bs, 0, none⟩)] 15 (fun k r _ => ∃ y : ByteArray, (begs s (lfN z))[k]? = some y ∧ r = #[tv y]) (fun l A B' => Below n₀ A B' ∧ ButRows 9 B l A B') w := fun l J W hW hl0 hlW hJ hY h0 => by
  have hmx : Tryz.prog.follows .mixedOrders = true := by kernel_rfl
  have hcs : Boxed W Bs 9 (.string s) := (hW.block Bs ks.lt).trans ks
  have hcl : Boxed W Bl 3 (.int .i64 z) := (hW.block Bl kl.lt).trans kl
  have hwW := hW.size
  have h1 : 1 ≤ m := hm
  have cl := hcl.cell
  have cs := hcs.cell
  have hCC := lfN_cases z
  have hf5 := lfN_le z
  generalize lfN z = f at *
  refine callsIn_of_wp Tryz.func213 rfl trivial ?_ rfl
  simp only [Tryz.ntmps213, List.size_toArray, List.length_cons, List.length_nil, Nat.reduceAdd, Nat.reduceSub, Array.replicate_succ, Array.replicate_zero, List.push_toArray, List.append_toArray, List.nil_append, List.cons_append]
  obtain ⟨u, hq1, hq2⟩ : ∃ u : Int, (if z < 0 then (0 : Int) else z) = u ∧ (if 65535 < u then (65535 : Int) else u) = (f : Int) := by
    refine ⟨_, rfl, ?_⟩
    rcases hCC with ⟨hc0, hC⟩ | ⟨hc0, hc8, hC⟩ | ⟨hc8, hC⟩
    · rw [hC, if_pos hc0]; rfl
    · rw [hC, if_neg (show ¬ z < 0 by omega), if_neg (by omega)]
    · rw [hC, if_neg (show ¬ z < 0 by omega), if_pos (by omega)]
  clear hCC
  clear hf5
  have HQ1 := Lib.hid hq1
  gi_wp2_with fail
  refine ⟨trivial, ?_⟩
  refine (callsIn_wide.2 (numO_any (f : Int) 2 (by omega) (by omega) _)).mono ?_
  rintro e w2 ⟨v2, rfl, hown2, hb2⟩
  rw [show clamp 2 = 2 from rfl, octs_length] at hown2
  obtain ⟨g2, c2, rfl⟩ := ownsRow_succ hown2
  clear cl cs hq1 hq2 HQ1
  gi_wp2_with fail
  gi_loopw [10] (fun i wr => ∃ k : Nat, k ≤ 15 ∧ i = .int .i64 (k : Nat) ∧ J k wr ∧ Boxed wr Bs 9 (.string s) ∧ wr.ownsRow W.heap.size 5 1 (.slice (some ⟨g2, 0, none⟩) (1 + 1) c2) 2 ((octs (two (f : Int)) 2).map bv) ∧ W.heap.size ≤ wr.heap.size) (fun i _ => 15 - (intOf i).toNat)
  case atStart => exact ⟨0, by omega, rfl, hJ 0 W w2 none h0 (grown_of_below hb2) (by simp), (hb2.block Bs hcs.lt).trans hcs, hown2, hb2.size⟩
  clear h0 hcs hcl hown2 hb2
  case round =>
    obtain ⟨k, hk, rfl, hJk, hbs, hown2, hsz⟩ := hrel
    by_cases hlt : k < 15
    · have hlt' : (k : Int) < 15 := by omega
      gi_wp2_with fail
      refine wpIn_fence_any hmx ?_
      change wpAnyIn _ _ _ _ _ _ _ _ _ wr.drew
      replace hJk := hJ k wr wr.drew none hJk ⟨rfl, rfl, rfl, Nat.le_refl _, fun _ _ _ => rfl⟩ (by simp)
      replace hbs : Boxed wr.drew Bs 9 (.string s) := hbs
      replace hown2 : wr.drew.ownsRow W.heap.size 5 1 (.slice (some ⟨g2, 0, none⟩) (1 + 1) c2) 2 ((octs (two (f : Int)) 2).map bv) := hown2
      replace hsz : W.heap.size ≤ wr.drew.heap.size := hsz
      generalize wr.drew = Y at *
      refine' wpAnyIn_take (i := 0) (oi := _) (v := _) rfl ?hi1 (by kernel_rfl) (by kernel_rfl) (by kernel_rfl) ?hQ1 ⟨Or.inl ⟨?hw1, ?hy1⟩, ?ha1⟩ ?rest1
      case hi1 => simp only [List.getElem?_toArray, List.getElem?_cons_zero]; rfl
      case hQ1 => exact fun _ _ _ h => h
      case hw1 => rfl
      case hy1 => intro W'; go_simp; with_reducible rfl
      case ha1 => intro W'; rfl
      try simp only [Act.put, List.setIfInBounds_toArray, List.set_cons_zero, List.set_cons_succ]
      refine' wpAnyIn_take (i := 3) (oi := _) (v := _) rfl ?hi2 (by kernel_rfl) (by kernel_rfl) (by kernel_rfl) ?hQ2 ⟨Or.inl ⟨?hw2, ?hy2⟩, ?ha2⟩ ?rest2
      case hi2 => simp only [List.getElem?_toArray, List.getElem?_cons_succ, List.getElem?_cons_zero]; rfl
      case hQ2 => exact fun _ _ _ h => h
      case hw2 => rfl
      case hy2 => intro W'; go_simp; with_reducible rfl
      case ha2 => intro W'; rfl
      try simp only [Act.put, List.setIfInBounds_toArray, List.set_cons_zero, List.set_cons_succ]
      refine' wpAnyIn_take (i := 4) (oi := _) (v := _) rfl ?hi3 (by kernel_rfl) (by kernel_rfl) (by kernel_rfl) ?hQ3 ⟨Or.inl ⟨?hw3, ?hy3⟩, ?ha3⟩ ?rest3
      case hi3 => simp only [List.getElem?_toArray, List.getElem?_cons_succ, List.getElem?_cons_zero]; rfl
      case hQ3 => exact fun _ _ _ h => h
      case hw3 => rfl
      case hy3 => intro W'; go_simp; with_reducible rfl
      case ha3 => intro W'; rfl
      try simp only [Act.put, List.setIfInBounds_toArray, List.set_cons_zero, List.set_cons_succ]
      refine wpAnyIn_ready (rs := [1, 5]) (by kernel_rfl) (by simp) ?_
      refine' AllReadyIn.cons (o := _) ?ho5 (fun K hK => ?st5) (AllReadyIn.cons (o := _) ?ho4 (fun K hK => ?st4) AllReadyIn.nil)
      case ho5 => simp only [List.getElem?_toArray, List.getElem?_cons_succ, List.getElem?_cons_zero]; rfl
      case ho4 => simp only [List.getElem?_toArray, List.getElem?_cons_succ, List.getElem?_cons_zero]; rfl
      case st5 =>
        have cs := hbs.cell
        go_simp
        clear cs
        refine hK _ _ ?_
        clear hK K
        try simp only [Act.put, List.setIfInBounds_toArray, List.set_cons_zero, List.set_cons_succ]
        refine wpAnyIn_ready (rs := [2, 5]) (by kernel_rfl) (by simp) ?_
        refine' AllReadyIn.cons (o := _) ?ho7 (fun K hK => ?st7) (AllReadyIn.cons (o := _) ?ho6 (fun K hK => ?st6) AllReadyIn.nil)
        case ho7 => simp only [List.getElem?_toArray, List.getElem?_cons_succ, List.getElem?_cons_zero]; rfl
        case ho6 => simp only [List.getElem?_toArray, List.getElem?_cons_succ, List.getElem?_cons_zero]; rfl
        case st7 =>
          obtain ⟨c1, Y1, hcv, hc1, hb, hz1, ho1⟩ := conv_bytes Y s
          go_simp
          clear hcv
          refine hK _ _ ?_
          clear hK K
          try simp only [Act.put, List.setIfInBounds_toArray, List.set_cons_zero, List.set_cons_succ]
          have hv1 := (conv_bsl hc1 hz1 ho1).mono (Nat.zero_le _) (Nat.le_refl _)
          clear hc1 hz1 ho1
          replace hJk := hJ k Y Y1 none hJk (grown_of_below hb) (by simp)
          replace hbs : Boxed Y1 Bs 9 (.string s) := (hb.block Bs hbs.lt).trans hbs
          replace hown2 := own_below4 hown2 hb
          replace hsz := Nat.le_trans hsz hb.size
          clear hb
          refine wpAnyIn_ready (rs := [5]) (by kernel_rfl) (by simp) ?_
          refine' AllReadyIn.cons (o := _) ?ho8 (fun K hK => ?st8) AllReadyIn.nil
          case ho8 => simp only [List.getElem?_toArray, List.getElem?_cons_succ, List.getElem?_cons_zero]; rfl
          case st8 =>
            go_simp
            refine ⟨trivial, ?_⟩
            refine (callsIn_wide.2 (num_any (k : Int) 1 (by omega) (by omega) _)).mono ?_
            rintro e Y2 ⟨v3, rfl, hv3, hb⟩
            rw [show clamp 1 = 1 from rfl] at hv3
            replace hv3 := hv3.mono (Nat.zero_le _) (Nat.le_refl _)
            obtain ⟨a3, c3, rfl⟩ := bsl_slice hv3
            refine hK _ _ ?_
            clear hK K
            try simp only [Act.put, List.setIfInBounds_toArray, List.set_cons_zero, List.set_cons_succ]
            replace hJk := hJ k Y1 Y2 none hJk (grown_of_below hb) (by simp)
            replace hbs : Boxed Y2 Bs 9 (.string s) := (hb.block Bs hbs.lt).trans hbs
            replace hown2 := own_below4 hown2 hb
            replace hsz := Nat.le_trans hsz hb.size
            replace hv1 := (hv1.below hb (Nat.le_refl _)).mono (Nat.le_refl _) hb.size
            clear hb
            refine wpAnyIn_ready (rs := [6]) (by kernel_rfl) (by simp) ?_
            refine' AllReadyIn.cons (o := _) ?ho9 (fun K hK => ?st9) AllReadyIn.nil
            case ho9 => simp only [List.getElem?_toArray, List.getElem?_cons_succ, List.getElem?_cons_zero]; rfl
            case st9 =>
              go_simp
              refine hK _ _ ?_
              clear hK K
              try simp only [Act.put, List.setIfInBounds_toArray, List.set_cons_zero, List.set_cons_succ]
              refine wpAnyIn_ready (rs := [7]) (by kernel_rfl) (by simp) ?_
              refine' AllReadyIn.cons (o := _) ?ho10 (fun K hK => ?st10) AllReadyIn.nil
              case ho10 => simp only [List.getElem?_toArray, List.getElem?_cons_succ, List.getElem?_cons_zero]; rfl
              case st10 =>
                go_simp
                refine ⟨trivial, ?_⟩
                have hv2 := (BSl.of_own (l := octs (two (f : Int)) 2) (by rw [octs_length]; exact hown2)).mono (Nat.zero_le _) (Nat.le_refl _)
                refine (callsIn_wide.2 (short_three Y2 _ _ _ s.data.toList (octs (two (f : Int)) 2) (octs (two (k : Int)) 1) hv1 hv2 hv3 (by rw [octs_length, octs_length]; have : s.data.toList.length = s.size := rfl; omega))).mono ?_
                clear hv2
                rintro e Y3 ⟨rfl, hb⟩
                refine hK _ _ ?_
                clear hK K
                try simp only [Act.put, List.setIfInBounds_toArray, List.set_cons_zero, List.set_cons_succ]
                replace hJk := hJ k Y2 Y3 none hJk (grown_of_below hb) (by simp)
                replace hbs : Boxed Y3 Bs 9 (.string s) := (hb.block Bs hbs.lt).trans hbs
                replace hown2 := own_below4 hown2 hb
                replace hsz := Nat.le_trans hsz hb.size
                clear hb hv1 hv3
                refine wpAnyIn_ready (rs := [8]) (by kernel_rfl) (by simp) ?_
                refine' AllReadyIn.cons (o := _) ?ho11 (fun K hK => ?st11) AllReadyIn.nil
                case ho11 => simp only [List.getElem?_toArray, List.getElem?_cons_succ, List.getElem?_cons_zero]; rfl
                case st11 =>
                  obtain ⟨fn, tmps, assign, body, hy, hR⟩ := hY k #[tv (begB s f k)] Y3 hlt ⟨_, begs_at s f hlt, rfl⟩ hJk
                  simp only [tv, begB] at hy
                  go_simp
                  clear hy
                  refine hR.mono ?_
                  rintro e Y4 ⟨rfl, hJ4, hkp1, hkp2⟩
                  refine hK _ _ ?_
                  clear hK K
                  try simp only [Act.put, List.setIfInBounds_toArray, List.set_cons_zero, List.set_cons_succ]
                  refine wpAnyIn_ready (rs := [9]) (by kernel_rfl) (by simp) ?_
                  refine' AllReadyIn.cons (o := _) ?ho12 (fun K hK => ?st12) AllReadyIn.nil
                  case ho12 => simp only [List.getElem?_toArray, List.getElem?_cons_succ, List.getElem?_cons_zero]; rfl
                  case st12 =>
                    go_simp
                    refine hK _ _ ?_
                    clear hK K
                    try simp only [Act.put, List.setIfInBounds_toArray, List.set_cons_zero, List.set_cons_succ]
                    refine wpAnyIn_done (by kernel_rfl) ?_ _
                    replace hbs : Boxed Y4 Bs 9 (.string s) := (hkp1.block Bs hBs).trans hbs
                    replace hown2 := own_butRows hown2 hkp2 (by decide) (by omega) (by omega)
                    replace hsz := Nat.le_trans hsz hkp1.size
                    clear hR hkp1 hkp2
                    gi_wp2_with fail
                    go_roundw
                    case rel => exact ⟨k + 1, by omega, by simp, hJ4, hbs, hown2, hsz⟩
                    case measure => simp [intOf]; omega
        case st6 =>
          go_simp
          refine ⟨trivial, ?_⟩
          refine (callsIn_wide.2 (num_any (k : Int) 1 (by omega) (by omega) _)).mono ?_
          rintro e Y1 ⟨v3, rfl, hv3, hb⟩
          rw [show clamp 1 = 1 from rfl] at hv3
          replace hv3 := hv3.mono (Nat.zero_le _) (Nat.le_refl _)
          obtain ⟨a3, c3, rfl⟩ := bsl_slice hv3
          refine hK _ _ ?_
          clear hK K
          try simp only [Act.put, List.setIfInBounds_toArray, List.set_cons_zero, List.set_cons_succ]
          replace hJk := hJ k Y Y1 none hJk (grown_of_below hb) (by simp)
          replace hbs : Boxed Y1 Bs 9 (.string s) := (hb.block Bs hbs.lt).trans hbs
          replace hown2 := own_below4 hown2 hb
          replace hsz := Nat.le_trans hsz hb.size
          clear hb
          refine wpAnyIn_ready (rs := [2]) (by kernel_rfl) (by simp) ?_
          refine' AllReadyIn.cons (o := _) ?ho13 (fun K hK => ?st13) AllReadyIn.nil
          case ho13 => simp only [List.getElem?_toArray, List.getElem?_cons_succ, List.getElem?_cons_zero]; rfl
          case st13 =>
            obtain ⟨c1, Y2, hcv, hc1, hb, hz1, ho1⟩ := conv_bytes Y1 s
            go_simp
            clear hcv
            refine hK _ _ ?_
            clear hK K
            try simp only [Act.put, List.setIfInBounds_toArray, List.set_cons_zero, List.set_cons_succ]
            have hv1 := (conv_bsl hc1 hz1 ho1).mono (Nat.zero_le _) (Nat.le_refl _)
            clear hc1 hz1 ho1
            replace hJk := hJ k Y1 Y2 none hJk (grown_of_below hb) (by simp)
            replace hbs : Boxed Y2 Bs 9 (.string s) := (hb.block Bs hbs.lt).trans hbs
            replace hown2 := own_below4 hown2 hb
            replace hsz := Nat.le_trans hsz hb.size
            replace hv3 := (hv3.below hb (Nat.le_refl _)).mono (Nat.le_refl _) hb.size
            clear hb
            refine wpAnyIn_ready (rs := [6]) (by kernel_rfl) (by simp) ?_
            refine' AllReadyIn.cons (o := _) ?ho14 (fun K hK => ?st14) AllReadyIn.nil
            case ho14 => simp only [List.getElem?_toArray, List.getElem?_cons_succ, List.getElem?_cons_zero]; rfl
            case st14 =>
              go_simp
              refine hK _ _ ?_
              clear hK K
              try simp only [Act.put, List.setIfInBounds_toArray, List.set_cons_zero, List.set_cons_succ]
              refine wpAnyIn_ready (rs := [7]) (by kernel_rfl) (by simp) ?_
              refine' AllReadyIn.cons (o := _) ?ho15 (fun K hK => ?st15) AllReadyIn.nil
              case ho15 => simp only [List.getElem?_toArray, List.getElem?_cons_succ, List.getElem?_cons_zero]; rfl
              case st15 =>
                go_simp
                refine ⟨trivial, ?_⟩
                have hv2 := (BSl.of_own (l := octs (two (f : Int)) 2) (by rw [octs_length]; exact hown2)).mono (Nat.zero_le _) (Nat.le_refl _)
                refine (callsIn_wide.2 (short_three Y2 _ _ _ s.data.toList (octs (two (f : Int)) 2) (octs (two (k : Int)) 1) hv1 hv2 hv3 (by rw [octs_length, octs_length]; have : s.data.toList.length = s.size := rfl; omega))).mono ?_
                clear hv2
                rintro e Y3 ⟨rfl, hb⟩
                refine hK _ _ ?_
                clear hK K
                try simp only [Act.put, List.setIfInBounds_toArray, List.set_cons_zero, List.set_cons_succ]
                replace hJk := hJ k Y2 Y3 none hJk (grown_of_below hb) (by simp)
                replace hbs : Boxed Y3 Bs 9 (.string s) := (hb.block Bs hbs.lt).trans hbs
                replace hown2 := own_below4 hown2 hb
                replace hsz := Nat.le_trans hsz hb.size
                clear hb hv1 hv3
                refine wpAnyIn_ready (rs := [8]) (by kernel_rfl) (by simp) ?_
                refine' AllReadyIn.cons (o := _) ?ho16 (fun K hK => ?st16) AllReadyIn.nil
                case ho16 => simp only [List.getElem?_toArray, List.getElem?_cons_succ, List.getElem?_cons_zero]; rfl
                case st16 =>
                  obtain ⟨fn, tmps, assign, body, hy, hR⟩ := hY k #[tv (begB s f k)] Y3 hlt ⟨_, begs_at s f hlt, rfl⟩ hJk
                  simp only [tv, begB] at hy
                  go_simp
                  clear hy
                  refine hR.mono ?_
                  rintro e Y4 ⟨rfl, hJ4, hkp1, hkp2⟩
                  refine hK _ _ ?_
                  clear hK K
                  try simp only [Act.put, List.setIfInBounds_toArray, List.set_cons_zero, List.set_cons_succ]
                  refine wpAnyIn_ready (rs := [9]) (by kernel_rfl) (by simp) ?_
                  refine' AllReadyIn.cons (o := _) ?ho17 (fun K hK => ?st17) AllReadyIn.nil
                  case ho17 => simp only [List.getElem?_toArray, List.getElem?_cons_succ, List.getElem?_cons_zero]; rfl
                  case st17 =>
                    go_simp
                    refine hK _ _ ?_
                    clear hK K
                    try simp only [Act.put, List.setIfInBounds_toArray, List.set_cons_zero, List.set_cons_succ]
                    refine wpAnyIn_done (by kernel_rfl) ?_ _
                    replace hbs : Boxed Y4 Bs 9 (.string s) := (hkp1.block Bs hBs).trans hbs
                    replace hown2 := own_butRows hown2 hkp2 (by decide) (by omega) (by omega)
                    replace hsz := Nat.le_trans hsz hkp1.size
                    clear hR hkp1 hkp2
                    gi_wp2_with fail
                    go_roundw
                    case rel => exact ⟨k + 1, by omega, by simp, hJ4, hbs, hown2, hsz⟩
                    case measure => simp [intOf]; omega
      case st4 =>
        go_simp
        refine ⟨trivial, ?_⟩
        refine (callsIn_wide.2 (num_any (k : Int) 1 (by omega) (by omega) _)).mono ?_
        rintro e Y1 ⟨v3, rfl, hv3, hb⟩
        rw [show clamp 1 = 1 from rfl] at hv3
        replace hv3 := hv3.mono (Nat.zero_le _) (Nat.le_refl _)
        obtain ⟨a3, c3, rfl⟩ := bsl_slice hv3
        refine hK _ _ ?_
        clear hK K
        try simp only [Act.put, List.setIfInBounds_toArray, List.set_cons_zero, List.set_cons_succ]
        replace hJk := hJ k Y Y1 none hJk (grown_of_below hb) (by simp)
        replace hbs : Boxed Y1 Bs 9 (.string s) := (hb.block Bs hbs.lt).trans hbs
        replace hown2 := own_below4 hown2 hb
        replace hsz := Nat.le_trans hsz hb.size
        clear hb
        refine wpAnyIn_ready (rs := [1]) (by kernel_rfl) (by simp) ?_
        refine' AllReadyIn.cons (o := _) ?ho18 (fun K hK => ?st18) AllReadyIn.nil
        case ho18 => simp only [List.getElem?_toArray, List.getElem?_cons_succ, List.getElem?_cons_zero]; rfl
        case st18 =>
          have cs := hbs.cell
          go_simp
          clear cs
          refine hK _ _ ?_
          clear hK K
          try simp only [Act.put, List.setIfInBounds_toArray, List.set_cons_zero, List.set_cons_succ]
          refine wpAnyIn_ready (rs := [2]) (by kernel_rfl) (by simp) ?_
          refine' AllReadyIn.cons (o := _) ?ho19 (fun K hK => ?st19) AllReadyIn.nil
          case ho19 => simp only [List.getElem?_toArray, List.getElem?_cons_succ, List.getElem?_cons_zero]; rfl
          case st19 =>
            obtain ⟨c1, Y2, hcv, hc1, hb, hz1, ho1⟩ := conv_bytes Y1 s
            go_simp
            clear hcv
            refine hK _ _ ?_
            clear hK K
            try simp only [Act.put, List.setIfInBounds_toArray, List.set_cons_zero, List.set_cons_succ]
            have hv1 := (conv_bsl hc1 hz1 ho1).mono (Nat.zero_le _) (Nat.le_refl _)
            clear hc1 hz1 ho1
            replace hJk := hJ k Y1 Y2 none hJk (grown_of_below hb) (by simp)
            replace hbs : Boxed Y2 Bs 9 (.string s) := (hb.block Bs hbs.lt).trans hbs
            replace hown2 := own_below4 hown2 hb
            replace hsz := Nat.le_trans hsz hb.size
            replace hv3 := (hv3.below hb (Nat.le_refl _)).mono (Nat.le_refl _) hb.size
            clear hb
            refine wpAnyIn_ready (rs := [6]) (by kernel_rfl) (by simp) ?_
            refine' AllReadyIn.cons (o := _) ?ho20 (fun K hK => ?st20) AllReadyIn.nil
            case ho20 => simp only [List.getElem?_toArray, List.getElem?_cons_succ, List.getElem?_cons_zero]; rfl
            case st20 =>
              go_simp
              refine hK _ _ ?_
              clear hK K
              try simp only [Act.put, List.setIfInBounds_toArray, List.set_cons_zero, List.set_cons_succ]
              refine wpAnyIn_ready (rs := [7]) (by kernel_rfl) (by simp) ?_
              refine' AllReadyIn.cons (o := _) ?ho21 (fun K hK => ?st21) AllReadyIn.nil
              case ho21 => simp only [List.getElem?_toArray, List.getElem?_cons_succ, List.getElem?_cons_zero]; rfl
              case st21 =>
                go_simp
                refine ⟨trivial, ?_⟩
                have hv2 := (BSl.of_own (l := octs (two (f : Int)) 2) (by rw [octs_length]; exact hown2)).mono (Nat.zero_le _) (Nat.le_refl _)
                refine (callsIn_wide.2 (short_three Y2 _ _ _ s.data.toList (octs (two (f : Int)) 2) (octs (two (k : Int)) 1) hv1 hv2 hv3 (by rw [octs_length, octs_length]; have : s.data.toList.length = s.size := rfl; omega))).mono ?_
                clear hv2
                rintro e Y3 ⟨rfl, hb⟩
                refine hK _ _ ?_
                clear hK K
                try simp only [Act.put, List.setIfInBounds_toArray, List.set_cons_zero, List.set_cons_succ]
                replace hJk := hJ k Y2 Y3 none hJk (grown_of_below hb) (by simp)
                replace hbs : Boxed Y3 Bs 9 (.string s) := (hb.block Bs hbs.lt).trans hbs
                replace hown2 := own_below4 hown2 hb
                replace hsz := Nat.le_trans hsz hb.size
                clear hb hv1 hv3
                refine wpAnyIn_ready (rs := [8]) (by kernel_rfl) (by simp) ?_
                refine' AllReadyIn.cons (o := _) ?ho22 (fun K hK => ?st22) AllReadyIn.nil
                case ho22 => simp only [List.getElem?_toArray, List.getElem?_cons_succ, List.getElem?_cons_zero]; rfl
                case st22 =>
                  obtain ⟨fn, tmps, assign, body, hy, hR⟩ := hY k #[tv (begB s f k)] Y3 hlt ⟨_, begs_at s f hlt, rfl⟩ hJk
                  simp only [tv, begB] at hy
                  go_simp
                  clear hy
                  refine hR.mono ?_
                  rintro e Y4 ⟨rfl, hJ4, hkp1, hkp2⟩
                  refine hK _ _ ?_
                  clear hK K
                  try simp only [Act.put, List.setIfInBounds_toArray, List.set_cons_zero, List.set_cons_succ]
                  refine wpAnyIn_ready (rs := [9]) (by kernel_rfl) (by simp) ?_
                  refine' AllReadyIn.cons (o := _) ?ho23 (fun K hK => ?st23) AllReadyIn.nil
                  case ho23 => simp only [List.getElem?_toArray, List.getElem?_cons_succ, List.getElem?_cons_zero]; rfl
                  case st23 =>
                    go_simp
                    refine hK _ _ ?_
                    clear hK K
                    try simp only [Act.put, List.setIfInBounds_toArray, List.set_cons_zero, List.set_cons_succ]
                    refine wpAnyIn_done (by kernel_rfl) ?_ _
                    replace hbs : Boxed Y4 Bs 9 (.string s) := (hkp1.block Bs hBs).trans hbs
                    replace hown2 := own_butRows hown2 hkp2 (by decide) (by omega) (by omega)
                    replace hsz := Nat.le_trans hsz hkp1.size
                    clear hR hkp1 hkp2
                    gi_wp2_with fail
                    go_roundw
                    case rel => exact ⟨k + 1, by omega, by simp, hJ4, hbs, hown2, hsz⟩
                    case measure => simp [intOf]; omega
    · obtain rfl : k = 15 := by omega
      gi_wp2_with fail
      go_end0
      exact ⟨⟨_, rfl⟩, hJk⟩
set_option maxHeartbeats 1000000 in
theorem beginnings_in (F : Fence) (m : Nat) (h : F.fn 191) (hro : F.round = none) (s : ByteArray) (z : Int) (w : World) :
    CallsIn F m Tryz.prog 191 #[.string s, .int .i64 z] w fun e w' => e = .returned (.func (.func 213) #[] #[.pointer (some ⟨w.heap.size + 1, 0, none⟩), .pointer (some ⟨w.heap.size, 0, none⟩)]) ∧ w' = (w.alloc (.cells #[.string s] 9)).alloc (.cells #[.int .i64 z] 3) := by
  refine callsIn_of_wp Tryz.func191 rfl h ?_ hro
  simp only [Tryz.ntmps191, List.size_toArray, List.length_cons, List.length_nil, Nat.reduceAdd, Nat.reduceSub, Array.replicate_succ, Array.replicate_zero, List.push_toArray, List.append_toArray, List.nil_append, List.cons_append]
  gi_wp2
  go_ret
  exact ⟨rfl, rfl⟩
set_option maxHeartbeats 2000000 in
theorem begin_in (m : Nat) (hm : 7 ≤ m) (s : ByteArray) (hs : s.size ≤ 140737488352000) (z : Int) (w : World) :
    CallsIn Fence.wide m Tryz.prog 151 #[.string s, .int .i64 z] w (RowW w.heap.size 9 15 ((begs s (lfN z)).map tv) w) := by
  have h1 : 1 ≤ m := by omega
  refine callsIn_of_wp Tryz.func151 rfl trivial ?_ rfl
  simp only [Tryz.ntmps151, List.size_toArray, List.length_cons, List.length_nil, Nat.reduceAdd, Nat.reduceSub, Array.replicate_succ, Array.replicate_zero, List.push_toArray, List.append_toArray, List.nil_append, List.cons_append]
  have hbl : (begs s (lfN z)).length ≤ 1000000 := by rw [begs_length]; omega
  gi_wp2_with (first
    | (refine ⟨trivial, ?_⟩; gi_at_call 191; refine (beginnings_in Fence.wide (m - 1) trivial rfl _ _ _).mono ?_; rintro e w1 ⟨rfl, hw1⟩; have ks : Boxed w1 w.heap.size 9 (.string s) := (by rw [hw1]; exact (Boxed.new _ _ _).alloc _); have kl : Boxed w1 (w.heap.size + 1) 3 (.int .i64 z) := (by rw [hw1]; exact Blk.new' (vs := [.int .i64 z]) (by simp)); have hb1 : Below w.heap.size w w1 := (by rw [hw1]; exact chainA (chain0 _ _) _); clear hw1)
    | (refine ⟨trivial, ?_⟩; gi_at_call 190; refine (collectT_in (m - 1) (by omega) (begs s (lfN z)) hbl w1 _ _ (enters_of Tryz.func213 (by kernel_rfl) rfl) (fun W hW hlt => by
        rw [begs_length]
        exact beginnings1_rel (m - 1 - 1 - 1) (by omega) s hs z w1.heap.size w1.heap.size w.heap.size (w.heap.size + 1) W hlt ks.lt ((hW.block _ ks.lt).trans ks) ((hW.block _ kl.lt).trans kl))).mono ?_; rintro e w2 ⟨v2, rfl, hown2, hb2⟩; rw [begs_length] at hown2; obtain ⟨g2, c2, rfl⟩ := ownsRow_succ hown2))
  go_ret
  exact ⟨_, rfl, own_base hown2 hb1.size, chain hb1 hb2⟩
theorem begin_any (s : ByteArray) (hs : s.size ≤ 140737488352000) (z : Int) (w : World) :
    Calls Tryz.prog 151 #[.string s, .int .i64 z] w (RowW w.heap.size 9 15 ((begs s (lfN z)).map tv) w) := callsIn_wide.1 (begin_in 7 (by omega) s hs z w)
end Go.Proofs.YtechcdkakgpnkaaGreat
namespace Go.Proofs.YtechcdkakgpnkaaGreat
open Go.RowKit Go.Shelf
attribute [local go_sem] Oper.semAt_some
theorem bsl_allBut {lo hi B l : Nat} {W W' : World} {sv : Value} {zs : List UInt8} (h : BSl lo hi W sv zs) (hk : AllBut B l W W') (hh : hi ≤ W.heap.size) (hB : B < lo ∨ hi ≤ B) (hl : l < lo ∨ hi ≤ l) : BSl lo hi W' sv zs := by
  obtain ⟨a, cap, e, hc, h0 | ⟨b, off, ha, h1, h2, ho⟩⟩ := h
  · exact ⟨a, cap, e, hc, .inl h0⟩
  · exact ⟨a, cap, e, hc, .inr ⟨b, off, ha, h1, h2, fun k x hx => (World.cell?_of_block (a := ⟨b, _, none⟩) (hk.2 b (by omega) (by omega) (by omega))).trans (ho k x hx)⟩⟩
theorem bsl_own {lo hi : Nat} {W W' : World} {row : Option Nat} {sv : Value} {zs : List UInt8} (h : BSl lo hi W sv zs) (hh : hi ≤ W.heap.size) (hg : W.grownBy W' row) (hr : ∀ r, row = some r → ∃ o : Obj, W.heap[r]? = some o ∧ o.isCells = false) : BSl lo hi W' sv zs := by
  obtain ⟨a, cap, e, hc, h0 | ⟨b, off, ha, h1, h2, ho⟩⟩ := h
  · exact ⟨a, cap, e, hc, .inl h0⟩
  · refine ⟨a, cap, e, hc, .inr ⟨b, off, ha, h1, h2, fun k x hx => ?_⟩⟩
    have hc := ho k x hx
    refine (World.cell?_of_block (a := ⟨b, _, none⟩) (hg.block b (by omega) (fun e => ?_))).trans hc
    obtain ⟨o, ho', hoc⟩ := hr b e.symm
    simp only [World.cell?, ho'] at hc
    cases o <;> first | (cases hoc; done) | (simp at hc)
def LinkAt (lo hi n : Nat) (W : World) (v : Value) (l : List UInt8) : Prop := BSl lo hi W v l ∨ BSl n W.heap.size W v l
theorem LinkAt.bsl {lo hi n : Nat} {W : World} {v : Value} {l : List UInt8} (h : LinkAt lo hi n W v l) (h1 : lo ≤ n) (h2 : hi ≤ W.heap.size) : BSl lo W.heap.size W v l := by
  rcases h with h | h
  · exact h.mono (Nat.le_refl _) h2
  · exact h.mono h1 (Nat.le_refl _)
theorem LinkAt.allBut {lo hi n B l : Nat} {W W' : World} {v : Value} {zs : List UInt8} (h : LinkAt lo hi n W v zs) (hk : AllBut B l W W') (h2 : hi ≤ W.heap.size) (hlo : lo ≤ n) (hB : B < lo) (hl : hi ≤ l) (hln : l < n) : LinkAt lo hi n W' v zs := by
  rcases h with h | h
  · exact .inl (bsl_allBut h hk h2 (.inl hB) (.inr hl))
  · exact .inr ((bsl_allBut h hk (Nat.le_refl _) (.inl (by omega)) (.inl hln)).mono (Nat.le_refl _) hk.1)
set_option maxRecDepth 100000 in
set_option maxHeartbeats 4000000 in
theorem chain1_rel (m : Nat) (hm : 1 ≤ m) (s : ByteArray) (hs : s.size ≤ 140737488353000) (N : Nat) (hN : N ≤ 3) (B Bl Bk : Nat) (lv : Value) (w : World) (hB : B < w.heap.size) (kl : Boxed w Bl 35 lv) (kk : Boxed w Bk 3 (.int .i64 (N : Nat))) (hl : BSl (B + 1) w.heap.size w lv s.data.toList) :
    SeqRel Fence.wide m Tryz.prog 222 #[.pointer (some ⟨Bl, 0, none⟩), .pointer (some ⟨Bk, 0, none⟩)] (N + 1) (fun k r W => ∃ y : Value, BSl (B + 1) W.heap.size W y (linkB s k).data.toList ∧ r = #[y]) (AllBut B) w := fun l J W hW hl0 hlW hJ hY h0 => by
  have hcl : Boxed W Bl 35 lv := (hW.block Bl kl.lt).trans kl
  have hck : Boxed W Bk 3 (.int .i64 (N : Nat)) := (hW.block Bk kk.lt).trans kk
  replace hl := hl.below hW (Nat.le_refl _)
  have h1 : 1 ≤ m := hm
  have cl := hcl.cell
  have ck := hck.cell
  have hwW := hW.size
  obtain ⟨la, lc, hle⟩ := bsl_slice hl
  subst hle
  refine callsIn_of_wp Tryz.func222 rfl trivial ?_ rfl
  simp only [Tryz.ntmps222, List.size_toArray, List.length_cons, List.length_nil, Nat.reduceAdd, Nat.reduceSub, Array.replicate_succ, Array.replicate_zero, List.push_toArray, List.append_toArray, List.nil_append, List.cons_append]
  have HL : LinkAt (B + 1) w.heap.size W.heap.size W (.slice la s.data.toList.length lc) (linkB s 0).data.toList := .inl hl
  clear hl
  generalize s.data.toList.length = sl at *
  gi_wp2
  clear cl ck
  gi_loopw [4, 7] (fun v i wr => ∃ k : Nat, k ≤ N ∧ i = .int .i64 (k : Nat) ∧ LinkAt (B + 1) w.heap.size W.heap.size wr v (linkB s k).data.toList ∧ J k wr ∧ W.heap.size ≤ wr.heap.size) (fun _ i _ => N - (intOf i).toNat)
  case atStart => exact ⟨0, by omega, rfl, HL, h0, Nat.le_refl _⟩
  clear HL h0 hcl hck
  case round =>
    obtain ⟨k, hk, rfl, hlk, hJk, hsz⟩ := hrel
    have hbs := hlk.bsl (by omega) (by omega)
    obtain ⟨va, vc, hve⟩ := bsl_slice hbs
    subst hve
    obtain ⟨fn, tmps, assign, body, hy, hR⟩ := hY k #[.slice va (linkB s k).data.toList.length vc] wr (by omega) ⟨_, hbs, rfl⟩ hJk
    have hLk : (linkB s k).data.toList.length ≤ 140737488353000 := by
      have := linkB_size s k
      rw [show (linkB s k).data.toList.length = (linkB s k).size from rfl]
      omega
    generalize hL : (linkB s k).data.toList.length = len at *
    have HLn := Lib.hid hL
    clear hL
    by_cases hlt : k < N
    · have hlt' : (k : Int) < (N : Int) := by omega
      gi_wp2
      clear hy
      refine hR.mono ?_
      rintro e W3 ⟨rfl, hJ3, hk3⟩
      replace hlk := hlk.allBut hk3 (by omega) (by omega) (by omega) hl0 hlW
      have hsz3 := Nat.le_trans hsz hk3.1
      replace hbs := hlk.bsl (by omega) (by omega)
      gi_wp2_with fail
      refine ⟨trivial, ?_⟩
      refine (callsIn_wide.2 (short_one W3 _ _ (hbs.mono (Nat.zero_le _) (Nat.le_refl _)) (by rw [HLn.out]; exact hLk))).mono ?_
      rintro e W4 ⟨rfl, hb4⟩
      obtain ⟨c5, W5, hcv, hc5, hb5, hz5, ho5⟩ := conv_bytes W4 (shortB (linkB s k).data.toList)
      have hnew := conv_bsl hc5 hz5 ho5
      have hb35 : Below W3.heap.size W3 W5 := chain hb4 hb5
      have hJ5 := hJ (k + 1) W3 W5 none hJ3 (grown_of_below hb35) (by simp)
      have hsz5 := Nat.le_trans hsz3 hb35.size
      have hsz4 := Nat.le_trans hsz3 hb4.size
      have HN : LinkAt (B + 1) w.heap.size W.heap.size W5 (.slice (some ⟨W4.heap.size, 0, none⟩) (shortB (linkB s k).data.toList).size c5) (linkB s (k + 1)).data.toList := .inr (hnew.mono hsz4 (Nat.le_refl _))
      clear hbs hlk hc5 hz5 ho5 hnew
      generalize hq : (shortB (linkB s k).data.toList).size = q5 at *
      have HQ := Lib.hid hq
      clear hq
      gi_wp2_with fail
      go_roundw
      case rel => exact ⟨k + 1, by omega, by simp, HN, hJ5, hsz5⟩
      case measure => simp [intOf]; omega
    · obtain rfl : k = N := by omega
      gi_wp2
      clear hy
      refine hR.mono ?_
      rintro e W3 ⟨rfl, hJ3, hk3⟩
      gi_wp2
      go_end0
      exact ⟨⟨_, rfl⟩, hJ3⟩
set_option maxHeartbeats 1000000 in
theorem chain_in (F : Fence) (m : Nat) (h : F.fn 211) (hro : F.round = none) (a : Option Addr) (len cap : Nat) (N : Int) (w : World) :
    CallsIn F m Tryz.prog 211 #[.slice a len cap, .int .i64 N] w fun e w' => e = .returned (.func (.func 222) #[] #[.pointer (some ⟨w.heap.size, 0, none⟩), .pointer (some ⟨w.heap.size + 1, 0, none⟩)]) ∧ w' = (w.alloc (.cells #[.slice a len cap] 35)).alloc (.cells #[.int .i64 N] 3) := by
  refine callsIn_of_wp Tryz.func211 rfl h ?_ hro
  simp only [Tryz.ntmps211, List.size_toArray, List.length_cons, List.length_nil, Nat.reduceAdd, Nat.reduceSub, Array.replicate_succ, Array.replicate_zero, List.push_toArray, List.append_toArray, List.nil_append, List.cons_append]
  gi_wp2
  go_ret
  exact ⟨rfl, rfl⟩
def stp (n : Int) : Nat := if n ≤ 0 then 0 else if 3 ≤ n then 3 else n.toNat
theorem stp_le (n : Int) : stp n ≤ 3 := by unfold stp; split <;> (try split) <;> omega
theorem stp_cases (z : Int) : (z < 0 ∧ (stp z : Int) = 0) ∨ (0 ≤ z ∧ z ≤ 3 ∧ (stp z : Int) = z) ∨ (3 < z ∧ (stp z : Int) = 3) := by
  unfold stp
  by_cases h1 : z < 0
  · left; rw [if_pos (by omega)]; exact ⟨h1, rfl⟩
  · by_cases h2 : z ≤ 3
    · right; left
      refine ⟨by omega, h2, ?_⟩
      split <;> (try split) <;> omega
    · right; right
      rw [if_neg (by omega), if_pos (by omega)]; exact ⟨by omega, rfl⟩
def WalkI (B : Nat) (s : ByteArray) (w : World) (k : Nat) (W : World) : Prop := (∃ v, Boxed W B 35 v ∧ (1 ≤ k → BSl (B + 1) W.heap.size W v (linkB s (k - 1)).data.toList)) ∧ Below w.heap.size w W
theorem walkI_own {B : Nat} {s : ByteArray} {w : World} {C : Nat} (hC : w.heap.size ≤ C) : OwnFrom C (WalkI B s w) :=
  OwnFrom.and (fun _ X Y row ⟨v, hv, hb⟩ hg hr => ⟨v, blk_own B 35 (fun _ : Unit => [v]) () X Y row hv hg (fun r e => (hr r e).2), fun hk => (bsl_own (hb hk) (Nat.le_refl _) hg (fun r e => (hr r e).2)).mono (Nat.le_refl _) hg.size⟩) (ownFrom_below (Nat.le_refl _) hC)
set_option maxRecDepth 100000 in
set_option maxHeartbeats 4000000 in
theorem links_in (m : Nat) (hm : 3 ≤ m) (s : ByteArray) (hs : s.size ≤ 140737488353000) (n : Int) (w : World) :
    CallsIn Fence.wide m Tryz.prog 189 #[.string s, .int .i64 n] w fun e W' => e = .returned (.string (linkB s (stp n))) ∧ Below w.heap.size w W' := by
  have h1 : 1 ≤ m := by omega
  refine callsIn_of_wp_marks Tryz.func189 rfl trivial ?_ rfl
  simp only [Tryz.ntmps189, List.size_toArray, List.length_cons, List.length_nil, Nat.reduceAdd, Nat.reduceSub, Array.replicate_succ, Array.replicate_zero, List.push_toArray, List.append_toArray, List.nil_append, List.cons_append]
  obtain ⟨c1, W1, hcv, hc1, hb1, hz1, ho1⟩ := conv_bytes (w.alloc (.cells #[.slice none 0 0] 35)) s
  have hb1' : Below w.heap.size w W1 := chain (chain0 _ _) hb1
  have hz1' : W1.heap.size = w.heap.size + 2 := by rw [hz1]; simp
  have hnew := conv_bsl hc1 hz1 ho1
  have kb : Boxed W1 w.heap.size 35 (.slice none 0 0) := (hb1.block w.heap.size (by simp)).trans (Boxed.new _ _ _)
  have hze : (w.alloc (.cells #[.slice none 0 0] 35)).heap.size = w.heap.size + 1 := by simp
  rw [hze] at hnew hcv
  have h3 := stp_le n
  have hCC := stp_cases n
  have HZ1 := Lib.hid hz1'
  clear hz1 hz1' ho1 hb1 hze
  generalize stp n = N at *
  rcases hCC with ⟨hc0, hC⟩ | ⟨hc0, hc8, hC⟩ | ⟨hc8, hC⟩
  all_goals
    have HC := Lib.hid hC
    clear hC
    gi_wp2_with (refine ⟨trivial, ?_⟩; gi_at_call 211; refine (chain_in Fence.wide (m - 1) trivial rfl _ _ _ _ _).mono ?_; rintro e w' ⟨rfl, rfl⟩)
    generalize hW5 : World.alloc _ _ = W5
    have k0 : Boxed W5 w.heap.size 35 (.slice none 0 0) := by rw [← hW5]; exact (kb.alloc _).alloc _
    have k1 : Boxed W5 W1.heap.size 35 (.slice (some ⟨w.heap.size + 1, 0, none⟩) s.size c1) := by rw [← hW5]; exact (Boxed.new _ _ _).alloc _
    have k2 : Boxed W5 (W1.heap.size + 1) 3 (.int .i64 (N : Nat)) := by rw [HC.out, ← hW5]; exact Blk.new' (vs := [.int .i64 _]) (by simp)
    have hB1 : Below W1.heap.size W1 W5 := by rw [← hW5]; exact chainA (chain0 _ _) _
    have hz : W5.heap.size = W1.heap.size + 2 := by rw [← hW5]; simp
    have hB0 : Below w.heap.size w W5 := chain hb1' hB1
    clear hW5
    refine wpIn_rangeFunc_relA (encs := fun y : Value => #[y]) (R := fun k y W => BSl (w.heap.size + 1) W.heap.size W y (linkB s k).data.toList) rfl h1 (gf := 222) (lb := #[.pointer (some ⟨W1.heap.size, 0, none⟩), .pointer (some ⟨W1.heap.size + 1, 0, none⟩)]) rfl trivial (enters_of Tryz.func222 (by kernel_rfl) rfl)
      (chain1_rel (m - 1) (by omega) s hs N h3 w.heap.size W1.heap.size (W1.heap.size + 1) _ W5 (by have := HZ1.out; omega) k1 k2 ((hnew.below hB1 (Nat.le_refl _)).mono (Nat.le_refl _) hB1.size)) AllBut.t (fun X o o' _ _ _ => AllBut.b _ _ X o') (fun X => AllBut.refl _ _ X) (Below.refl _ _) (fun _ => rfl)
      (WalkI w.heap.size s w) (walkI_own hB0.size) ⟨⟨_, k0, fun h => by omega⟩, hB0⟩ (fun k y _ X Y row h hg hr => (bsl_own h (Nat.le_refl _) hg (fun r e => (hr r e).2)).mono (Nat.le_refl _) hg.size) ?_ ?_ ?_ ?_
    rotate_left
    · intro l k y W K _ hK
      gi_wp2
      exact hK
    · rintro r k y W hlt ⟨⟨v, kv, _⟩, hB⟩ hy
      obtain ⟨ya, yc, hye⟩ := bsl_slice hy
      have ko := kv.cell
      have kf := kv.frozen
      subst hye
      generalize hL : (linkB s k).data.toList.length = len at *
      have HLn := Lib.hid hL
      clear hL
      gi_wp2
      have hA : AllBut w.heap.size (W5.heap.size + 1) W (W.setCell ⟨w.heap.size, 0, none⟩ (.slice ya len yc)) := AllBut.of_grown (grownBy_setCell' W w.heap.size _)
      refine ⟨(KeepsOthers.setCell _ _ _).from _, hA, ⟨_, kv.set _, fun _ => ?_⟩, hB.setCell (p := ⟨w.heap.size, 0, none⟩) (Nat.le_refl _) _⟩
      have := (hy.kept (Nat.le_refl _) (grownBy_setCell' W w.heap.size (.slice ya len yc)) (fun r e => by cases e; omega)).mono (Nat.le_refl _) hA.1
      exact this
    · rintro D W hD ⟨⟨v, kv, hv⟩, hB⟩ hK
      replace hv := hv (by omega)
      rw [show N + 1 - 1 = N from rfl] at hv
      have ko := kv.cell
      have hcs := run_string (P := Tryz.prog) 35 5 9 Tryz.underlying35 Tryz.underlying5 Tryz.underlying9 W hv
      obtain ⟨va, vc, hve⟩ := bsl_slice hv
      subst hve
      generalize hL : (linkB s N).data.toList.length = len at *
      have HLn := Lib.hid hL
      have HZ := Lib.hid hz
      clear hL hz
      gi_wp2_with fail
      have hB' := hB.trans (belowK_b (w := w) (Nat.le_refl _) _ D _ (.deferred none) (by have := HZ.out; have := hb1'.size; omega) hK rfl rfl)
      refine ⟨by simp, .inl ⟨_, _, rfl, run_takeDeferred hK, ?_⟩⟩
      refine ⟨.string (linkB s N), ?_, ?_⟩
      · simp [results, Tryz.f189, go_sem]
      · exact ⟨rfl, hB'⟩
theorem walk_any (s : ByteArray) (hs : s.size ≤ 140737488353000) (n : Int) (w : World) :
    Calls Tryz.prog 189 #[.string s, .int .i64 n] w fun e W' => e = .returned (.string (linkB s (stp n))) ∧ Below w.heap.size w W' := callsIn_wide.1 (links_in 3 (by omega) s hs n w)
end Go.Proofs.YtechcdkakgpnkaaGreat
namespace Go.Proofs.YtechcdkakgpnkaaGreat
open Go.RowKit Go.Shelf
attribute [local go_sem] Oper.semAt_some
set_option maxRecDepth 100000 in
set_option maxHeartbeats 4000000 in
theorem allT1_in (m : Nat) (hm : 1 ≤ m) (l Bs n₀ b off cap : Nat) (zs : List ByteArray) (hreach : zs.length ≤ 140737488351232) (hb : b < n₀) (J : Nat → World → Prop)
    (W : World)
    (hY : ∀ k x W1, zs[k]? = some x → J k W1 → YieldAt Fence.wide (m - 1) Tryz.prog l #[.int .i64 (k : Int), tv x] W1 fun e W' => e = .returned (.bool true) ∧ J (k + 1) W' ∧ Below n₀ W1 W')
    (hBs : W.cell? ⟨Bs, 0, none⟩ = some (.slice (some ⟨b, off, none⟩) zs.length cap)) (hc : Row W b off (zs.map tv)) (h0 : J 0 W) :
    CallsIn Fence.wide m Tryz.prog 210 #[.func (.yield l) #[] #[], .pointer (some ⟨Bs, 0, none⟩)] W fun e W' => (∃ v, e = .returned v) ∧ J zs.length W' := by
  refine callsIn_of_wp Tryz.func210 rfl trivial ?_ rfl
  simp only [Tryz.ntmps210, List.size_toArray, List.length_cons, List.length_nil, Nat.reduceAdd, Nat.reduceSub, Array.replicate_succ, Array.replicate_zero, List.push_toArray, List.append_toArray, List.nil_append, List.cons_append]
  gi_wp2
  gi_loopw [7] (fun i wr => ∃ k : Nat, k ≤ zs.length ∧ i = .int .i64 k ∧ J k wr ∧ Below n₀ W wr) (fun i _ => zs.length - (intOf i).toNat)
  case atStart => exact ⟨0, Nat.zero_le _, rfl, h0, Below.refl _ _⟩
  case round =>
    obtain ⟨k, hk, rfl, hJs, hnx⟩ := hrel
    by_cases hlt : k < zs.length
    · obtain ⟨x, hx⟩ : ∃ x, zs[k]? = some x := ⟨_, List.getElem?_eq_getElem hlt⟩
      have c0 : wr.cell? ⟨b, off + k, none⟩ = some (tv x) := (hc.below hnx hb) k _ (by rw [List.getElem?_map, hx]; rfl)
      have hk0 : (k : Int) < (zs.length : Int) := by omega
      obtain ⟨fn, tmps, assign, body, hy, hR⟩ := hY k x wr hx hJs
      simp only [tv] at c0 hy
      clear hx
      generalize hL : zs.length = len at *
      have HL := Lib.hid hL
      clear hL
      gi_wp2
      refine hR.mono ?_
      rintro e W3 ⟨rfl, hJ3, hk3⟩
      gi_wp2
      go_roundw
      case rel => exact ⟨k + 1, by omega, by simp, hJ3, hnx.trans hk3⟩
      case measure => simp [intOf]; omega
    · obtain rfl : k = zs.length := by omega
      gi_wp2
      go_end0
      exact ⟨⟨_, rfl⟩, hJs⟩
set_option maxRecDepth 100000 in
set_option maxHeartbeats 1000000 in
theorem allT1_nil_in (m : Nat) (l Bs : Nat) (a : Option Addr) (cap : Nat) (J : World → Prop) (W : World) (hBs : W.cell? ⟨Bs, 0, none⟩ = some (.slice a 0 cap)) (h0 : J W) :
    CallsIn Fence.wide m Tryz.prog 210 #[.func (.yield l) #[] #[], .pointer (some ⟨Bs, 0, none⟩)] W fun e W' => (∃ v, e = .returned v) ∧ J W' := by
  refine callsIn_of_wp Tryz.func210 rfl trivial ?_ rfl
  simp only [Tryz.ntmps210, List.size_toArray, List.length_cons, List.length_nil, Nat.reduceAdd, Nat.reduceSub, Array.replicate_succ, Array.replicate_zero, List.push_toArray, List.append_toArray, List.nil_append, List.cons_append]
  gi_wp2
  gi_loopw [7] (fun i wr => i = .int .i64 0 ∧ J wr) (fun _ _ => 0)
  case atStart => exact ⟨rfl, h0⟩
  case round =>
    obtain ⟨rfl, hJs⟩ := hrel
    gi_wp2
    go_end0
    exact ⟨⟨_, rfl⟩, hJs⟩
set_option maxHeartbeats 1000000 in
theorem allT_in (F : Fence) (n : Nat) (h5 : F.fn 188) (hro : F.round = none) (a : Option Addr) (len cap : Nat) (w : World) :
    CallsIn F n Tryz.prog 188 #[.slice a len cap] w fun e w' => e = .returned (.func (.func 210) #[] #[.pointer (some ⟨w.heap.size, 0, none⟩)]) ∧ w' = w.alloc (.cells #[.slice a len cap] 157) := by
  refine callsIn_of_wp Tryz.func188 rfl h5 ?_ hro
  simp only [Tryz.ntmps188, List.size_toArray, List.length_cons, List.length_nil, Nat.reduceAdd, Nat.reduceSub, Array.replicate_succ, Array.replicate_zero, List.push_toArray, List.append_toArray, List.nil_append, List.cons_append]
  gi_wp2
  go_ret
  exact ⟨rfl, rfl⟩
theorem allT_rel (m : Nat) (hm : 1 ≤ m) (Bs n₀ : Nat) (sv : Value) (zs : List ByteArray) (hreach : zs.length ≤ 140737488351232) (w : World) (hn₀ : n₀ ≤ w.heap.size)
    (hk : Boxed w Bs 157 sv) (hI : VSl 0 n₀ w sv (zs.map tv)) :
    SeqRel Fence.wide m Tryz.prog 210 #[.pointer (some ⟨Bs, 0, none⟩)] zs.length (fun k r _ => ∃ y : Nat × ByteArray, (y.1 = k ∧ zs[k]? = some y.2) ∧ r = #[.int .i64 (y.1 : Int), tv y.2]) (fun _ => Below n₀) w := fun l J W hW _ _ _ hY h0 => by
  have hc' := (hW.cell (p := ⟨Bs, 0, none⟩) hk.lt).trans hk.cell
  obtain ⟨a, cap, rfl, _, h0' | ⟨b, off, rfl, _, hb, hcs⟩⟩ := hI.below hW hn₀
  · rw [List.map_eq_nil_iff] at h0'
    subst h0'
    exact (allT1_nil_in m l Bs a cap (J 0) W hc' h0).mono fun e W' ⟨he, hj⟩ => ⟨he, hj⟩
  · rw [List.length_map] at hc'
    exact allT1_in m hm l Bs n₀ b off cap zs hreach hb J W (fun k x W1 hx hj => hY k _ W1 (List.getElem?_eq_some_iff.1 hx).1 ⟨(k, x), ⟨rfl, hx⟩, rfl⟩ hj) hc' hcs h0
end Go.Proofs.YtechcdkakgpnkaaGreat
namespace Go.Proofs.YtechcdkakgpnkaaGreat
open Go.RowKit Go.Shelf
attribute [local go_sem] Oper.semAt_some
def walked (zs : List ByteArray) (d : Nat → Int) : List ByteArray := zs.mapIdx fun k x => linkB x (stp (d k))
theorem walked_length (zs : List ByteArray) (d : Nat → Int) : (walked zs d).length = zs.length := by simp [walked]
theorem walked_at {zs : List ByteArray} (d : Nat → Int) {k : Nat} {x : ByteArray} (h : zs[k]? = some x) : (walked zs d)[k]? = some (linkB x (stp (d k))) := by
  unfold walked
  rw [List.getElem?_mapIdx, h]; rfl
def WallI (n₀ B Bf : Nat) (fv : Value) (ys : List Value) (w : World) (k : Nat) (W : World) : Prop :=
  ((∃ v, Boxed W B 157 v ∧ W.ownsRow n₀ 9 1 v k (ys.take k) ∧ True) ∧ Boxed W Bf 144 fv) ∧ Below n₀ w W
theorem wallI_own {n₀ Bb Bf : Nat} {fv : Value} {ys : List Value} {w : World} {B : Nat} (h : n₀ ≤ w.heap.size) (hB : n₀ ≤ B) : OwnFrom B (WallI n₀ Bb Bf fv ys w) :=
  OwnFrom.and (OwnFrom.and (Own.from (holdsRow_own n₀ Bb 157 9 1 (fun j : Nat => j) (fun j => ys.take j) (fun _ _ => True)) _)
    (Own.from (fun _ X Y row hs hg hr => blk_own Bf 144 (fun (_ : Unit) => [fv]) () X Y row hs hg hr) _)) (ownFrom_below h hB)
set_option maxRecDepth 100000 in
set_option maxHeartbeats 8000000 in
theorem walkAll_in (m : Nat) (hm : 3 ≤ m) (zs : List ByteArray) (hn : zs.length ≤ 1000000) (hz : ∀ x ∈ zs, x.size ≤ 140737488353000) (d : Nat → Int) (sv : Value) (w : World) (hsv : VSl 0 w.heap.size w sv (zs.map tv))
    (fid : Nat) (lb : Array Value) (eg : ∀ args w, (callFunc fid args).run Tryz.prog w = .ok (.enter fid args) w)
    (hst : ∀ k W, k < zs.length → Below w.heap.size w W → Calls Tryz.prog fid (#[.int .i64 (k : Int)] ++ lb) W fun e W' => e = .returned (.int .i64 (d k)) ∧ Below W.heap.size W W') :
    CallsIn Fence.wide m Tryz.prog 150 #[sv, .func (.func fid) #[] lb] w (RowW w.heap.size 9 zs.length ((walked zs d).map tv) w) := by
  have h1 : 1 ≤ m := by omega
  have hmx : Tryz.prog.follows .mixedOrders = true := by kernel_rfl
  have hsv0 := hsv
  obtain ⟨a, cap, rfl⟩ := hsv.slice
  rw [List.length_map] at hsv0 ⊢
  clear hsv
  refine callsIn_of_wp_marks Tryz.func150 rfl trivial ?_ rfl
  simp only [Tryz.ntmps150, List.size_toArray, List.length_cons, List.length_nil, Nat.reduceAdd, Nat.reduceSub, Array.replicate_succ, Array.replicate_zero, List.push_toArray, List.append_toArray, List.nil_append, List.cons_append]
  obtain ⟨i0, hi, hz0, hz1, hz2⟩ := info_parts Tryz.infoStr
  gi_wp2_with (refine ⟨trivial, ?_⟩; gi_at_call 188; refine (allT_in Fence.wide (m - 1) trivial rfl _ _ _ _).mono ?_; rintro e w' ⟨rfl, rfl⟩)
  generalize hW5 : World.alloc _ _ = W5
  have kf : Boxed W5 w.heap.size 144 (.func (.func fid) #[] lb) := by rw [← hW5]; exact ((Boxed.new _ _ _).alloc _).alloc _
  have k0 : Boxed W5 (w.heap.size + 1) 157 (.slice none 0 0) := by rw [← hW5]; exact (Blk.new' (vs := [.slice none 0 0]) (by simp)).alloc _
  have k2 : Boxed W5 (w.heap.size + 1 + 1) 157 (.slice a zs.length cap) := by rw [← hW5]; exact Blk.new' (vs := [_]) (by simp)
  have hB0 : Below w.heap.size w W5 := by rw [← hW5]; exact chainA (chainA (chain0 _ _) _) _
  have hz5 : W5.heap.size = w.heap.size + 3 := by rw [← hW5]; simp
  clear hW5
  refine wpIn_rangeFunc_relA (encs := fun y : Nat × ByteArray => #[.int .i64 (y.1 : Int), tv y.2]) (R := fun k y _ => y.1 = k ∧ zs[k]? = some y.2) rfl h1 (gf := 210) (lb := #[.pointer (some ⟨w.heap.size + 1 + 1, 0, none⟩)]) rfl trivial (enters_of Tryz.func210 (by kernel_rfl) rfl)
    (allT_rel (m - 1) (by omega) (w.heap.size + 1 + 1) w.heap.size _ zs (by omega) W5 (by omega) k2 (hsv0.below hB0 (Nat.le_refl _))) (fun h k => h.trans k) (fun X o o' h2 h3 h4 => belowK_b (w := w) (Nat.le_refl _) _ _ o o' (by omega) h2 h3 h4) (fun X => Below.refl _ X) (Below.refl _ _) (fun _ => rfl)
    (WallI w.heap.size (w.heap.size + 1) w.heap.size (.func (.func fid) #[] lb) ((walked zs d).map tv) w) (wallI_own (Nat.le_refl _) (by omega))
    ⟨⟨⟨_, k0, World.ownsRow_nil _ _ _ _, trivial⟩, kf⟩, hB0⟩ (fun _ _ _ _ _ _ h _ _ => h) ?_ ?_ ?_ ?_
  rotate_left
  · intro l k y W K hr hK
    clear hr
    gi_wp2
    exact hK
  · rintro l k' ⟨k, x⟩ W hlt ⟨⟨⟨v, kv, hown, _⟩, kf⟩, hB⟩ ⟨hy1, hx⟩
    dsimp only at hy1 hx
    subst hy1
    have ht : ((walked zs d).map tv).take (k + 1) = ((walked zs d).map tv).take k ++ [tv (linkB x (stp (d k)))] := by rw [List.take_add_one, List.getElem?_map, walked_at d hx]; rfl
    have HT := Lib.hid ht
    have hxs := hz x (List.mem_of_getElem? hx)
    have HL := Lib.hid hlt
    clear ht hx hlt
    generalize ((walked zs d).map tv).take k = ts at *
    obtain ⟨va, vc, rfl⟩ := ownsRow_slice hown
    have HZ5 := Lib.hid hz5
    clear hz5 k0 k2
    gi_wp2_with fail
    refine wpIn_round_any hmx (by kernel_rfl) ?_
    change wpAny _ _ _ _ _ _ _ W.drew
    have hWd : Below W.heap.size W W.drew := (Below.refl _ W).drew
    replace kv : Boxed W.drew (w.heap.size + 1) 157 (.slice va k vc) := kv
    replace kf : Boxed W.drew w.heap.size 144 (.func (.func fid) #[] lb) := kf
    replace hown : W.drew.ownsRow w.heap.size 9 1 (.slice va k vc) k ts := hown
    generalize W.drew = Y at *
    refine' wpAny_take (i := 1) (oi := _) (v := _) ?hi1 (by kernel_rfl) (by kernel_rfl) (by kernel_rfl) ?hQ1 (Or.inl ⟨?hw1, ?hy1⟩) ?rest1
    case hi1 => simp only [List.getElem?_toArray, List.getElem?_cons_succ, List.getElem?_cons_zero]; rfl
    case hQ1 => exact fun _ _ _ h => h
    case hw1 => rfl
    case hy1 => intro W'; go_simp; with_reducible rfl
    try simp only [Act.put, List.setIfInBounds_toArray, List.set_cons_zero, List.set_cons_succ]
    refine' wpAny_take (i := 3) (oi := _) (v := _) ?hi2 (by kernel_rfl) (by kernel_rfl) (by kernel_rfl) ?hQ2 (Or.inl ⟨?hw2, ?hy2⟩) ?rest2
    case hi2 => simp only [List.getElem?_toArray, List.getElem?_cons_succ, List.getElem?_cons_zero]; rfl
    case hQ2 => exact fun _ _ _ h => h
    case hw2 => rfl
    case hy2 => intro W'; go_simp; with_reducible rfl
    try simp only [Act.put, List.setIfInBounds_toArray, List.set_cons_zero, List.set_cons_succ]
    refine wpAny_ready (rs := [0, 2]) (by kernel_rfl) (by simp) ?_
    refine' AllReady.cons (o := _) ?ho4 (fun K hK => ?st4) (AllReady.cons (o := _) ?ho3 (fun K hK => ?st3) AllReady.nil)
    case ho4 => simp only [List.getElem?_toArray, List.getElem?_cons_zero]; rfl
    case ho3 => simp only [List.getElem?_toArray, List.getElem?_cons_succ, List.getElem?_cons_zero]; rfl
    case st4 =>
      have cs := kv.cell
      go_simp
      clear cs
      refine hK _ _ ?_
      clear hK K
      try simp only [Act.put, List.setIfInBounds_toArray, List.set_cons_zero, List.set_cons_succ]
      refine wpAny_ready (rs := [2]) (by kernel_rfl) (by simp) ?_
      refine' AllReady.cons (o := _) ?ho5 (fun K hK => ?st5) AllReady.nil
      case ho5 => simp only [List.getElem?_toArray, List.getElem?_cons_succ, List.getElem?_cons_zero]; rfl
      case st5 =>
        have cs := kf.cell
        go_simp
        clear cs
        refine hK _ _ ?_
        clear hK K
        try simp only [Act.put, List.setIfInBounds_toArray, List.set_cons_zero, List.set_cons_succ]
        refine wpAny_ready (rs := [4]) (by kernel_rfl) (by simp) ?_
        refine' AllReady.cons (o := _) ?ho6 (fun K hK => ?st6) AllReady.nil
        case ho6 => simp only [List.getElem?_toArray, List.getElem?_cons_succ, List.getElem?_cons_zero]; rfl
        case st6 =>
          go_simp
          refine (hst k Y HL.out (hB.trans (hWd.mono hB.size))).mono ?_
          rintro e Y1 ⟨rfl, hb⟩
          refine hK _ _ ?_
          clear hK K
          try simp only [Act.put, List.setIfInBounds_toArray, List.set_cons_zero, List.set_cons_succ]
          replace hWd := chain hWd hb
          replace kv : Boxed Y1 (w.heap.size + 1) 157 (.slice va k vc) := (hb.block _ kv.lt).trans kv
          replace kf : Boxed Y1 w.heap.size 144 (.func (.func fid) #[] lb) := (hb.block _ kf.lt).trans kf
          replace hown := own_below4 hown hb
          clear hb
          refine wpAny_ready (rs := [5]) (by kernel_rfl) (by simp) ?_
          refine' AllReady.cons (o := _) ?ho7 (fun K hK => ?st7) AllReady.nil
          case ho7 => simp only [List.getElem?_toArray, List.getElem?_cons_succ, List.getElem?_cons_zero]; rfl
          case st7 =>
            go_simp
            refine (walk_any x hxs (d k) _).mono ?_
            rintro e Y2 ⟨rfl, hb⟩
            refine hK _ _ ?_
            clear hK K
            try simp only [Act.put, List.setIfInBounds_toArray, List.set_cons_zero, List.set_cons_succ]
            replace hWd := chain hWd hb
            replace kv : Boxed Y2 (w.heap.size + 1) 157 (.slice va k vc) := (hb.block _ kv.lt).trans kv
            replace kf : Boxed Y2 w.heap.size 144 (.func (.func fid) #[] lb) := (hb.block _ kf.lt).trans kf
            replace hown := own_below4 hown hb
            clear hb
            refine wpAny_ready (rs := [6]) (by kernel_rfl) (by simp) ?_
            refine' AllReady.cons (o := _) ?ho8 (fun K hK => ?st8) AllReady.nil
            case ho8 => simp only [List.getElem?_toArray, List.getElem?_cons_succ, List.getElem?_cons_zero]; rfl
            case st8 =>
              go_simp
              refine hK _ _ ?_
              clear hK K
              try simp only [Act.put, List.setIfInBounds_toArray, List.set_cons_zero, List.set_cons_succ]
              have kt := cell_one_new Y2 (tv (linkB x (stp (d k)))) 9
              have hb : Below Y2.heap.size Y2 (Y2.alloc (.cells #[tv (linkB x (stp (d k)))] 9)) := chain0 _ _
              replace hWd := chain hWd hb
              replace kv : Boxed (Y2.alloc (.cells #[tv (linkB x (stp (d k)))] 9)) (w.heap.size + 1) 157 (.slice va k vc) := (hb.block _ kv.lt).trans kv
              replace kf : Boxed (Y2.alloc (.cells #[tv (linkB x (stp (d k)))] 9)) w.heap.size 144 (.func (.func fid) #[] lb) := (hb.block _ kf.lt).trans kf
              replace hown := own_below4 hown hb
              clear hb
              generalize (Y2.alloc (.cells #[tv (linkB x (stp (d k)))] 9)) = Y3 at *
              generalize Y2.heap.size = gt at *
              refine wpAny_ready (rs := [7]) (by kernel_rfl) (by simp) ?_
              refine' AllReady.cons (o := _) ?ho9 (fun K hK => ?st9) AllReady.nil
              case ho9 => simp only [List.getElem?_toArray, List.getElem?_cons_succ, List.getElem?_cons_zero]; rfl
              case st9 =>
                have hsz := hWd.size
                have hNW := Nat.le_trans hB.size hsz
                refine step_append_lies _ rfl (.tmp 12) (.tmp 18) 157 rfl w.heap.size 9 i0 (.string ⟨#[]⟩) 1 16 Tryz.underlying157 hi hz0 hz1 hz2 rfl (by decide) (.slice va k vc) k ts rfl hown ⟨gt, 0, none⟩ 1 1 [tv (linkB x (stp (d k)))] rfl rfl kt (by simp [Value.oneCell']) (by decide) (by have := HL.out; unfold maxLen; omega) (by have := HL.out; omega) hNW _ rfl ?_
                intro g c w1 hown' hgrow _ _
                refine hK _ _ ?_
                clear hK K
                try simp only [Act.put, List.setIfInBounds_toArray, List.set_cons_zero, List.set_cons_succ]
                refine wpAny_ready (rs := [8]) (by kernel_rfl) (by simp) ?_
                refine' AllReady.cons (o := _) ?ho10 (fun K hK => ?st10) AllReady.nil
                case ho10 => simp only [List.getElem?_toArray, List.getElem?_cons_succ, List.getElem?_cons_zero]; rfl
                case st10 =>
                  have kv1 := kv.kept hgrow (kv.not_row (by decide) hown)
                  have ko1 := kv1.cell
                  have kf1 := kv1.frozen
                  go_simp
                  refine hK _ _ ?_
                  clear hK K
                  try simp only [Act.put, List.setIfInBounds_toArray, List.set_cons_zero, List.set_cons_succ]
                  refine wpAny_done (by kernel_rfl) ?_ _
                  have hsp : Spares 9 Y3 w1 := (Spares.of_below (Below.refl _ Y3)).grown hgrow (fun r e => .inr (ownsRow_block hown r e))
                  have hrow3 := hown'.kept (grownBy_setCell' w1 (w.heap.size + 1) (.slice (some ⟨g, 0, none⟩) (k + 1) c)) (.inr (kv1.not_row (by decide) hown').symm)
                  have hbw := (((hWd.mono hB.size).trans ((Below.refl w.heap.size Y3).grown hgrow hNW (fun j hj => (World.ownsRow.lt hown j hj).1)))).setCell (p := ⟨w.heap.size + 1, 0, none⟩) (Nat.le_succ _) (.slice (some ⟨g, 0, none⟩) (k + 1) c)
                  have hko := ((KeepsOthers.of_grownBy (grown_of_below hWd) (by simp)).trans hsp.others).trans (KeepsOthers.setCell w1 ⟨w.heap.size + 1, 0, none⟩ (.slice (some ⟨g, 0, none⟩) (k + 1) c))
                  have kf3 := (kf.kept hgrow (kf.not_row (by decide) hown)).kept (grownBy_setCell' w1 (w.heap.size + 1) (.slice (some ⟨g, 0, none⟩) (k + 1) c)) (by simp)
                  rw [← HT.out] at hrow3
                  exact ⟨hko.from _, hbw, ⟨⟨_, kv1.set _, hrow3, trivial⟩, kf3⟩, hB.trans hbw⟩
    case st3 =>
      have cs := kf.cell
      go_simp
      clear cs
      refine hK _ _ ?_
      clear hK K
      try simp only [Act.put, List.setIfInBounds_toArray, List.set_cons_zero, List.set_cons_succ]
      refine wpAny_ready (rs := [0, 4]) (by kernel_rfl) (by simp) ?_
      refine' AllReady.cons (o := _) ?ho12 (fun K hK => ?st12) (AllReady.cons (o := _) ?ho11 (fun K hK => ?st11) AllReady.nil)
      case ho12 => simp only [List.getElem?_toArray, List.getElem?_cons_zero]; rfl
      case ho11 => simp only [List.getElem?_toArray, List.getElem?_cons_succ, List.getElem?_cons_zero]; rfl
      case st12 =>
        have cs := kv.cell
        go_simp
        clear cs
        refine hK _ _ ?_
        clear hK K
        try simp only [Act.put, List.setIfInBounds_toArray, List.set_cons_zero, List.set_cons_succ]
        refine wpAny_ready (rs := [4]) (by kernel_rfl) (by simp) ?_
        refine' AllReady.cons (o := _) ?ho13 (fun K hK => ?st13) AllReady.nil
        case ho13 => simp only [List.getElem?_toArray, List.getElem?_cons_succ, List.getElem?_cons_zero]; rfl
        case st13 =>
          go_simp
          refine (hst k Y HL.out (hB.trans (hWd.mono hB.size))).mono ?_
          rintro e Y1 ⟨rfl, hb⟩
          refine hK _ _ ?_
          clear hK K
          try simp only [Act.put, List.setIfInBounds_toArray, List.set_cons_zero, List.set_cons_succ]
          replace hWd := chain hWd hb
          replace kv : Boxed Y1 (w.heap.size + 1) 157 (.slice va k vc) := (hb.block _ kv.lt).trans kv
          replace kf : Boxed Y1 w.heap.size 144 (.func (.func fid) #[] lb) := (hb.block _ kf.lt).trans kf
          replace hown := own_below4 hown hb
          clear hb
          refine wpAny_ready (rs := [5]) (by kernel_rfl) (by simp) ?_
          refine' AllReady.cons (o := _) ?ho14 (fun K hK => ?st14) AllReady.nil
          case ho14 => simp only [List.getElem?_toArray, List.getElem?_cons_succ, List.getElem?_cons_zero]; rfl
          case st14 =>
            go_simp
            refine (walk_any x hxs (d k) _).mono ?_
            rintro e Y2 ⟨rfl, hb⟩
            refine hK _ _ ?_
            clear hK K
            try simp only [Act.put, List.setIfInBounds_toArray, List.set_cons_zero, List.set_cons_succ]
            replace hWd := chain hWd hb
            replace kv : Boxed Y2 (w.heap.size + 1) 157 (.slice va k vc) := (hb.block _ kv.lt).trans kv
            replace kf : Boxed Y2 w.heap.size 144 (.func (.func fid) #[] lb) := (hb.block _ kf.lt).trans kf
            replace hown := own_below4 hown hb
            clear hb
            refine wpAny_ready (rs := [6]) (by kernel_rfl) (by simp) ?_
            refine' AllReady.cons (o := _) ?ho15 (fun K hK => ?st15) AllReady.nil
            case ho15 => simp only [List.getElem?_toArray, List.getElem?_cons_succ, List.getElem?_cons_zero]; rfl
            case st15 =>
              go_simp
              refine hK _ _ ?_
              clear hK K
              try simp only [Act.put, List.setIfInBounds_toArray, List.set_cons_zero, List.set_cons_succ]
              have kt := cell_one_new Y2 (tv (linkB x (stp (d k)))) 9
              have hb : Below Y2.heap.size Y2 (Y2.alloc (.cells #[tv (linkB x (stp (d k)))] 9)) := chain0 _ _
              replace hWd := chain hWd hb
              replace kv : Boxed (Y2.alloc (.cells #[tv (linkB x (stp (d k)))] 9)) (w.heap.size + 1) 157 (.slice va k vc) := (hb.block _ kv.lt).trans kv
              replace kf : Boxed (Y2.alloc (.cells #[tv (linkB x (stp (d k)))] 9)) w.heap.size 144 (.func (.func fid) #[] lb) := (hb.block _ kf.lt).trans kf
              replace hown := own_below4 hown hb
              clear hb
              generalize (Y2.alloc (.cells #[tv (linkB x (stp (d k)))] 9)) = Y3 at *
              generalize Y2.heap.size = gt at *
              refine wpAny_ready (rs := [7]) (by kernel_rfl) (by simp) ?_
              refine' AllReady.cons (o := _) ?ho16 (fun K hK => ?st16) AllReady.nil
              case ho16 => simp only [List.getElem?_toArray, List.getElem?_cons_succ, List.getElem?_cons_zero]; rfl
              case st16 =>
                have hsz := hWd.size
                have hNW := Nat.le_trans hB.size hsz
                refine step_append_lies _ rfl (.tmp 12) (.tmp 18) 157 rfl w.heap.size 9 i0 (.string ⟨#[]⟩) 1 16 Tryz.underlying157 hi hz0 hz1 hz2 rfl (by decide) (.slice va k vc) k ts rfl hown ⟨gt, 0, none⟩ 1 1 [tv (linkB x (stp (d k)))] rfl rfl kt (by simp [Value.oneCell']) (by decide) (by have := HL.out; unfold maxLen; omega) (by have := HL.out; omega) hNW _ rfl ?_
                intro g c w1 hown' hgrow _ _
                refine hK _ _ ?_
                clear hK K
                try simp only [Act.put, List.setIfInBounds_toArray, List.set_cons_zero, List.set_cons_succ]
                refine wpAny_ready (rs := [8]) (by kernel_rfl) (by simp) ?_
                refine' AllReady.cons (o := _) ?ho17 (fun K hK => ?st17) AllReady.nil
                case ho17 => simp only [List.getElem?_toArray, List.getElem?_cons_succ, List.getElem?_cons_zero]; rfl
                case st17 =>
                  have kv1 := kv.kept hgrow (kv.not_row (by decide) hown)
                  have ko1 := kv1.cell
                  have kf1 := kv1.frozen
                  go_simp
                  refine hK _ _ ?_
                  clear hK K
                  try simp only [Act.put, List.setIfInBounds_toArray, List.set_cons_zero, List.set_cons_succ]
                  refine wpAny_done (by kernel_rfl) ?_ _
                  have hsp : Spares 9 Y3 w1 := (Spares.of_below (Below.refl _ Y3)).grown hgrow (fun r e => .inr (ownsRow_block hown r e))
                  have hrow3 := hown'.kept (grownBy_setCell' w1 (w.heap.size + 1) (.slice (some ⟨g, 0, none⟩) (k + 1) c)) (.inr (kv1.not_row (by decide) hown').symm)
                  have hbw := (((hWd.mono hB.size).trans ((Below.refl w.heap.size Y3).grown hgrow hNW (fun j hj => (World.ownsRow.lt hown j hj).1)))).setCell (p := ⟨w.heap.size + 1, 0, none⟩) (Nat.le_succ _) (.slice (some ⟨g, 0, none⟩) (k + 1) c)
                  have hko := ((KeepsOthers.of_grownBy (grown_of_below hWd) (by simp)).trans hsp.others).trans (KeepsOthers.setCell w1 ⟨w.heap.size + 1, 0, none⟩ (.slice (some ⟨g, 0, none⟩) (k + 1) c))
                  have kf3 := (kf.kept hgrow (kf.not_row (by decide) hown)).kept (grownBy_setCell' w1 (w.heap.size + 1) (.slice (some ⟨g, 0, none⟩) (k + 1) c)) (by simp)
                  rw [← HT.out] at hrow3
                  exact ⟨hko.from _, hbw, ⟨⟨_, kv1.set _, hrow3, trivial⟩, kf3⟩, hB.trans hbw⟩
      case st11 =>
        go_simp
        refine (hst k Y HL.out (hB.trans (hWd.mono hB.size))).mono ?_
        rintro e Y1 ⟨rfl, hb⟩
        refine hK _ _ ?_
        clear hK K
        try simp only [Act.put, List.setIfInBounds_toArray, List.set_cons_zero, List.set_cons_succ]
        replace hWd := chain hWd hb
        replace kv : Boxed Y1 (w.heap.size + 1) 157 (.slice va k vc) := (hb.block _ kv.lt).trans kv
        replace kf : Boxed Y1 w.heap.size 144 (.func (.func fid) #[] lb) := (hb.block _ kf.lt).trans kf
        replace hown := own_below4 hown hb
        clear hb
        refine wpAny_ready (rs := [0, 5]) (by kernel_rfl) (by simp) ?_
        refine' AllReady.cons (o := _) ?ho19 (fun K hK => ?st19) (AllReady.cons (o := _) ?ho18 (fun K hK => ?st18) AllReady.nil)
        case ho19 => simp only [List.getElem?_toArray, List.getElem?_cons_zero]; rfl
        case ho18 => simp only [List.getElem?_toArray, List.getElem?_cons_succ, List.getElem?_cons_zero]; rfl
        case st19 =>
          have cs := kv.cell
          go_simp
          clear cs
          refine hK _ _ ?_
          clear hK K
          try simp only [Act.put, List.setIfInBounds_toArray, List.set_cons_zero, List.set_cons_succ]
          refine wpAny_ready (rs := [5]) (by kernel_rfl) (by simp) ?_
          refine' AllReady.cons (o := _) ?ho20 (fun K hK => ?st20) AllReady.nil
          case ho20 => simp only [List.getElem?_toArray, List.getElem?_cons_succ, List.getElem?_cons_zero]; rfl
          case st20 =>
            go_simp
            refine (walk_any x hxs (d k) _).mono ?_
            rintro e Y2 ⟨rfl, hb⟩
            refine hK _ _ ?_
            clear hK K
            try simp only [Act.put, List.setIfInBounds_toArray, List.set_cons_zero, List.set_cons_succ]
            replace hWd := chain hWd hb
            replace kv : Boxed Y2 (w.heap.size + 1) 157 (.slice va k vc) := (hb.block _ kv.lt).trans kv
            replace kf : Boxed Y2 w.heap.size 144 (.func (.func fid) #[] lb) := (hb.block _ kf.lt).trans kf
            replace hown := own_below4 hown hb
            clear hb
            refine wpAny_ready (rs := [6]) (by kernel_rfl) (by simp) ?_
            refine' AllReady.cons (o := _) ?ho21 (fun K hK => ?st21) AllReady.nil
            case ho21 => simp only [List.getElem?_toArray, List.getElem?_cons_succ, List.getElem?_cons_zero]; rfl
            case st21 =>
              go_simp
              refine hK _ _ ?_
              clear hK K
              try simp only [Act.put, List.setIfInBounds_toArray, List.set_cons_zero, List.set_cons_succ]
              have kt := cell_one_new Y2 (tv (linkB x (stp (d k)))) 9
              have hb : Below Y2.heap.size Y2 (Y2.alloc (.cells #[tv (linkB x (stp (d k)))] 9)) := chain0 _ _
              replace hWd := chain hWd hb
              replace kv : Boxed (Y2.alloc (.cells #[tv (linkB x (stp (d k)))] 9)) (w.heap.size + 1) 157 (.slice va k vc) := (hb.block _ kv.lt).trans kv
              replace kf : Boxed (Y2.alloc (.cells #[tv (linkB x (stp (d k)))] 9)) w.heap.size 144 (.func (.func fid) #[] lb) := (hb.block _ kf.lt).trans kf
              replace hown := own_below4 hown hb
              clear hb
              generalize (Y2.alloc (.cells #[tv (linkB x (stp (d k)))] 9)) = Y3 at *
              generalize Y2.heap.size = gt at *
              refine wpAny_ready (rs := [7]) (by kernel_rfl) (by simp) ?_
              refine' AllReady.cons (o := _) ?ho22 (fun K hK => ?st22) AllReady.nil
              case ho22 => simp only [List.getElem?_toArray, List.getElem?_cons_succ, List.getElem?_cons_zero]; rfl
              case st22 =>
                have hsz := hWd.size
                have hNW := Nat.le_trans hB.size hsz
                refine step_append_lies _ rfl (.tmp 12) (.tmp 18) 157 rfl w.heap.size 9 i0 (.string ⟨#[]⟩) 1 16 Tryz.underlying157 hi hz0 hz1 hz2 rfl (by decide) (.slice va k vc) k ts rfl hown ⟨gt, 0, none⟩ 1 1 [tv (linkB x (stp (d k)))] rfl rfl kt (by simp [Value.oneCell']) (by decide) (by have := HL.out; unfold maxLen; omega) (by have := HL.out; omega) hNW _ rfl ?_
                intro g c w1 hown' hgrow _ _
                refine hK _ _ ?_
                clear hK K
                try simp only [Act.put, List.setIfInBounds_toArray, List.set_cons_zero, List.set_cons_succ]
                refine wpAny_ready (rs := [8]) (by kernel_rfl) (by simp) ?_
                refine' AllReady.cons (o := _) ?ho23 (fun K hK => ?st23) AllReady.nil
                case ho23 => simp only [List.getElem?_toArray, List.getElem?_cons_succ, List.getElem?_cons_zero]; rfl
                case st23 =>
                  have kv1 := kv.kept hgrow (kv.not_row (by decide) hown)
                  have ko1 := kv1.cell
                  have kf1 := kv1.frozen
                  go_simp
                  refine hK _ _ ?_
                  clear hK K
                  try simp only [Act.put, List.setIfInBounds_toArray, List.set_cons_zero, List.set_cons_succ]
                  refine wpAny_done (by kernel_rfl) ?_ _
                  have hsp : Spares 9 Y3 w1 := (Spares.of_below (Below.refl _ Y3)).grown hgrow (fun r e => .inr (ownsRow_block hown r e))
                  have hrow3 := hown'.kept (grownBy_setCell' w1 (w.heap.size + 1) (.slice (some ⟨g, 0, none⟩) (k + 1) c)) (.inr (kv1.not_row (by decide) hown').symm)
                  have hbw := (((hWd.mono hB.size).trans ((Below.refl w.heap.size Y3).grown hgrow hNW (fun j hj => (World.ownsRow.lt hown j hj).1)))).setCell (p := ⟨w.heap.size + 1, 0, none⟩) (Nat.le_succ _) (.slice (some ⟨g, 0, none⟩) (k + 1) c)
                  have hko := ((KeepsOthers.of_grownBy (grown_of_below hWd) (by simp)).trans hsp.others).trans (KeepsOthers.setCell w1 ⟨w.heap.size + 1, 0, none⟩ (.slice (some ⟨g, 0, none⟩) (k + 1) c))
                  have kf3 := (kf.kept hgrow (kf.not_row (by decide) hown)).kept (grownBy_setCell' w1 (w.heap.size + 1) (.slice (some ⟨g, 0, none⟩) (k + 1) c)) (by simp)
                  rw [← HT.out] at hrow3
                  exact ⟨hko.from _, hbw, ⟨⟨_, kv1.set _, hrow3, trivial⟩, kf3⟩, hB.trans hbw⟩
        case st18 =>
          go_simp
          refine (walk_any x hxs (d k) _).mono ?_
          rintro e Y2 ⟨rfl, hb⟩
          refine hK _ _ ?_
          clear hK K
          try simp only [Act.put, List.setIfInBounds_toArray, List.set_cons_zero, List.set_cons_succ]
          replace hWd := chain hWd hb
          replace kv : Boxed Y2 (w.heap.size + 1) 157 (.slice va k vc) := (hb.block _ kv.lt).trans kv
          replace kf : Boxed Y2 w.heap.size 144 (.func (.func fid) #[] lb) := (hb.block _ kf.lt).trans kf
          replace hown := own_below4 hown hb
          clear hb
          refine wpAny_ready (rs := [0, 6]) (by kernel_rfl) (by simp) ?_
          refine' AllReady.cons (o := _) ?ho25 (fun K hK => ?st25) (AllReady.cons (o := _) ?ho24 (fun K hK => ?st24) AllReady.nil)
          case ho25 => simp only [List.getElem?_toArray, List.getElem?_cons_zero]; rfl
          case ho24 => simp only [List.getElem?_toArray, List.getElem?_cons_succ, List.getElem?_cons_zero]; rfl
          case st25 =>
            have cs := kv.cell
            go_simp
            clear cs
            refine hK _ _ ?_
            clear hK K
            try simp only [Act.put, List.setIfInBounds_toArray, List.set_cons_zero, List.set_cons_succ]
            refine wpAny_ready (rs := [6]) (by kernel_rfl) (by simp) ?_
            refine' AllReady.cons (o := _) ?ho26 (fun K hK => ?st26) AllReady.nil
            case ho26 => simp only [List.getElem?_toArray, List.getElem?_cons_succ, List.getElem?_cons_zero]; rfl
            case st26 =>
              go_simp
              refine hK _ _ ?_
              clear hK K
              try simp only [Act.put, List.setIfInBounds_toArray, List.set_cons_zero, List.set_cons_succ]
              have kt := cell_one_new Y2 (tv (linkB x (stp (d k)))) 9
              have hb : Below Y2.heap.size Y2 (Y2.alloc (.cells #[tv (linkB x (stp (d k)))] 9)) := chain0 _ _
              replace hWd := chain hWd hb
              replace kv : Boxed (Y2.alloc (.cells #[tv (linkB x (stp (d k)))] 9)) (w.heap.size + 1) 157 (.slice va k vc) := (hb.block _ kv.lt).trans kv
              replace kf : Boxed (Y2.alloc (.cells #[tv (linkB x (stp (d k)))] 9)) w.heap.size 144 (.func (.func fid) #[] lb) := (hb.block _ kf.lt).trans kf
              replace hown := own_below4 hown hb
              clear hb
              generalize (Y2.alloc (.cells #[tv (linkB x (stp (d k)))] 9)) = Y3 at *
              generalize Y2.heap.size = gt at *
              refine wpAny_ready (rs := [7]) (by kernel_rfl) (by simp) ?_
              refine' AllReady.cons (o := _) ?ho27 (fun K hK => ?st27) AllReady.nil
              case ho27 => simp only [List.getElem?_toArray, List.getElem?_cons_succ, List.getElem?_cons_zero]; rfl
              case st27 =>
                have hsz := hWd.size
                have hNW := Nat.le_trans hB.size hsz
                refine step_append_lies _ rfl (.tmp 12) (.tmp 18) 157 rfl w.heap.size 9 i0 (.string ⟨#[]⟩) 1 16 Tryz.underlying157 hi hz0 hz1 hz2 rfl (by decide) (.slice va k vc) k ts rfl hown ⟨gt, 0, none⟩ 1 1 [tv (linkB x (stp (d k)))] rfl rfl kt (by simp [Value.oneCell']) (by decide) (by have := HL.out; unfold maxLen; omega) (by have := HL.out; omega) hNW _ rfl ?_
                intro g c w1 hown' hgrow _ _
                refine hK _ _ ?_
                clear hK K
                try simp only [Act.put, List.setIfInBounds_toArray, List.set_cons_zero, List.set_cons_succ]
                refine wpAny_ready (rs := [8]) (by kernel_rfl) (by simp) ?_
                refine' AllReady.cons (o := _) ?ho28 (fun K hK => ?st28) AllReady.nil
                case ho28 => simp only [List.getElem?_toArray, List.getElem?_cons_succ, List.getElem?_cons_zero]; rfl
                case st28 =>
                  have kv1 := kv.kept hgrow (kv.not_row (by decide) hown)
                  have ko1 := kv1.cell
                  have kf1 := kv1.frozen
                  go_simp
                  refine hK _ _ ?_
                  clear hK K
                  try simp only [Act.put, List.setIfInBounds_toArray, List.set_cons_zero, List.set_cons_succ]
                  refine wpAny_done (by kernel_rfl) ?_ _
                  have hsp : Spares 9 Y3 w1 := (Spares.of_below (Below.refl _ Y3)).grown hgrow (fun r e => .inr (ownsRow_block hown r e))
                  have hrow3 := hown'.kept (grownBy_setCell' w1 (w.heap.size + 1) (.slice (some ⟨g, 0, none⟩) (k + 1) c)) (.inr (kv1.not_row (by decide) hown').symm)
                  have hbw := (((hWd.mono hB.size).trans ((Below.refl w.heap.size Y3).grown hgrow hNW (fun j hj => (World.ownsRow.lt hown j hj).1)))).setCell (p := ⟨w.heap.size + 1, 0, none⟩) (Nat.le_succ _) (.slice (some ⟨g, 0, none⟩) (k + 1) c)
                  have hko := ((KeepsOthers.of_grownBy (grown_of_below hWd) (by simp)).trans hsp.others).trans (KeepsOthers.setCell w1 ⟨w.heap.size + 1, 0, none⟩ (.slice (some ⟨g, 0, none⟩) (k + 1) c))
                  have kf3 := (kf.kept hgrow (kf.not_row (by decide) hown)).kept (grownBy_setCell' w1 (w.heap.size + 1) (.slice (some ⟨g, 0, none⟩) (k + 1) c)) (by simp)
                  rw [← HT.out] at hrow3
                  exact ⟨hko.from _, hbw, ⟨⟨_, kv1.set _, hrow3, trivial⟩, kf3⟩, hB.trans hbw⟩
          case st24 =>
            go_simp
            refine hK _ _ ?_
            clear hK K
            try simp only [Act.put, List.setIfInBounds_toArray, List.set_cons_zero, List.set_cons_succ]
            have kt := cell_one_new Y2 (tv (linkB x (stp (d k)))) 9
            have hb : Below Y2.heap.size Y2 (Y2.alloc (.cells #[tv (linkB x (stp (d k)))] 9)) := chain0 _ _
            replace hWd := chain hWd hb
            replace kv : Boxed (Y2.alloc (.cells #[tv (linkB x (stp (d k)))] 9)) (w.heap.size + 1) 157 (.slice va k vc) := (hb.block _ kv.lt).trans kv
            replace kf : Boxed (Y2.alloc (.cells #[tv (linkB x (stp (d k)))] 9)) w.heap.size 144 (.func (.func fid) #[] lb) := (hb.block _ kf.lt).trans kf
            replace hown := own_below4 hown hb
            clear hb
            generalize (Y2.alloc (.cells #[tv (linkB x (stp (d k)))] 9)) = Y3 at *
            generalize Y2.heap.size = gt at *
            refine wpAny_ready (rs := [0]) (by kernel_rfl) (by simp) ?_
            refine' AllReady.cons (o := _) ?ho29 (fun K hK => ?st29) AllReady.nil
            case ho29 => simp only [List.getElem?_toArray, List.getElem?_cons_zero]; rfl
            case st29 =>
              have cs := kv.cell
              go_simp
              clear cs
              refine hK _ _ ?_
              clear hK K
              try simp only [Act.put, List.setIfInBounds_toArray, List.set_cons_zero, List.set_cons_succ]
              refine wpAny_ready (rs := [7]) (by kernel_rfl) (by simp) ?_
              refine' AllReady.cons (o := _) ?ho30 (fun K hK => ?st30) AllReady.nil
              case ho30 => simp only [List.getElem?_toArray, List.getElem?_cons_succ, List.getElem?_cons_zero]; rfl
              case st30 =>
                have hsz := hWd.size
                have hNW := Nat.le_trans hB.size hsz
                refine step_append_lies _ rfl (.tmp 12) (.tmp 18) 157 rfl w.heap.size 9 i0 (.string ⟨#[]⟩) 1 16 Tryz.underlying157 hi hz0 hz1 hz2 rfl (by decide) (.slice va k vc) k ts rfl hown ⟨gt, 0, none⟩ 1 1 [tv (linkB x (stp (d k)))] rfl rfl kt (by simp [Value.oneCell']) (by decide) (by have := HL.out; unfold maxLen; omega) (by have := HL.out; omega) hNW _ rfl ?_
                intro g c w1 hown' hgrow _ _
                refine hK _ _ ?_
                clear hK K
                try simp only [Act.put, List.setIfInBounds_toArray, List.set_cons_zero, List.set_cons_succ]
                refine wpAny_ready (rs := [8]) (by kernel_rfl) (by simp) ?_
                refine' AllReady.cons (o := _) ?ho31 (fun K hK => ?st31) AllReady.nil
                case ho31 => simp only [List.getElem?_toArray, List.getElem?_cons_succ, List.getElem?_cons_zero]; rfl
                case st31 =>
                  have kv1 := kv.kept hgrow (kv.not_row (by decide) hown)
                  have ko1 := kv1.cell
                  have kf1 := kv1.frozen
                  go_simp
                  refine hK _ _ ?_
                  clear hK K
                  try simp only [Act.put, List.setIfInBounds_toArray, List.set_cons_zero, List.set_cons_succ]
                  refine wpAny_done (by kernel_rfl) ?_ _
                  have hsp : Spares 9 Y3 w1 := (Spares.of_below (Below.refl _ Y3)).grown hgrow (fun r e => .inr (ownsRow_block hown r e))
                  have hrow3 := hown'.kept (grownBy_setCell' w1 (w.heap.size + 1) (.slice (some ⟨g, 0, none⟩) (k + 1) c)) (.inr (kv1.not_row (by decide) hown').symm)
                  have hbw := (((hWd.mono hB.size).trans ((Below.refl w.heap.size Y3).grown hgrow hNW (fun j hj => (World.ownsRow.lt hown j hj).1)))).setCell (p := ⟨w.heap.size + 1, 0, none⟩) (Nat.le_succ _) (.slice (some ⟨g, 0, none⟩) (k + 1) c)
                  have hko := ((KeepsOthers.of_grownBy (grown_of_below hWd) (by simp)).trans hsp.others).trans (KeepsOthers.setCell w1 ⟨w.heap.size + 1, 0, none⟩ (.slice (some ⟨g, 0, none⟩) (k + 1) c))
                  have kf3 := (kf.kept hgrow (kf.not_row (by decide) hown)).kept (grownBy_setCell' w1 (w.heap.size + 1) (.slice (some ⟨g, 0, none⟩) (k + 1) c)) (by simp)
                  rw [← HT.out] at hrow3
                  exact ⟨hko.from _, hbw, ⟨⟨_, kv1.set _, hrow3, trivial⟩, kf3⟩, hB.trans hbw⟩
  · rintro D W hD ⟨⟨⟨v, kv, hown, _⟩, _⟩, hB⟩ hK
    have ko := kv.cell
    have HZ := Lib.hid hz5
    rw [List.take_of_length_le (by simp [walked_length])] at hown
    clear hz5
    gi_wp2
    have hB' := hB.trans (belowK_b (w := w) (Nat.le_refl _) _ D _ (.deferred none) (by have := HZ.out; omega) hK rfl rfl)
    have hown3 := ownsRow_putObj hown (.deferred none) hK rfl
    refine ⟨by simp, .inl ⟨_, _, rfl, run_takeDeferred hK, ?_⟩⟩
    refine ⟨v, ?_, ?_⟩
    · simp [results, Tryz.f150, go_sem]
    · exact ⟨v, rfl, hown3, hB'⟩
theorem walkAll_any (zs : List ByteArray) (hn : zs.length ≤ 1000000) (hz : ∀ x ∈ zs, x.size ≤ 140737488353000) (d : Nat → Int) (sv : Value) (w : World) (hsv : VSl 0 w.heap.size w sv (zs.map tv))
    (fid : Nat) (lb : Array Value) (eg : ∀ args w, (callFunc fid args).run Tryz.prog w = .ok (.enter fid args) w)
    (hst : ∀ k W, k < zs.length → Below w.heap.size w W → Calls Tryz.prog fid (#[.int .i64 (k : Int)] ++ lb) W fun e W' => e = .returned (.int .i64 (d k)) ∧ Below W.heap.size W W') :
    Calls Tryz.prog 150 #[sv, .func (.func fid) #[] lb] w (RowW w.heap.size 9 zs.length ((walked zs d).map tv) w) := callsIn_wide.1 (walkAll_in 3 (by omega) zs hn hz d sv w hsv fid lb eg hst)
end Go.Proofs.YtechcdkakgpnkaaGreat
