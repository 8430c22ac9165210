/-
  The walk of FieldReads: whatever is read of any octets is as the reference reads it.
-/
import Derived.Test.YtjhfchjffiliaaaFieldRefV
import Derived.Test.YtjhfchjffiliaaaFieldWritesW
import Derived.Test.YtjhfchjffiliaaaWideEq
import Derived.StillTactics
namespace Go.Proofs.Ytjhfchjffiliaaa
open Go.RowKit Go.Shelf

/-- One more field is read. -/
def getS (s : St) (f : Fld) : St := if kindF f.k = 0 then (mostS s 6 (min f.n 1099511627776)).2 else if kindF f.k = 1 then (gtxtS s (min f.n 1024)).2 else (takeS s 32).2
def readS (b : List UInt8) (l : List Fld) : St := l.foldl getS (openS b)
theorem readS_snoc {b : List UInt8} {l : List Fld} {k : Nat} {f : Fld} (h : l[k]? = some f) : readS b (l.take (k + 1)) = getS (readS b (l.take k)) f := by
  rw [List.take_add_one, h]
  simp [readS]
theorem ObjP.noOct {T : TypeId} {W : World} {B : Nat} {s : St} (h : ObjP T W (some ⟨B, 0, none⟩) s) : NoOct W B := by
  rcases h with ⟨h, _⟩ | ⟨B', m, a, n, c, x, e, hb, _⟩
  · cases h
  · cases e; exact noOct3 hb
theorem ObjP.lt {T : TypeId} {W : World} {B : Nat} {s : St} (h : ObjP T W (some ⟨B, 0, none⟩) s) : B < W.heap.size := by
  rcases h with ⟨h, _⟩ | ⟨B', m, a, n, c, x, e, hb, _⟩
  · cases h
  · cases e; exact hb.lt
/-- A field of an object, and a struct of the reference's beside it: behind two stores into the struct. -/
theorem objP_stored {T Tr : TypeId} {W : World} {NB XB : Nat} {s : St} {a : Option Addr} {m c : Nat} {x : Int} {sv : Value} {y : Int} (h : ObjP T W (some ⟨NB, 0, none⟩) s) (kW : Blk W XB Tr [.slice a m c, .int .i64 x]) (hne : XB ≠ NB) (hs : ∃ a m c, sv = .slice a m c) :
    ObjP T ((W.setCell ⟨XB, 0, none⟩ sv).setCell ⟨XB, 1, none⟩ (.int .i64 y)) (some ⟨NB, 0, none⟩) s := by
  obtain ⟨a2, m2, c2, rfl⟩ := hs
  have hn : (Option.map (fun x : Addr => x.block) (some ⟨NB, 0, none⟩)) ≠ some XB := fun e => hne (by simpa using e.symm)
  exact (h.to (grownBy_setCell4 W XB 0 (.slice a2 m2 c2)) (fun r e => by cases e; exact ⟨noOct2 kW, hn⟩)).to (grownBy_setCell4 _ XB 1 (.int .i64 y)) (fun r e => by cases e; exact ⟨noOct2 (kW.set 0 (.slice a2 m2 c2)), hn⟩)
theorem objP_words {T Tw : TypeId} {W : World} {NB AB : Nat} {s : St} {b0 b1 b2 b3 : Int} {y0 y1 y2 y3 : Int} (h : ObjP T W (some ⟨NB, 0, none⟩) s) (k0 : Blk W AB Tw [.int .u64 b0, .int .u64 b1, .int .u64 b2, .int .u64 b3]) (hne : AB ≠ NB) :
    ObjP T ((((W.setCell ⟨AB, 0, none⟩ (.int .u64 y0)).setCell ⟨AB, 1, none⟩ (.int .u64 y1)).setCell ⟨AB, 2, none⟩ (.int .u64 y2)).setCell ⟨AB, 3, none⟩ (.int .u64 y3)) (some ⟨NB, 0, none⟩) s := by
  have hn : (Option.map (fun x : Addr => x.block) (some ⟨NB, 0, none⟩)) ≠ some AB := fun e => hne (by simpa using e.symm)
  have k1 := k0.set 0 (.int .u64 y0)
  have k2 := k1.set 1 (.int .u64 y1)
  have k3 := k2.set 2 (.int .u64 y2)
  exact (((h.to (grownBy_setCell4 W AB 0 (.int .u64 y0)) (fun r e => by cases e; exact ⟨noOct4 k0, hn⟩)).to (grownBy_setCell4 _ AB 1 (.int .u64 y1)) (fun r e => by cases e; exact ⟨noOct4 k1, hn⟩)).to (grownBy_setCell4 _ AB 2 (.int .u64 y2)) (fun r e => by cases e; exact ⟨noOct4 k2, hn⟩)).to (grownBy_setCell4 _ AB 3 (.int .u64 y3)) (fun r e => by cases e; exact ⟨noOct4 k3, hn⟩)
theorem errQ {p : Option Addr} {s : St} {w : World} (h : ObjP 61 w p s) : Calls Try.prog 21 #[.pointer p] w fun e W' => e = .returned (.int .i64 s.2) ∧ W' = w := (inErr_any w h).mono fun _ _ h => ⟨h.1, h.2.symm⟩
theorem leftQ {p : Option Addr} {s : St} {w : World} (h : ObjP 61 w p s) : Calls Try.prog 22 #[.pointer p] w fun e W' => e = .returned (.int .i64 (s.1.length : Nat)) ∧ W' = w := (inLeft_any w h).mono fun _ _ h => ⟨h.1, h.2.symm⟩
theorem numQ (x : Int) (w : World) : Calls Try.prog 10 #[.int .i64 x] w fun e W' => e = .returned (.int .i64 x) ∧ W' = w := (errnum_any x w).mono fun _ _ h => ⟨h.1, h.2.symm⟩

set_option maxRecDepth 100000 in
set_option maxHeartbeats 8000000 in
theorem fieldReads_any (b0 : List UInt8) (sb : Value) (l : List Fld) (sv : Value) (w : World) (hreach : b0.length ≤ 140737488351232) (hsb : BSl 0 w.heap.size w sb b0) (hsl : FSl w sv l) :
    Calls Try.prog 4 #[sb, sv] w fun e W' => e = .returned (.bool true) ∧ Below w.heap.size w W' := by
  have hmx : Try.prog.follows .mixedOrders = true := by kernel_rfl
  obtain ⟨ab, mb, cb, rfl⟩ := hsb.shape3
  obtain ⟨a, cap, rfl, hm, hok, h0⟩ := hsl
  go_enter Try.func4, Try.ntmps4
  go_wp2_with (first
    | (go_at_call 11; refine (alive_any w).mono ?_; rintro e w1 ⟨rfl, hb1⟩; have hsb1 := (hsb.below hb1 (Nat.le_refl _)).mono (Nat.le_refl _) hb1.size)
    | (go_at_call 12; refine (inOpen_any b0 _ _ hreach hsb1).mono ?_; rintro e w2 ⟨NB, rfl, hNB, hO2, hb2⟩; have hsb2 := (hsb1.below hb2 (Nat.le_refl _)).mono (Nat.le_refl _) hb2.size)
    | (go_at_call 13; refine (refOpen6_any b0 _ _ hsb2).mono ?_; rintro e w3 ⟨v3, rfl, hq3, hb3⟩; obtain ⟨a3, m3, c3, rfl⟩ := hq3.shape3))
  generalize hW0 : World.alloc _ _ = W0
  have kW0 : Blk W0 w3.heap.size 35 [.slice a3 m3 c3, .int .i64 (openS b0).2] := by rw [← hW0]; exact Blk.new w3 _ [_, _]
  have hb4 : Below w3.heap.size w3 W0 := by rw [← hW0]; exact chain0 _ _
  clear hW0
  have hBw : Below w.heap.size w W0 := chain (chain (chain hb1 hb2) hb3) hb4
  have hO0 := (hO2.below hb3).below hb4
  have hq0 := (hq3.below hb4 (Nat.le_refl _)).mono (Nat.le_refl _) hb4.size
  have hNw : w.heap.size ≤ NB := Nat.le_trans hb1.size hNB
  have hXw : w.heap.size ≤ w3.heap.size := (chain (chain hb1 hb2) hb3).size
  have hne : w3.heap.size ≠ NB := by have := hO2.lt; have := hb3.size; omega
  clear hsb1 hsb2 hb1 hb2 hb3 hb4 hq3 hO2 hNB hsb
  generalize w3.heap.size = XB at *
  go_loopw [7] (fun i wr => ∃ k : Nat, k ≤ l.length ∧ i = .int .i64 k ∧ (ObjP 61 wr (some ⟨NB, 0, none⟩) (readS b0 (l.take k)) ∧ ∃ a m c, Blk wr XB 35 [.slice a m c, .int .i64 (readS b0 (l.take k)).2] ∧ BSl 0 wr.heap.size wr (.slice a m c) (readS b0 (l.take k)).1) ∧ Below w.heap.size w wr) (fun i _ => l.length - (intOf i).toNat)
  case atStart => exact ⟨0, by omega, rfl, ⟨hO0, _, _, _, kW0, hq0⟩, hBw⟩
  case round =>
    clear hO0 kW0 hq0 hBw
    obtain ⟨k, hk, rfl, ⟨hO, a', m', c', kW, hq⟩, hB⟩ := hrel
    by_cases hlt : k < l.length
    · obtain ⟨f, hf⟩ : ∃ f, l[k]? = some f := ⟨_, List.getElem?_eq_getElem hlt⟩
      obtain ⟨b, off, rfl, hbw, hr⟩ := h0.resolve_left (by intro e; rw [e] at hlt; simp at hlt)
      have HF := Lib.hid (readS_snoc (b := b0) hf)
      obtain ⟨x0, x1, x2, x3, x4, x5, x6⟩ := (hr.below hB hbw).at hf
      obtain ⟨z0, z1, z2, z3, z4, z5, z6⟩ := hr.at hf
      clear hok hr h0 hf
      generalize hL : l.length = L at *
      have HL := Lib.hid hL
      clear hL
      generalize readS b0 (l.take k) = s at *
      have hlt' : (k : Int) < (L : Int) := by omega
      rcases kindF_cases f.k with hk0 | hk0 | hk0
      · have HG : Hid (getS s f = (mostS s 6 (min f.n 1099511627776)).2) := by rw [getS, if_pos hk0]; exact Lib.hid rfl
        have HK := Lib.hid hk0
        clear hk0
        go_wp2_with (first
          | (go_at_call 14; refine (kind_any f _).mono ?_; rw [HK.out]; rintro e w2 ⟨rfl, hb2⟩))
        have hO2 := hO.below hb2
        have kW2 := kW.below hb2 kW.lt
        have hq2 := (hq.below hb2 (Nat.le_refl _)).mono (Nat.le_refl _) hb2.size
        have hB2 := chain hB hb2
        clear hO kW hq hB hb2 x0 x1 x2 x3 x4 x5 x6
        have hN := Lib.hid (fun W h => inNum_any (p := some ⟨NB, 0, none⟩) (s := s) f.n W h)
        have hRN := Lib.hid (fun a W h => refGetNum_any (s := s) a f.n W h)
        generalize mostS s 6 (min f.n 1099511627776) = r at *
        refine wp_region_held_drew (S := fun W => Below w.heap.size w W) hmx hB2.drew ?_
        intro hS
        replace hO2 : ObjP 61 w2.drew (some ⟨NB, 0, none⟩) s := hO2
        replace kW2 : Blk w2.drew XB 35 [.slice a' m' c', .int .i64 s.2] := kW2
        replace hq2 : BSl 0 w2.drew.heap.size w2.drew (.slice a' m' c') s.1 := hq2
        clear hB2
        generalize w2.drew = Y at *
        refine' wpAnyH_take (i := 1) (oi := _) (v := _) ?hi1 (by kernel_rfl) (by kernel_rfl) (by kernel_rfl) ?hQ1 (Or.inl ⟨?hw1, ?hy1⟩) hS ?rest1
        case hi1 => simp only [List.getElem?_toArray, List.getElem?_cons_succ, List.getElem?_cons_zero]; rfl
        case hQ1 => exact fun _ _ _ h => h
        case hw1 => rfl
        case hy1 => intro W' hS'; go_simp; with_reducible rfl
        try simp only [Act.put, List.setIfInBounds_toArray, List.set_cons_zero, List.set_cons_succ]
        refine' wpAnyH_take (i := 2) (oi := _) (v := _) ?hi2 (by kernel_rfl) (by kernel_rfl) (by kernel_rfl) ?hQ2 (Or.inl ⟨?hw2, ?hy2⟩) hS ?rest2
        case hi2 => simp only [List.getElem?_toArray, List.getElem?_cons_succ, List.getElem?_cons_zero]; rfl
        case hQ2 => exact fun _ _ _ h => h
        case hw2 => rfl
        case hy2 => intro W' hS'; go_simp; with_reducible rfl
        try simp only [Act.put, List.setIfInBounds_toArray, List.set_cons_zero, List.set_cons_succ]
        refine' wpAnyH_take (i := 3) (oi := _) (v := _) ?hi3 (by kernel_rfl) (by kernel_rfl) (by kernel_rfl) ?hQ3 (Or.inl ⟨?hw3, ?hy3⟩) hS ?rest3
        case hi3 => simp only [List.getElem?_toArray, List.getElem?_cons_succ, List.getElem?_cons_zero]; rfl
        case hQ3 => exact fun _ _ _ h => h
        case hw3 => rfl
        case hy3 => intro W' hS'; go_simp; with_reducible rfl
        try simp only [Act.put, List.setIfInBounds_toArray, List.set_cons_zero, List.set_cons_succ]
        refine' wpAnyH_take (i := 4) (oi := _) (v := _) ?hi4 (by kernel_rfl) (by kernel_rfl) (by kernel_rfl) ?hQ4 (Or.inl ⟨?hw4, ?hy4⟩) hS ?rest4
        case hi4 => simp only [List.getElem?_toArray, List.getElem?_cons_succ, List.getElem?_cons_zero]; rfl
        case hQ4 => exact fun _ _ _ h => h
        case hw4 => rfl
        case hy4 => intro W' hS'; go_simp; with_reducible rfl
        try simp only [Act.put, List.setIfInBounds_toArray, List.set_cons_zero, List.set_cons_succ]
        refine' wpAnyH_take (i := 5) (oi := _) (v := _) ?hi5 (by kernel_rfl) (by kernel_rfl) (by kernel_rfl) ?hQ5 (Or.inl ⟨?hw5, ?hy5⟩) hS ?rest5
        case hi5 => simp only [List.getElem?_toArray, List.getElem?_cons_succ, List.getElem?_cons_zero]; rfl
        case hQ5 => exact fun _ _ _ h => h
        case hw5 => rfl
        case hy5 => intro W' hS'; have hc := (hS'.cell (p := ⟨b, off + k * 7 + 1, none⟩) hbw).trans z1; go_simp; with_reducible rfl
        try simp only [Act.put, List.setIfInBounds_toArray, List.set_cons_zero, List.set_cons_succ]
        refine wpAnyH_ready (rs := [0]) (by kernel_rfl) (by simp) ?_
        refine' AllReadyH.cons (o := _) ?ho6 (fun K hK => ?st6) AllReadyH.nil
        case ho6 => simp only [List.getElem?_toArray, List.getElem?_cons_zero]; rfl
        case st6 =>
          obtain ⟨y0, y1⟩ := Blk.c2 kW2
          go_simp
          refine hK.out _ _ hS (fun hS => ?_)
          clear hK K
          try simp only [Act.put, List.setIfInBounds_toArray, List.set_cons_zero, List.set_cons_succ]
          clear y0 y1
          refine wpAnyH_ready (rs := [6]) (by kernel_rfl) (by simp) ?_
          refine' AllReadyH.cons (o := _) ?ho7 (fun K hK => ?st7) AllReadyH.nil
          case ho7 => simp only [List.getElem?_toArray, List.getElem?_cons_succ, List.getElem?_cons_zero]; rfl
          case st7 =>
            go_simp
            refine (hRN.out (.slice a' m' c') _ hq2).mono ?_
            rintro e Y2 ⟨v2, rfl, hv2, hb⟩
            refine hK.out _ _ (hS.trans (hb.mono hS.size)) (fun hS => ?_)
            clear hK K
            try simp only [Act.put, List.setIfInBounds_toArray, List.set_cons_zero, List.set_cons_succ]
            obtain ⟨a5, m5, c5, rfl⟩ := hv2.shape3
            replace hO2 := hO2.below hb
            replace kW2 := kW2.below hb kW2.lt
            clear hb hq2
            refine' wpAnyH_take (i := 7) (oi := _) (v := _) ?hi8 (by kernel_rfl) (by kernel_rfl) (by kernel_rfl) ?hQ8 (Or.inl ⟨?hw8, ?hy8⟩) hS ?rest8
            case hi8 => simp only [List.getElem?_toArray, List.getElem?_cons_succ, List.getElem?_cons_zero]; rfl
            case hQ8 => exact fun _ _ _ h => h
            case hw8 => rfl
            case hy8 => intro W' hS'; go_simp; with_reducible rfl
            try simp only [Act.put, List.setIfInBounds_toArray, List.set_cons_zero, List.set_cons_succ]
            refine' wpAnyH_take (i := 8) (oi := _) (v := _) ?hi9 (by kernel_rfl) (by kernel_rfl) (by kernel_rfl) ?hQ9 (Or.inl ⟨?hw9, ?hy9⟩) hS ?rest9
            case hi9 => simp only [List.getElem?_toArray, List.getElem?_cons_succ, List.getElem?_cons_zero]; rfl
            case hQ9 => exact fun _ _ _ h => h
            case hw9 => rfl
            case hy9 => intro W' hS'; go_simp; with_reducible rfl
            try simp only [Act.put, List.setIfInBounds_toArray, List.set_cons_zero, List.set_cons_succ]
            refine' wpAnyH_take (i := 9) (oi := _) (v := _) ?hi10 (by kernel_rfl) (by kernel_rfl) (by kernel_rfl) ?hQ10 (Or.inl ⟨?hw10, ?hy10⟩) hS ?rest10
            case hi10 => simp only [List.getElem?_toArray, List.getElem?_cons_succ, List.getElem?_cons_zero]; rfl
            case hQ10 => exact fun _ _ _ h => h
            case hw10 => rfl
            case hy10 => intro W' hS'; go_simp; with_reducible rfl
            try simp only [Act.put, List.setIfInBounds_toArray, List.set_cons_zero, List.set_cons_succ]
            refine' wpAnyH_take (i := 10) (oi := _) (v := _) ?hi11 (by kernel_rfl) (by kernel_rfl) (by kernel_rfl) ?hQ11 (Or.inl ⟨?hw11, ?hy11⟩) hS ?rest11
            case hi11 => simp only [List.getElem?_toArray, List.getElem?_cons_succ, List.getElem?_cons_zero]; rfl
            case hQ11 => exact fun _ _ _ h => h
            case hw11 => rfl
            case hy11 => intro W' hS'; go_simp; with_reducible rfl
            try simp only [Act.put, List.setIfInBounds_toArray, List.set_cons_zero, List.set_cons_succ]
            refine wpAnyH_ready (rs := [11]) (by kernel_rfl) (by simp) ?_
            refine' AllReadyH.cons (o := _) ?ho12 (fun K hK => ?st12) AllReadyH.nil
            case ho12 => simp only [List.getElem?_toArray, List.getElem?_cons_succ, List.getElem?_cons_zero]; rfl
            case st12 =>
              obtain ⟨y0, y1⟩ := Blk.c2 kW2
              have g0 := kW2.frozen 0
              have g1 := kW2.frozen 1
              go_simp
              obtain ⟨kW3, hq3, hB3⟩ := stored_at (y := r.2.2) hv2 hS hXw ⟨_, _, _, rfl⟩ kW2
              have hO3 := objP_stored (sv := .slice a5 m5 c5) (y := r.2.2) hO2 kW2 hne ⟨_, _, _, rfl⟩
              refine hK.out _ _ hB3 (fun hS => ?_)
              clear hK K
              try simp only [Act.put, List.setIfInBounds_toArray, List.set_cons_zero, List.set_cons_succ]
              clear y0 y1 g0 g1 kW2 hO2 hv2 hS
              generalize World.setCell (World.setCell Y2 _ _) _ _ = Y3 at *
              refine wpAnyH_done (by kernel_rfl) ?_ _
              have x1' := (hB3.cell (p := ⟨b, off + k * 7 + 1, none⟩) hbw).trans z1
              go_wp2_with (first
                | (go_at_call 16; refine (hN.out _ hO3).mono ?_; rintro e w4 ⟨rfl, hO4, hG4⟩))
              clear x1'
              have kW4 := kW3.kept hG4 (fun e => hne (by simpa using e))
              have hq4 := (hq3.to (Nat.le_refl _) hG4 (fun r e => by cases e; exact hO3.noOct)).mono (Nat.le_refl _) hG4.size
              have hB4 := hB3.grown hG4 hB3.size (fun j e => by cases e; exact hNw)
              clear kW3 hq3 hB3 hO3 hG4
              clear hN hRN
              generalize r.2 = u at *
              obtain ⟨av, dv, ev, hcv⟩ := hq4.shape
              rw [ev] at kW4 hq4
              clear ev hcv
              generalize hlen : u.1.length = ul at *
              have HLEN := Lib.hid hlen
              clear hlen
              go_wp2_with fail
              replace hO4 : ObjP 61 w4.drew (some ⟨NB, 0, none⟩) u := hO4
              replace kW4 : Blk w4.drew XB 35 [.slice av ul dv, .int .i64 u.2] := kW4
              replace hq4 : BSl 0 w4.drew.heap.size w4.drew (.slice av ul dv) u.1 := hq4
              replace hB4 : Below w.heap.size w w4.drew := hB4.drew
              have hE := errQ hO4
              have hLf := leftQ hO4
              rw [HLEN.out] at hLf
              have hNm := numQ u.2 w4.drew
              obtain ⟨y0, y1⟩ := Blk.c2 kW4
              refine wp_region_still_lit (by kernel_rfl) (by kernel_rfl) ?_
              change wpStill _ _ w4.drew _ _ _
              still_step
              still_call hE
              still_call hNm
              still_step
              still_step
              still_step
              still_step
              still_step
              still_call hLf
              repeat still_step
              refine wpStill_nil ?_
              change Exit.then _ _ _ _ w4.drew
              clear hE hLf hNm y0 y1
              generalize w4.drew = Y at *
              go_wp2_with fail
              go_roundw
              case rel => exact ⟨k + 1, by omega, by go_num, ⟨by rw [HF.out, HG.out]; exact hO4, av, ul, dv, by rw [HF.out, HG.out]; exact kW4, by rw [HF.out, HG.out]; exact hq4⟩, hB4⟩
              case measure => simp [intOf]; omega
      · have HG : Hid (getS s f = (gtxtS s (min f.n 1024)).2) := by rw [getS, if_neg (by omega), if_pos hk0]; exact Lib.hid rfl
        have HK := Lib.hid hk0
        clear hk0
        go_wp2_with (first
          | (go_at_call 14; refine (kind_any f _).mono ?_; rw [HK.out]; rintro e w2 ⟨rfl, hb2⟩))
        have hO2 := hO.below hb2
        have kW2 := kW.below hb2 kW.lt
        have hq2 := (hq.below hb2 (Nat.le_refl _)).mono (Nat.le_refl _) hb2.size
        have hB2 := chain hB hb2
        clear hO kW hq hB hb2 x0 x1 x2 x3 x4 x5 x6
        have hN := Lib.hid (fun W h => inText_any (p := some ⟨NB, 0, none⟩) (s := s) f.n W h)
        have hRN := Lib.hid (fun a W h => refGetText_any (s := s) a f.n W h)
        generalize gtxtS s (min f.n 1024) = r at *
        have he : (r.1 == r.1) = true := by simp
        refine wp_region_held_drew (S := fun W => Below w.heap.size w W) hmx hB2.drew ?_
        intro hS
        replace hO2 : ObjP 61 w2.drew (some ⟨NB, 0, none⟩) s := hO2
        replace kW2 : Blk w2.drew XB 35 [.slice a' m' c', .int .i64 s.2] := kW2
        replace hq2 : BSl 0 w2.drew.heap.size w2.drew (.slice a' m' c') s.1 := hq2
        clear hB2
        generalize w2.drew = Y at *
        refine' wpAnyH_take (i := 1) (oi := _) (v := _) ?hi13 (by kernel_rfl) (by kernel_rfl) (by kernel_rfl) ?hQ13 (Or.inl ⟨?hw13, ?hy13⟩) hS ?rest13
        case hi13 => simp only [List.getElem?_toArray, List.getElem?_cons_succ, List.getElem?_cons_zero]; rfl
        case hQ13 => exact fun _ _ _ h => h
        case hw13 => rfl
        case hy13 => intro W' hS'; go_simp; with_reducible rfl
        try simp only [Act.put, List.setIfInBounds_toArray, List.set_cons_zero, List.set_cons_succ]
        refine' wpAnyH_take (i := 2) (oi := _) (v := _) ?hi14 (by kernel_rfl) (by kernel_rfl) (by kernel_rfl) ?hQ14 (Or.inl ⟨?hw14, ?hy14⟩) hS ?rest14
        case hi14 => simp only [List.getElem?_toArray, List.getElem?_cons_succ, List.getElem?_cons_zero]; rfl
        case hQ14 => exact fun _ _ _ h => h
        case hw14 => rfl
        case hy14 => intro W' hS'; go_simp; with_reducible rfl
        try simp only [Act.put, List.setIfInBounds_toArray, List.set_cons_zero, List.set_cons_succ]
        refine' wpAnyH_take (i := 3) (oi := _) (v := _) ?hi15 (by kernel_rfl) (by kernel_rfl) (by kernel_rfl) ?hQ15 (Or.inl ⟨?hw15, ?hy15⟩) hS ?rest15
        case hi15 => simp only [List.getElem?_toArray, List.getElem?_cons_succ, List.getElem?_cons_zero]; rfl
        case hQ15 => exact fun _ _ _ h => h
        case hw15 => rfl
        case hy15 => intro W' hS'; go_simp; with_reducible rfl
        try simp only [Act.put, List.setIfInBounds_toArray, List.set_cons_zero, List.set_cons_succ]
        refine' wpAnyH_take (i := 4) (oi := _) (v := _) ?hi16 (by kernel_rfl) (by kernel_rfl) (by kernel_rfl) ?hQ16 (Or.inl ⟨?hw16, ?hy16⟩) hS ?rest16
        case hi16 => simp only [List.getElem?_toArray, List.getElem?_cons_succ, List.getElem?_cons_zero]; rfl
        case hQ16 => exact fun _ _ _ h => h
        case hw16 => rfl
        case hy16 => intro W' hS'; go_simp; with_reducible rfl
        try simp only [Act.put, List.setIfInBounds_toArray, List.set_cons_zero, List.set_cons_succ]
        refine' wpAnyH_take (i := 5) (oi := _) (v := _) ?hi17 (by kernel_rfl) (by kernel_rfl) (by kernel_rfl) ?hQ17 (Or.inl ⟨?hw17, ?hy17⟩) hS ?rest17
        case hi17 => simp only [List.getElem?_toArray, List.getElem?_cons_succ, List.getElem?_cons_zero]; rfl
        case hQ17 => exact fun _ _ _ h => h
        case hw17 => rfl
        case hy17 => intro W' hS'; have hc := (hS'.cell (p := ⟨b, off + k * 7 + 1, none⟩) hbw).trans z1; go_simp; with_reducible rfl
        try simp only [Act.put, List.setIfInBounds_toArray, List.set_cons_zero, List.set_cons_succ]
        refine wpAnyH_ready (rs := [0]) (by kernel_rfl) (by simp) ?_
        refine' AllReadyH.cons (o := _) ?ho18 (fun K hK => ?st18) AllReadyH.nil
        case ho18 => simp only [List.getElem?_toArray, List.getElem?_cons_zero]; rfl
        case st18 =>
          obtain ⟨y0, y1⟩ := Blk.c2 kW2
          go_simp
          refine hK.out _ _ hS (fun hS => ?_)
          clear hK K
          try simp only [Act.put, List.setIfInBounds_toArray, List.set_cons_zero, List.set_cons_succ]
          clear y0 y1
          refine wpAnyH_ready (rs := [6]) (by kernel_rfl) (by simp) ?_
          refine' AllReadyH.cons (o := _) ?ho19 (fun K hK => ?st19) AllReadyH.nil
          case ho19 => simp only [List.getElem?_toArray, List.getElem?_cons_succ, List.getElem?_cons_zero]; rfl
          case st19 =>
            go_simp
            refine (hRN.out (.slice a' m' c') _ hq2).mono ?_
            rintro e Y2 ⟨v2, rfl, hv2, hb⟩
            refine hK.out _ _ (hS.trans (hb.mono hS.size)) (fun hS => ?_)
            clear hK K
            try simp only [Act.put, List.setIfInBounds_toArray, List.set_cons_zero, List.set_cons_succ]
            obtain ⟨a5, m5, c5, rfl⟩ := hv2.shape3
            replace hO2 := hO2.below hb
            replace kW2 := kW2.below hb kW2.lt
            clear hb hq2
            refine' wpAnyH_take (i := 7) (oi := _) (v := _) ?hi20 (by kernel_rfl) (by kernel_rfl) (by kernel_rfl) ?hQ20 (Or.inl ⟨?hw20, ?hy20⟩) hS ?rest20
            case hi20 => simp only [List.getElem?_toArray, List.getElem?_cons_succ, List.getElem?_cons_zero]; rfl
            case hQ20 => exact fun _ _ _ h => h
            case hw20 => rfl
            case hy20 => intro W' hS'; go_simp; with_reducible rfl
            try simp only [Act.put, List.setIfInBounds_toArray, List.set_cons_zero, List.set_cons_succ]
            refine' wpAnyH_take (i := 8) (oi := _) (v := _) ?hi21 (by kernel_rfl) (by kernel_rfl) (by kernel_rfl) ?hQ21 (Or.inl ⟨?hw21, ?hy21⟩) hS ?rest21
            case hi21 => simp only [List.getElem?_toArray, List.getElem?_cons_succ, List.getElem?_cons_zero]; rfl
            case hQ21 => exact fun _ _ _ h => h
            case hw21 => rfl
            case hy21 => intro W' hS'; go_simp; with_reducible rfl
            try simp only [Act.put, List.setIfInBounds_toArray, List.set_cons_zero, List.set_cons_succ]
            refine' wpAnyH_take (i := 9) (oi := _) (v := _) ?hi22 (by kernel_rfl) (by kernel_rfl) (by kernel_rfl) ?hQ22 (Or.inl ⟨?hw22, ?hy22⟩) hS ?rest22
            case hi22 => simp only [List.getElem?_toArray, List.getElem?_cons_succ, List.getElem?_cons_zero]; rfl
            case hQ22 => exact fun _ _ _ h => h
            case hw22 => rfl
            case hy22 => intro W' hS'; go_simp; with_reducible rfl
            try simp only [Act.put, List.setIfInBounds_toArray, List.set_cons_zero, List.set_cons_succ]
            refine' wpAnyH_take (i := 10) (oi := _) (v := _) ?hi23 (by kernel_rfl) (by kernel_rfl) (by kernel_rfl) ?hQ23 (Or.inl ⟨?hw23, ?hy23⟩) hS ?rest23
            case hi23 => simp only [List.getElem?_toArray, List.getElem?_cons_succ, List.getElem?_cons_zero]; rfl
            case hQ23 => exact fun _ _ _ h => h
            case hw23 => rfl
            case hy23 => intro W' hS'; go_simp; with_reducible rfl
            try simp only [Act.put, List.setIfInBounds_toArray, List.set_cons_zero, List.set_cons_succ]
            refine wpAnyH_ready (rs := [11]) (by kernel_rfl) (by simp) ?_
            refine' AllReadyH.cons (o := _) ?ho24 (fun K hK => ?st24) AllReadyH.nil
            case ho24 => simp only [List.getElem?_toArray, List.getElem?_cons_succ, List.getElem?_cons_zero]; rfl
            case st24 =>
              obtain ⟨y0, y1⟩ := Blk.c2 kW2
              have g0 := kW2.frozen 0
              have g1 := kW2.frozen 1
              go_simp
              obtain ⟨kW3, hq3, hB3⟩ := stored_at (y := r.2.2) hv2 hS hXw ⟨_, _, _, rfl⟩ kW2
              have hO3 := objP_stored (sv := .slice a5 m5 c5) (y := r.2.2) hO2 kW2 hne ⟨_, _, _, rfl⟩
              refine hK.out _ _ hB3 (fun hS => ?_)
              clear hK K
              try simp only [Act.put, List.setIfInBounds_toArray, List.set_cons_zero, List.set_cons_succ]
              clear y0 y1 g0 g1 kW2 hO2 hv2 hS
              generalize World.setCell (World.setCell Y2 _ _) _ _ = Y3 at *
              refine wpAnyH_done (by kernel_rfl) ?_ _
              have x1' := (hB3.cell (p := ⟨b, off + k * 7 + 1, none⟩) hbw).trans z1
              go_wp2_with (first
                | (go_at_call 18; refine (hN.out _ hO3).mono ?_; rintro e w4 ⟨rfl, hO4, hG4⟩))
              clear x1'
              have kW4 := kW3.kept hG4 (fun e => hne (by simpa using e))
              have hq4 := (hq3.to (Nat.le_refl _) hG4 (fun r e => by cases e; exact hO3.noOct)).mono (Nat.le_refl _) hG4.size
              have hB4 := hB3.grown hG4 hB3.size (fun j e => by cases e; exact hNw)
              clear kW3 hq3 hB3 hO3 hG4
              clear hN hRN he
              generalize r.2 = u at *
              obtain ⟨av, dv, ev, hcv⟩ := hq4.shape
              rw [ev] at kW4 hq4
              clear ev hcv
              generalize hlen : u.1.length = ul at *
              have HLEN := Lib.hid hlen
              clear hlen
              go_wp2_with fail
              replace hO4 : ObjP 61 w4.drew (some ⟨NB, 0, none⟩) u := hO4
              replace kW4 : Blk w4.drew XB 35 [.slice av ul dv, .int .i64 u.2] := kW4
              replace hq4 : BSl 0 w4.drew.heap.size w4.drew (.slice av ul dv) u.1 := hq4
              replace hB4 : Below w.heap.size w w4.drew := hB4.drew
              have hE := errQ hO4
              have hLf := leftQ hO4
              rw [HLEN.out] at hLf
              have hNm := numQ u.2 w4.drew
              obtain ⟨y0, y1⟩ := Blk.c2 kW4
              refine wp_region_still_lit (by kernel_rfl) (by kernel_rfl) ?_
              change wpStill _ _ w4.drew _ _ _
              still_step
              still_call hE
              still_call hNm
              still_step
              still_step
              still_step
              still_step
              still_step
              still_call hLf
              repeat still_step
              refine wpStill_nil ?_
              change Exit.then _ _ _ _ w4.drew
              clear hE hLf hNm y0 y1
              generalize w4.drew = Y at *
              go_wp2_with fail
              go_roundw
              case rel => exact ⟨k + 1, by omega, by go_num, ⟨by rw [HF.out, HG.out]; exact hO4, av, ul, dv, by rw [HF.out, HG.out]; exact kW4, by rw [HF.out, HG.out]; exact hq4⟩, hB4⟩
              case measure => simp [intOf]; omega
      · have HG : Hid (getS s f = (takeS s 32).2) := by rw [getS, if_neg (by omega), if_neg (by omega)]; exact Lib.hid rfl
        have HK := Lib.hid hk0
        clear hk0
        have hweq := @run_equalIn_wide
        have hwr := wEq_refl
        have hN := Lib.hid (fun W h => inWide_any (p := some ⟨NB, 0, none⟩) (s := s) W h)
        have hRN := Lib.hid (fun a W h => refGetWide_any (s := s) a W h)
        unfold WidS at hN
        unfold WidR at hRN
        generalize takeS s 32 = r at *
        generalize wdS r.1 0 = v0 at *
        generalize wdS r.1 1 = v1 at *
        generalize wdS r.1 2 = v2 at *
        generalize wdS r.1 3 = v3 at *
        go_wp2_with (first
          | (go_at_call 14; refine (kind_any f _).mono ?_; rw [HK.out]; rintro e w2 ⟨rfl, hb2⟩; have kW3 := (kW.below hb2 kW.lt).alloc (.cells #[.int .u64 0, .int .u64 0, .int .u64 0, .int .u64 0] 40); obtain ⟨y0, y1⟩ := Blk.c2 kW3)
          | (go_at_call 19; (have hq3 := (hq.below (chain hb2 (chain0 w2 (.cells #[.int .u64 0, .int .u64 0, .int .u64 0, .int .u64 0] 40))) (Nat.le_refl _)).mono (Nat.le_refl _) (chain hb2 (chain0 w2 (.cells #[.int .u64 0, .int .u64 0, .int .u64 0, .int .u64 0] 40))).size); refine (hRN.out (.slice a' m' c') _ hq3).mono ?_; rintro e w3 ⟨sv3, rfl, hv3, hb3⟩; obtain ⟨a5, m5, c5, rfl⟩ := hv3.shape3; have kA4 := (Blk.new w2 40 [.int .u64 0, .int .u64 0, .int .u64 0, .int .u64 0]).below hb3 (by simp); have kW4 := kW3.below hb3 kW3.lt; obtain ⟨t0, t1, t2, t3⟩ := Blk.c4 kA4; have g0 := kA4.frozen 0; have g1 := kA4.frozen 1; have g2 := kA4.frozen 2; have g3 := kA4.frozen 3; obtain ⟨r0, r1⟩ := Blk.c2 kW4; have f0 := kW4.frozen 0; have f1 := kW4.frozen 1; (have hAX : w2.heap.size ≠ XB := by have := (kW.below hb2 kW.lt).lt; omega); have hAX2 := hAX.symm))
        have hbX := chain0 w2 (.cells #[.int .u64 0, .int .u64 0, .int .u64 0, .int .u64 0] 40)
        have hO2 := hO.below hb2
        have hB2 := chain hB hb2
        have hO4 := (hO2.below hbX).below hb3
        have hB4 := chain (chain hB2 hbX) hb3
        have hAN : w2.heap.size ≠ NB := by have := hO2.lt; omega
        have hAw : w.heap.size ≤ w2.heap.size := hB2.size
        have kA5 := (((kA4.set 0 (.int .u64 (v0 : Nat))).set 1 (.int .u64 (v1 : Nat))).set 2 (.int .u64 (v2 : Nat))).set 3 (.int .u64 (v3 : Nat))
        have kW5 := (((kW4.other 0 (.int .u64 (v0 : Nat)) hAX2).other 1 (.int .u64 (v1 : Nat)) hAX2).other 2 (.int .u64 (v2 : Nat)) hAX2).other 3 (.int .u64 (v3 : Nat)) hAX2
        have hv5 := words_keep hv3 kA4 (y0 := v0) (y1 := v1) (y2 := v2) (y3 := v3)
        have hO5 := objP_words (y0 := v0) (y1 := v1) (y2 := v2) (y3 := v3) hO4 kA4 hAN
        have hB5 := (((hB4.setCell (p := ⟨w2.heap.size, 0, none⟩) hAw (.int .u64 (v0 : Nat))).setCell (p := ⟨w2.heap.size, 1, none⟩) hAw (.int .u64 (v1 : Nat))).setCell (p := ⟨w2.heap.size, 2, none⟩) hAw (.int .u64 (v2 : Nat))).setCell (p := ⟨w2.heap.size, 3, none⟩) hAw (.int .u64 (v3 : Nat))
        obtain ⟨kW6, hq6, hB6⟩ := stored_at (y := r.2.2) hv5 hB5 hXw ⟨_, _, _, rfl⟩ kW5
        have kA6 := (kA5.other 0 (.slice a5 m5 c5) hAX).other 1 (.int .i64 r.2.2) hAX
        have hO6 := objP_stored (sv := .slice a5 m5 c5) (y := r.2.2) hO5 kW5 hne ⟨_, _, _, rfl⟩
        clear y0 y1 t0 t1 t2 t3 g0 g1 g2 g3 r0 r1 f0 f1 hO kW hq hB hb2 kW3 hb3 hv3 kA4 kW4 hbX hO2 hB2 hO4 hB4 kA5 kW5 hv5 hO5 hB5 x0 x1 x2 x3 x4 x5 x6
        generalize World.setCell (World.setCell (World.setCell (World.setCell (World.setCell (World.setCell w3 _ _) _ _) _ _) _ _) _ _) _ _ = Y3 at *
        generalize w2.heap.size = AB at *
        refine wp_region_held_drew (S := fun W => Blk W AB 40 [.int .u64 (v0 : Nat), .int .u64 (v1 : Nat), .int .u64 (v2 : Nat), .int .u64 (v3 : Nat)]) hmx kA6 ?_
        intro hS
        clear kA6
        replace hO6 : ObjP 61 Y3.drew (some ⟨NB, 0, none⟩) s := hO6
        replace kW6 : Blk Y3.drew XB 35 [.slice a5 m5 c5, .int .i64 r.2.2] := kW6
        replace hq6 : BSl 0 Y3.drew.heap.size Y3.drew (.slice a5 m5 c5) r.2.1 := hq6
        replace hB6 : Below w.heap.size w Y3.drew := hB6.drew
        generalize Y3.drew = Y4 at *
        refine' wpAnyH_take (i := 0) (oi := _) (v := _) ?hi25 (by kernel_rfl) (by kernel_rfl) (by kernel_rfl) ?hQ25 (Or.inl ⟨?hw25, ?hy25⟩) hS ?rest25
        case hi25 => simp only [List.getElem?_toArray, List.getElem?_cons_zero]; rfl
        case hQ25 => exact fun _ _ _ h => h
        case hw25 => rfl
        case hy25 => intro W' hS'; go_simp; with_reducible rfl
        try simp only [Act.put, List.setIfInBounds_toArray, List.set_cons_zero, List.set_cons_succ]
        refine' wpAnyH_take (i := 2) (oi := _) (v := _) ?hi26 (by kernel_rfl) (by kernel_rfl) (by kernel_rfl) ?hQ26 (Or.inl ⟨?hw26, ?hy26⟩) hS ?rest26
        case hi26 => simp only [List.getElem?_toArray, List.getElem?_cons_succ, List.getElem?_cons_zero]; rfl
        case hQ26 => exact fun _ _ _ h => h
        case hw26 => rfl
        case hy26 => intro W' hS'; obtain ⟨c0, c1, c2, c3⟩ := Blk.c4 hS'; go_simp; with_reducible rfl
        try simp only [Act.put, List.setIfInBounds_toArray, List.set_cons_zero, List.set_cons_succ]
        refine wpAnyH_ready (rs := [1]) (by kernel_rfl) (by simp) ?_
        refine' AllReadyH.cons (o := _) ?ho27 (fun K hK => ?st27) AllReadyH.nil
        case ho27 => simp only [List.getElem?_toArray, List.getElem?_cons_succ, List.getElem?_cons_zero]; rfl
        case st27 =>
          go_simp
          refine (hN.out _ hO6).mono ?_
          rintro e w4 ⟨rfl, hO4, hG4⟩
          refine hK.out _ _ (hS.kept hG4 (fun e => hAN (by simpa using e))) (fun hS => ?_)
          clear hK K
          try simp only [Act.put, List.setIfInBounds_toArray, List.set_cons_zero, List.set_cons_succ]
          refine' wpAnyH_take (i := 3) (oi := _) (v := _) ?hi28 (by kernel_rfl) (by kernel_rfl) (by kernel_rfl) ?hQ28 (Or.inl ⟨?hw28, ?hy28⟩) hS ?rest28
          case hi28 => simp only [List.getElem?_toArray, List.getElem?_cons_succ, List.getElem?_cons_zero]; rfl
          case hQ28 => exact fun _ _ _ h => h
          case hw28 => rfl
          case hy28 => intro W' hS'; go_simp; with_reducible rfl
          try simp only [Act.put, List.setIfInBounds_toArray, List.set_cons_zero, List.set_cons_succ]
          refine wpAnyH_done (by kernel_rfl) ?_ _
          have kW4 := kW6.kept hG4 (fun e => hne (by simpa using e))
          have hq4 := (hq6.to (Nat.le_refl _) hG4 (fun r e => by cases e; exact hO6.noOct)).mono (Nat.le_refl _) hG4.size
          have hB4 := hB6.grown hG4 hB6.size (fun j e => by cases e; exact hNw)
          clear kW6 hq6 hB6 hO6 hG4 hS hweq hN hRN
          generalize r.2 = u at *
          obtain ⟨av, dv, ev, hcv⟩ := hq4.shape
          rw [ev] at kW4 hq4
          clear ev hcv
          generalize hlen : u.1.length = ul at *
          have HLEN := Lib.hid hlen
          clear hlen
          go_wp2_with fail
          replace hO4 : ObjP 61 w4.drew (some ⟨NB, 0, none⟩) u := hO4
          replace kW4 : Blk w4.drew XB 35 [.slice av ul dv, .int .i64 u.2] := kW4
          replace hq4 : BSl 0 w4.drew.heap.size w4.drew (.slice av ul dv) u.1 := hq4
          replace hB4 : Below w.heap.size w w4.drew := hB4.drew
          have hE := errQ hO4
          have hLf := leftQ hO4
          rw [HLEN.out] at hLf
          have hNm := numQ u.2 w4.drew
          obtain ⟨y0, y1⟩ := Blk.c2 kW4
          refine wp_region_still_lit (by kernel_rfl) (by kernel_rfl) ?_
          change wpStill _ _ w4.drew _ _ _
          still_step
          still_call hE
          still_call hNm
          still_step
          still_step
          still_step
          still_step
          still_step
          still_call hLf
          repeat still_step
          refine wpStill_nil ?_
          change Exit.then _ _ _ _ w4.drew
          clear hE hLf hNm y0 y1
          generalize w4.drew = Y at *
          go_wp2_with fail
          go_roundw
          case rel => exact ⟨k + 1, by omega, by go_num, ⟨by rw [HF.out, HG.out]; exact hO4, av, ul, dv, by rw [HF.out, HG.out]; exact kW4, by rw [HF.out, HG.out]; exact hq4⟩, hB4⟩
          case measure => simp [intOf]; omega
    · obtain rfl : k = l.length := by omega
      rw [List.take_length] at hO kW hq
      generalize hL : l.length = L at *
      have HL := Lib.hid hL
      clear hL
      generalize readS b0 l = s at *
      have hoks : OkS (errS s 16) := okS_err hO.ok 16
      have hu : (errS s 16).2 ≠ 0 := by
        by_cases h : s.2 = 0
        · rw [show errS s 16 = ([], 16) from if_pos h]; decide
        · rw [errS_bad h]; exact h
      have hul : Hid ((errS s 16).1.length = 0) := by rw [hoks.1 hu]; exact Lib.hid rfl
      clear hoks hu
      have HSP := Lib.hid (fun W h => refSpoil_any (s := s) (.slice a' m' c') W h)
      have HIS := Lib.hid (fun W h => inSpoil_any (p := some ⟨NB, 0, none⟩) (s := s) W h)
      generalize errS s 16 = u at *
      go_wp2_with (first
        | (go_at_call 23; refine (HIS.out _ hO).mono ?_; rintro e w4 ⟨rfl, hO4, hG4⟩; (have kW4 := kW.kept hG4 (fun e => hne (by simpa using e))); obtain ⟨y0, y1⟩ := Blk.c2 kW4)
        | (go_at_call 24; (have hq4 := (hq.to (Nat.le_refl _) hG4 (fun r e => by cases e; exact hO.noOct)).mono (Nat.le_refl _) hG4.size); refine (HSP.out _ hq4).mono ?_; rintro e w5 ⟨sv5, rfl, hq5, hb5⟩; obtain ⟨a5, m5, c5, rfl⟩ := hq5.shape3; have kW5 := kW4.below hb5 kW4.lt; obtain ⟨r0, r1⟩ := Blk.c2 kW5; have g0 := kW5.frozen 0; have g1 := kW5.frozen 1))
      have hB4 := hB.grown hG4 hB.size (fun j e => by cases e; exact hNw)
      have hO5 := hO4.below hb5
      obtain ⟨kW6, hq6, hB6⟩ := stored_at (y := u.2) hq5 (chain hB4 hb5) hXw ⟨_, _, _, rfl⟩ kW5
      have hO6 := objP_stored (sv := .slice a5 m5 c5) (y := u.2) hO5 kW5 hne ⟨_, _, _, rfl⟩
      clear y0 y1 r0 r1 g0 g1 kW5 hO5 hq5 hb5 hB4 kW4 hO4 hq4 hG4 hO kW hq hB hq6
      generalize World.setCell (World.setCell w5 _ _) _ _ = Y3 at *
      replace hO6 : ObjP 61 Y3.drew (some ⟨NB, 0, none⟩) u := hO6
      replace kW6 : Blk Y3.drew XB 35 [.slice a5 m5 c5, .int .i64 u.2] := kW6
      replace hB6 : Below w.heap.size w Y3.drew := hB6.drew
      have hE := errQ hO6
      have hLf := leftQ hO6
      rw [hul.out] at hLf
      have hNm := numQ u.2 Y3.drew
      obtain ⟨y0, y1⟩ := Blk.c2 kW6
      refine wp_region_still_lit (by kernel_rfl) (by kernel_rfl) ?_
      change wpStill _ _ Y3.drew _ _ _
      still_step
      still_call hE
      still_call hNm
      still_step
      still_step
      still_step
      still_step
      still_step
      still_call hLf
      repeat still_step
      refine wpStill_nil ?_
      change Exit.then _ _ _ _ Y3.drew
      clear hE hLf hNm y0 y1
      generalize Y3.drew = Y at *
      go_wp2_with fail
      go_ret
      exact ⟨rfl, hB6⟩
end Go.Proofs.Ytjhfchjffiliaaa
