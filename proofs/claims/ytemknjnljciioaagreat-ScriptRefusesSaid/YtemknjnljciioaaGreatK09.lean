/-
  Scripts: the first step, Read
-/
import Derived.Test.YtemknjnljciioaaGreatK08
namespace Go.Proofs.YtemknjnljciioaaGreat
open Go.RowKit Go.Shelf
attribute [local irreducible] wpFrom wpAnyH StepH
theorem Blk.outF {W W' : World} {B : Nat} {T : TypeId} {vs : List Value} {F : List Nat} (h : Blk W B T vs) (ho : Out F W W') (hn : B ∉ F) : Blk W' B T vs := (ho.block B h.lt hn).trans h
theorem cat1_any {N : Nat} {T : TypeId} (l : List UInt8) {q : List UInt8} (hq : l = q) (s : Value) (W : World) (hl : l.length ≤ 140737488355328) (h : BSl 0 W.heap.size W s l) (k : Blk W N T [s]) :
    Calls Tryz.prog 19 #[.slice (some ⟨N, 0, none⟩) 1 1] W (ByW q W) := by
  subst hq
  let zs : List (SX 140737488355328 W.heap.size W) := [⟨(s, l), h, by simp only; omega⟩]
  have hfl : flat zs = l := by simp [flat, zs]
  have := cat_any (.slice (some ⟨N, 0, none⟩) 1 1) W zs (by simp [zs]) (by rw [hfl]; omega)
    ⟨_, _, rfl, .inr ⟨N, 0, rfl, k.lt, fun i x hx => by
      rw [Nat.zero_add, k.cell i]
      match i, hx with
      | 0, hx => simp only [zs, List.getElem?_cons_zero, Option.some.injEq] at hx; rw [← hx]; rfl
      | i + 1, hx => simp [zs] at hx⟩⟩
  rw [hfl] at this
  exact this
theorem sub_fit {b : List UInt8} {e s : Nat} (hs : s ≤ 2) {f : Int} (hf : f = 0 ∨ f = 32768) : IntKind.i64.wrap (nx b e s - f) = nx b e s - f := IntWalk.i64_in _ (by have := nx_lt b e hs; omega)
def lnV : Value → Nat
  | .slice _ n _ => n
  | _ => 0
set_option maxRecDepth 100000 in
set_option maxHeartbeats 4000000 in
theorem next_any {E C : Nat} {T : TypeId} {a : Option Addr} {c : Nat} (b : List UInt8) (e s : Nat) (w : World) (hE : Blk w E 3 [.int .i64 (e : Int)]) (hC : Blk w C T [.slice a b.length c]) (hne : C ≠ E) (hs : BF [E] w (.slice a b.length c) b) (h7 : s ≤ 7) (hle : e + s ≤ b.length) (hb : b.length ≤ 140737488351232) : Calls Tryz.prog 41 #[.int .i64 (s : Int), .pointer (some ⟨E, 0, none⟩), .pointer (some ⟨C, 0, none⟩)] w fun e' W' => e' = .returned (.int .i64 (nx b e s)) ∧ RTurn (.blk E 3 [.int .i64 (e : Int)]) (.blk E 3 [.int .i64 ((e + s : Nat) : Int)]) w W' := by
  have hmx : Tryz.prog.follows .mixedOrders = true := by kernel_rfl
  have HC := Lib.hid hC
  have HNE := Lib.hid (show C ∉ (Res.blk E 3 [.int .i64 (e : Int)]).foot from fun x => hne (List.mem_singleton.1 x))
  have HS := Lib.hid hs
  have HLE := Lib.hid hle
  have HSZ := Lib.hid h7
  have HRB := Lib.hid hb
  have hM := Sep.begin1 (r := .blk E 3 [.int .i64 (e : Int)]) ⟨hE, fun k hk => by obtain rfl := List.mem_singleton.1 hk; exact hE.lt⟩
  clear hE hC hne hs hle h7 hb
  go_enter Tryz.func41, Tryz.ntmps41
  go_upto_region 0 with fail
  refine wp_region_fromM (fun W => Sep w (Res.blk E 3 [.int .i64 (e : Int)]).foot [.blk E 3 ([.int .i64 (e : Int)])] W) hM ?_
  clear hM
  rintro Y1 hM
  refine tF 1 [.val 0 (some 4) (.int .i64 0)] trivial ?_
  refine dF ?_
  try simp only [puts, Tk.put, Act.put, List.setIfInBounds_toArray, List.set_cons_zero, List.set_cons_succ]
  go_upto_region 1 with fail
  refine wp_region_fromM (fun W => Sep w (Res.blk E 3 [.int .i64 (e : Int)]).foot [.blk E 3 ([.int .i64 (e : Int)])] W) hM ?_
  clear hM
  rintro Y2 hM
  refine tF 2 [.load 0 (some 6) 3 (pt E 0) (.int .i64 (e : Int)), .val 1 (some 5) (.int .i64 (e : Int))] ⟨ld_any _ _ Tryz.underlying3 rfl (hM.at 0 rfl) 0 rfl, trivial⟩ ?_
  refine dF ?_
  try simp only [puts, Tk.put, Act.put, List.setIfInBounds_toArray, List.set_cons_zero, List.set_cons_succ]
  go_upto_region 2 with fail
  refine wp_region_fromM (fun W => Sep w (Res.blk E 3 [.int .i64 (e : Int)]).foot [.blk E 3 ([.int .i64 (e : Int)])] W) hM ?_
  clear hM
  rintro Y3 hM
  refine tF 3 [.load 0 (some 7) 3 (pt E 0) (.int .i64 (e : Int)), .val 1 (some 8) (.int .i64 (s : Int)), .alt 2 (some 9) (.int .i64 (IntKind.i64.wrap ((e : Int) + (s : Int)))) (.int .i64 ((e + s : Nat) : Int))] ⟨ld_any _ _ Tryz.underlying3 rfl (hM.at 0 rfl) 0 rfl, congrArg (Value.int .i64) ((IntWalk.i64_in _ (by have h := HLE.out; have h2 := HRB.out; omega)).trans (by omega)), trivial⟩ ?_
  have hst := sto_part ([.int .i64 ((e + s : Nat) : Int)]) (hM.at 0 rfl) 0 3 (.int .i64 ((e + s : Nat) : Int)) ([.int .i64 ((e + s : Nat) : Int)]) rfl (by kernel_rfl) (Nat.le_of_ble_eq_true rfl) rfl rfl
  refine sF 3 (pt E 0) (.int .i64 ((e + s : Nat) : Int)) (hst) ?_
  clear hst
  replace hM := hM.set 0 (cs' := [.int .i64 ((e + s : Nat) : Int)]) rfl rfl
  generalize World.setRow _ _ _ = Y4 at *
  refine dF ?_
  try simp only [puts, Tk.put, Act.put, List.setIfInBounds_toArray, List.set_cons_zero, List.set_cons_succ]
  go_upto_region 3 with fail
  obtain ⟨ac, cc, hrun, hcb, _⟩ := cutLH (HS.out.out hM.out).bsl (i := e) (j := e + s) rfl rfl (Nat.le_add_right _ _) HLE.out
  have HR := Lib.hid hrun
  have HCB := Lib.hid hcb
  clear hrun hcb
  refine wp_region_fromM (fun W => Sep w (Res.blk E 3 [.int .i64 (e : Int)]).foot [.blk E 3 ([.int .i64 ((e + s : Nat) : Int)])] W) hM ?_
  clear hM
  rintro Y5 hM
  refine tF 4 [.load 0 (some 10) 22 (pt C 0) (.slice a b.length c), .val 1 (some 11) (.int .i64 (e : Int)), .load 2 (some 12) 3 (pt E 0) (.int .i64 ((e + s : Nat) : Int)), .slc 3 (some 13) 22 (.slice a b.length c) (some (.int .i64 (e : Int))) (some (.int .i64 ((e + s : Nat) : Int))) none (.slice ac ((b.drop e).take (e + s - e)).length cc)] ⟨ld_any _ _ Tryz.underlying22 rfl (HC.out.outF hM.out HNE.out) 0 rfl, ld_any _ _ Tryz.underlying3 rfl (hM.at 0 rfl) 0 rfl, HR.out _, trivial⟩ ?_
  refine cF (some 14) 42 #[.slice ac ((b.drop e).take (e + s - e)).length cc] ((intB_any ((b.drop e).take (e + s - e)) (q := be ((b.drop e).take s)) (by rw [Nat.add_sub_cancel_left]) _ _ (by have h := HSZ.out; rw [List.length_take]; omega) (HCB.out _ _ _ (HS.out.out hM.out).bsl)).mono ?_)
  rintro e Y6 ⟨rfl, hb⟩
  replace hM := hM.below hb
  clear hb
  refine tF 6 [.val 5 (some 4) (.int .i64 (nx b e s))] trivial ?_
  refine dF ?_
  try simp only [puts, Tk.put, Act.put, List.setIfInBounds_toArray, List.set_cons_zero, List.set_cons_succ]
  go_wp2_with fail
  go_ret
  exact ⟨rfl, hM.fin1⟩
def rdP (b : List UInt8) : Nat → Sp
  | 0 => noSp
  | 1 => Sp.mk (nx b 0 1 - 0) 0 0 0 none 0 []
  | 2 => Sp.mk (nx b 0 1 - 0) (nx b 1 2 - 32768) 0 0 none 0 []
  | 3 => Sp.mk (nx b 0 1 - 0) (nx b 1 2 - 32768) (nx b 3 2 - 32768) 0 none 0 []
  | _ => Sp.mk (nx b 0 1 - 0) (nx b 1 2 - 32768) (nx b 3 2 - 32768) (nx b 5 2 - 32768) none 0 []
def posP : Nat → Nat
  | 0 => 0
  | 1 => 1
  | 2 => 3
  | 3 => 5
  | _ => 7
def FstP (b : List UInt8) (w : World) (e : Ending) (W' : World) : Prop := ∃ x : Sp, e = .returned (.tuple #[spv x, .int .i64 ((szF b : Nat) : Int)]) ∧ (szF b ≠ 0 → plP x = gotP b) ∧ Sep w [] [.oct (.slice x.ad x.l.length x.cp) x.l] W'
set_option maxRecDepth 100000 in
set_option maxHeartbeats 4000000 in
theorem firstP_any (b : List UInt8) {v : Value} (w : World) (hln : b.length ≤ 140737488351232) (hs : BSl 0 w.heap.size w v b) : Calls Tryz.prog 12 #[v] w (FstP b w) := by
  have hmx : Tryz.prog.follows .mixedOrders = true := by kernel_rfl
  obtain ⟨a, c, rfl, _⟩ := hs.slice
  have HB := Lib.hid hs
  have HLN := Lib.hid hln
  clear hs hln
  have hM := Sep.start w
  go_enter Tryz.func12, Tryz.ntmps12
  go_upto_region 0 with fail
  refine wp_region_fromM (fun W => Sep w [] [] W) hM ?_
  clear hM
  rintro Y1 hM
  refine rF (some 1) (pt Y1.heap.size 0) (Y1.alloc (.cells ([.slice a b.length c]).toArray 22)) ?_
  replace hM := hM.alloc 22 ([.slice a b.length c])
  generalize World.alloc _ _ = Y2 at *
  generalize hNe : Y1.heap.size = N2 at *
  clear hNe
  refine rF (some 2) (pt Y2.heap.size 0) (Y2.alloc (.cells (spc noSp).toArray 24)) ?_
  replace hM := hM.alloc 24 (spc noSp)
  generalize World.alloc _ _ = Y3 at *
  generalize hNe : Y2.heap.size = N3 at *
  clear hNe
  refine tF 3 [.val 2 (some 3) (.int .i64 0)] trivial ?_
  refine dF ?_
  try simp only [puts, Tk.put, Act.put, List.setIfInBounds_toArray, List.set_cons_zero, List.set_cons_succ]
  go_upto_region 1 with fail
  refine wp_region_fromM (fun W => Sep w [] [.blk N3 24 (spc noSp), .blk N2 22 ([.slice a b.length c])] W) hM ?_
  clear hM
  rintro Y4 hM
  refine tF 3 [.load 0 (some 10) 22 (pt N2 0) (.slice a b.length c), .val 1 (some 11) (.int .i64 (b.length : Int)), .val 2 (some 12) (.bool (decide ((b.length : Int) < 9)))] ⟨ld_any _ _ Tryz.underlying22 rfl (hM.at 1 rfl) 0 rfl, trivial⟩ ?_
  refine dF ?_
  try simp only [puts, Tk.put, Act.put, List.setIfInBounds_toArray, List.set_cons_zero, List.set_cons_succ]
  cases hb1 : decide ((b.length : Int) < 9) with
  | false =>
    have Hhb1 := Lib.hid hb1
    clear hb1
    have H9 : Hid (9 ≤ b.length) := Lib.hid (by have h := of_decide_eq_false Hhb1.out; omega)
    go_upto_region 3 with fail
    refine wp_region_fromM (fun W => Sep w [] [.blk N3 24 (spc noSp), .blk N2 22 ([.slice a b.length c])] W) hM ?_
    clear hM
    rintro Y5 hM
    refine rF (some 4) (pt Y5.heap.size 0) (Y5.alloc (.cells ([.int .i64 0]).toArray 3)) ?_
    replace hM := hM.alloc 3 ([.int .i64 0])
    generalize World.alloc _ _ = Y6 at *
    generalize hNe : Y5.heap.size = N6 at *
    clear hNe
    have hst := sto_part ([.int .i64 0]) (hM.at 0 rfl) 0 3 (.int .i64 0) ([.int .i64 0]) rfl (by kernel_rfl) (Nat.le_of_ble_eq_true rfl) rfl rfl
    refine sF 3 (pt N6 0) (.int .i64 0) (hst) ?_
    clear hst
    replace hM := hM.set 0 (cs' := [.int .i64 0]) rfl rfl
    generalize World.setRow _ _ _ = Y7 at *
    refine dF ?_
    try simp only [Act.put, List.setIfInBounds_toArray, List.set_cons_zero, List.set_cons_succ]
    go_upto_region 4 with fail
    refine wp_region_fromM (fun W => Sep w [] [.blk N6 3 ([.int .i64 0]), .blk N3 24 (spc noSp), .blk N2 22 ([.slice a b.length c])] W) hM ?_
    clear hM
    rintro Y8 hM
    refine tF 2 [.val 0 (some 14) (.func (.func 41) #[] #[pt N6 0, pt N2 0]), .val 1 (some 5) (.func (.func 41) #[] #[pt N6 0, pt N2 0])] trivial ?_
    refine dF ?_
    try simp only [puts, Tk.put, Act.put, List.setIfInBounds_toArray, List.set_cons_zero, List.set_cons_succ]
    go_upto_region 5 with fail
    refine wp_region_fromM (fun W => Sep w [] [.blk N6 3 ([.int .i64 0]), .blk N3 24 (spc noSp), .blk N2 22 ([.slice a b.length c])] W) hM ?_
    clear hM
    rintro Y9 hM
    refine rF (some 6) (pt Y9.heap.size 0) (Y9.alloc (.cells (spc noSp).toArray 24)) ?_
    replace hM := hM.alloc 24 (spc noSp)
    generalize World.alloc _ _ = Y10 at *
    generalize hNe : Y9.heap.size = N10 at *
    clear hNe
    refine dF ?_
    try simp only [Act.put, List.setIfInBounds_toArray, List.set_cons_zero, List.set_cons_succ]
    go_upto_region 6 with fail
    refine wp_region_fromM (fun W => Sep w [] [.blk N10 24 (spc noSp), .blk N6 3 ([.int .i64 0]), .blk N3 24 (spc noSp), .blk N2 22 ([.slice a b.length c])] W) hM ?_
    clear hM
    rintro Y11 hM
    refine cF (some 15) 17 #[pt N10 0] ((numbers_any N10 _).mono ?_)
    rintro e Y12 ⟨rfl, hb⟩
    replace hM := hM.below hb
    clear hb
    refine tF 2 [.val 1 (some 16) (.int .i64 0)] trivial ?_
    refine dF ?_
    try simp only [puts, Tk.put, Act.put, List.setIfInBounds_toArray, List.set_cons_zero, List.set_cons_succ]
    go_wp2_with fail
    go_loopw [16] (fun i wr => ∃ j : Nat, (j = 0 ∨ j = 1 ∨ j = 2 ∨ j = 3 ∨ j = 4) ∧ i = .int .i64 (j : Int) ∧ Sep w [] [.blk N10 24 (spc (rdP b j)), .blk N6 3 ([.int .i64 ((posP j : Nat) : Int)]), .blk N3 24 (spc noSp), .blk N2 22 ([.slice a b.length c])] wr) (fun i _ => 4 - (intOf i).toNat)
    case atStart => exact ⟨0, .inl rfl, rfl, hM⟩
    clear hM
    case round =>
      obtain ⟨j, hq, hi, hM⟩ := hrel
      rcases hq with rfl | rfl | rfl | rfl | rfl
      case inl =>
        replace hi : _ = Value.int .i64 0 := hi
        subst hi
        go_upto_region 7 with fail
        refine wp_region_fromM (fun W => Sep w [] [.blk N10 24 (spc (noSp)), .blk N6 3 ([.int .i64 0]), .blk N3 24 (spc noSp), .blk N2 22 ([.slice a b.length c])] W) hM ?_
        clear hM
        rintro Y13 hM
        refine tF 1 [.val 0 (some 17) (.bool true)] trivial ?_
        refine dF ?_
        try simp only [puts, Tk.put, Act.put, List.setIfInBounds_toArray, List.set_cons_zero, List.set_cons_succ]
        go_upto_region 8 with fail
        refine wp_region_fromM (fun W => Sep w [] [.blk N10 24 (spc (noSp)), .blk N6 3 ([.int .i64 0]), .blk N3 24 (spc noSp), .blk N2 22 ([.slice a b.length c])] W) hM ?_
        clear hM
        rintro Y14 hM
        refine tF 1 [.val 0 (some 18) (nbv (nb N10 0 1 0))] trivial ?_
        refine rF (some 8) (pt Y14.heap.size 0) (Y14.alloc (.cells (nbc noNb).toArray 49)) ?_
        replace hM := hM.alloc 49 (nbc noNb)
        generalize World.alloc _ _ = Y15 at *
        generalize hNe : Y14.heap.size = N15 at *
        clear hNe
        have hst := sto_part (nbc (nb N10 0 1 0)) (hM.at 0 rfl) 0 49 (nbv (nb N10 0 1 0)) (nbc (nb N10 0 1 0)) rfl (by kernel_rfl) (Nat.le_of_ble_eq_true rfl) rfl rfl
        refine sF 49 (pt N15 0) (nbv (nb N10 0 1 0)) (hst) ?_
        clear hst
        replace hM := hM.set 0 (cs' := nbc (nb N10 0 1 0)) rfl rfl
        generalize World.setRow _ _ _ = Y16 at *
        refine dF ?_
        try simp only [puts, Tk.put, Act.put, List.setIfInBounds_toArray, List.set_cons_zero, List.set_cons_succ]
        go_upto_region 9 with fail
        refine wp_region_M (fun W => Sep w [] [.blk N15 49 (nbc (nb N10 0 1 0)), .blk N3 24 (spc noSp), .blk N2 22 ([.slice a b.length c])] W) (fun W => Sep w [] [.blk N15 49 (nbc (nb N10 0 1 0)), .blk N10 24 (spc (noSp)), .blk N6 3 ([.int .i64 0]), .blk N3 24 (spc noSp), .blk N2 22 ([.slice a b.length c])] W) hmx hM.drew ?_
        clear hM
        rintro Y17 hM
        have hS := hM.sub (.cons_cons _ (.cons _ (.cons _ (.cons_cons _ (.cons_cons _ .slnil)))))
        refine tD 4 [.val 0 (some 19) (pt N15 0), .load 1 (some 20) 47 (pt N15 0) (pt N10 0), .val 2 (some 21) (.func (.func 41) #[] #[pt N6 0, pt N2 0]), .val 3 (some 22) (pt N15 1), .load 4 (some 23) 3 (pt N15 1) (.int .i64 1), .val 6 (some 25) (pt N15 2), .load 7 (some 26) 3 (pt N15 2) (.int .i64 0)] ⟨fun W h => ld_any _ _ Tryz.underlying47 rfl (h.at 0 rfl) 0 rfl, fun W h => ld_any _ _ Tryz.underlying3 rfl (h.at 0 rfl) 1 rfl, fun W h => ld_any _ _ Tryz.underlying3 rfl (h.at 0 rfl) 2 rfl, trivial⟩ hS ?_
        refine oD 5 3 (cD (some 24) 41 #[.int .i64 1, pt N6 0,  pt N2 0] ((next_any b 0 1 _ (hM.at 2 rfl) (hM.at 4 rfl) (fun x => (hM.far (i := 4) (j := 2) rfl rfl (by decide)) _ (List.mem_singleton.2 rfl) (List.mem_singleton.2 x)) (BF.arg hM (List.mem_of_getElem? (i := 2) rfl) HB.out (Nat.le_refl _)) (by decide) (by have h := H9.out; omega) HLN.out).mono ?_))
        rintro e Y18 ⟨rfl, hT⟩
        have hM1 := hM.turn 2 rfl hT rfl
        clear hT
        refine And.intro (hM1.sub (.cons_cons _ (.cons _ (.cons _ (.cons_cons _ (.cons_cons _ .slnil)))))) ?_
        replace hS := hM1.sub (.cons_cons _ (.cons _ (.cons _ (.cons_cons _ (.cons_cons _ .slnil)))))
        replace hM := hM1
        clear hM1
        replace hM : Sep w [] [.blk N15 49 (nbc (nb N10 0 1 0)), .blk N10 24 (spc (noSp)), .blk N6 3 ([.int .i64 1]), .blk N3 24 (spc noSp), .blk N2 22 ([.slice a b.length c])] Y18 := hM
        refine tD 1 [.alt 8 (some 27) (.int .i64 (IntKind.i64.wrap ((nx b 0 1) - 0))) (.int .i64 (nx b 0 1 - 0)), .val 9 (some 28) (pt N10 0)] ⟨congrArg (Value.int .i64) (sub_fit (by decide) (by decide)), trivial⟩ hS ?_
        have hst := sto_part (spc (Sp.mk (nx b 0 1 - 0) 0 0 0 none 0 ([]))) (hM.at 1 rfl) 0 3 (.int .i64 (nx b 0 1 - 0)) ([.int .i64 (nx b 0 1 - 0)]) rfl (by kernel_rfl) (Nat.le_of_ble_eq_true rfl) rfl rfl
        have hM1 := hM.set 1 (cs' := spc (Sp.mk (nx b 0 1 - 0) 0 0 0 none 0 ([]))) rfl rfl
        refine oD 10 0 (sD 3 (pt N10 0) (.int .i64 (nx b 0 1 - 0)) (hst) (hM1.sub (.cons_cons _ (.cons _ (.cons _ (.cons_cons _ (.cons_cons _ .slnil)))))) ?_)
        clear hst
        replace hS := hM1.sub (.cons_cons _ (.cons _ (.cons _ (.cons_cons _ (.cons_cons _ .slnil)))))
        replace hM := hM1
        clear hM1
        generalize World.setRow _ _ _ = Y19 at *
        refine dD ?_
        try simp only [puts, Tk.put, Act.put, List.setIfInBounds_toArray, List.set_cons_zero, List.set_cons_succ]
        clear hS
        go_upto_region 10 with fail
        refine wp_region_fromM (fun W => Sep w [] [.blk N15 49 (nbc (nb N10 0 1 0)), .blk N10 24 (spc (Sp.mk (nx b 0 1 - 0) 0 0 0 none 0 ([]))), .blk N6 3 ([.int .i64 1]), .blk N3 24 (spc noSp), .blk N2 22 ([.slice a b.length c])] W) hM ?_
        clear hM
        rintro Y20 hM
        refine tF 2 [.val 0 (some 29) (.int .i64 1), .val 1 (some 16) (.int .i64 1)] trivial ?_
        refine dF ?_
        try simp only [puts, Tk.put, Act.put, List.setIfInBounds_toArray, List.set_cons_zero, List.set_cons_succ]
        have hM1 : Sep w [] [.blk N10 24 (spc (rdP b 1)), .blk N6 3 [.int .i64 ((posP 1 : Nat) : Int)], .blk N3 24 (spc noSp), .blk N2 22 ([.slice a b.length c])] Y20 := hM.pick [1, 2, 3, 4] (by decide) rfl
        clear hM
        go_wp2_with fail
        go_roundw
        case rel => exact ⟨1, .inr (.inl rfl), rfl, hM1⟩
        case measure => simp [intOf]
      case inr.inl =>
        replace hi : _ = Value.int .i64 1 := hi
        subst hi
        go_upto_region 7 with fail
        refine wp_region_fromM (fun W => Sep w [] [.blk N10 24 (spc (Sp.mk (nx b 0 1 - 0) 0 0 0 none 0 [])), .blk N6 3 ([.int .i64 1]), .blk N3 24 (spc noSp), .blk N2 22 ([.slice a b.length c])] W) hM ?_
        clear hM
        rintro Y21 hM
        refine tF 1 [.val 0 (some 17) (.bool true)] trivial ?_
        refine dF ?_
        try simp only [puts, Tk.put, Act.put, List.setIfInBounds_toArray, List.set_cons_zero, List.set_cons_succ]
        go_upto_region 8 with fail
        refine wp_region_fromM (fun W => Sep w [] [.blk N10 24 (spc (Sp.mk (nx b 0 1 - 0) 0 0 0 none 0 [])), .blk N6 3 ([.int .i64 1]), .blk N3 24 (spc noSp), .blk N2 22 ([.slice a b.length c])] W) hM ?_
        clear hM
        rintro Y22 hM
        refine tF 1 [.val 0 (some 18) (nbv (nb N10 1 2 32768))] trivial ?_
        refine rF (some 8) (pt Y22.heap.size 0) (Y22.alloc (.cells (nbc noNb).toArray 49)) ?_
        replace hM := hM.alloc 49 (nbc noNb)
        generalize World.alloc _ _ = Y23 at *
        generalize hNe : Y22.heap.size = N23 at *
        clear hNe
        have hst := sto_part (nbc (nb N10 1 2 32768)) (hM.at 0 rfl) 0 49 (nbv (nb N10 1 2 32768)) (nbc (nb N10 1 2 32768)) rfl (by kernel_rfl) (Nat.le_of_ble_eq_true rfl) rfl rfl
        refine sF 49 (pt N23 0) (nbv (nb N10 1 2 32768)) (hst) ?_
        clear hst
        replace hM := hM.set 0 (cs' := nbc (nb N10 1 2 32768)) rfl rfl
        generalize World.setRow _ _ _ = Y24 at *
        refine dF ?_
        try simp only [puts, Tk.put, Act.put, List.setIfInBounds_toArray, List.set_cons_zero, List.set_cons_succ]
        go_upto_region 9 with fail
        refine wp_region_M (fun W => Sep w [] [.blk N23 49 (nbc (nb N10 1 2 32768)), .blk N3 24 (spc noSp), .blk N2 22 ([.slice a b.length c])] W) (fun W => Sep w [] [.blk N23 49 (nbc (nb N10 1 2 32768)), .blk N10 24 (spc (Sp.mk (nx b 0 1 - 0) 0 0 0 none 0 [])), .blk N6 3 ([.int .i64 1]), .blk N3 24 (spc noSp), .blk N2 22 ([.slice a b.length c])] W) hmx hM.drew ?_
        clear hM
        rintro Y25 hM
        have hS := hM.sub (.cons_cons _ (.cons _ (.cons _ (.cons_cons _ (.cons_cons _ .slnil)))))
        refine tD 4 [.val 0 (some 19) (pt N23 0), .load 1 (some 20) 47 (pt N23 0) (pt N10 1), .val 2 (some 21) (.func (.func 41) #[] #[pt N6 0, pt N2 0]), .val 3 (some 22) (pt N23 1), .load 4 (some 23) 3 (pt N23 1) (.int .i64 2), .val 6 (some 25) (pt N23 2), .load 7 (some 26) 3 (pt N23 2) (.int .i64 32768)] ⟨fun W h => ld_any _ _ Tryz.underlying47 rfl (h.at 0 rfl) 0 rfl, fun W h => ld_any _ _ Tryz.underlying3 rfl (h.at 0 rfl) 1 rfl, fun W h => ld_any _ _ Tryz.underlying3 rfl (h.at 0 rfl) 2 rfl, trivial⟩ hS ?_
        refine oD 5 3 (cD (some 24) 41 #[.int .i64 2, pt N6 0,  pt N2 0] ((next_any b 1 2 _ (hM.at 2 rfl) (hM.at 4 rfl) (fun x => (hM.far (i := 4) (j := 2) rfl rfl (by decide)) _ (List.mem_singleton.2 rfl) (List.mem_singleton.2 x)) (BF.arg hM (List.mem_of_getElem? (i := 2) rfl) HB.out (Nat.le_refl _)) (by decide) (by have h := H9.out; omega) HLN.out).mono ?_))
        rintro e Y26 ⟨rfl, hT⟩
        have hM1 := hM.turn 2 rfl hT rfl
        clear hT
        refine And.intro (hM1.sub (.cons_cons _ (.cons _ (.cons _ (.cons_cons _ (.cons_cons _ .slnil)))))) ?_
        replace hS := hM1.sub (.cons_cons _ (.cons _ (.cons _ (.cons_cons _ (.cons_cons _ .slnil)))))
        replace hM := hM1
        clear hM1
        replace hM : Sep w [] [.blk N23 49 (nbc (nb N10 1 2 32768)), .blk N10 24 (spc (Sp.mk (nx b 0 1 - 0) 0 0 0 none 0 [])), .blk N6 3 ([.int .i64 3]), .blk N3 24 (spc noSp), .blk N2 22 ([.slice a b.length c])] Y26 := hM
        refine tD 1 [.alt 8 (some 27) (.int .i64 (IntKind.i64.wrap ((nx b 1 2) - 32768))) (.int .i64 (nx b 1 2 - 32768)), .val 9 (some 28) (pt N10 1)] ⟨congrArg (Value.int .i64) (sub_fit (by decide) (by decide)), trivial⟩ hS ?_
        have hst := sto_part (spc (Sp.mk (nx b 0 1 - 0) (nx b 1 2 - 32768) 0 0 none 0 ([]))) (hM.at 1 rfl) 1 3 (.int .i64 (nx b 1 2 - 32768)) ([.int .i64 (nx b 1 2 - 32768)]) rfl (by kernel_rfl) (Nat.le_of_ble_eq_true rfl) rfl rfl
        have hM1 := hM.set 1 (cs' := spc (Sp.mk (nx b 0 1 - 0) (nx b 1 2 - 32768) 0 0 none 0 ([]))) rfl rfl
        refine oD 10 0 (sD 3 (pt N10 1) (.int .i64 (nx b 1 2 - 32768)) (hst) (hM1.sub (.cons_cons _ (.cons _ (.cons _ (.cons_cons _ (.cons_cons _ .slnil)))))) ?_)
        clear hst
        replace hS := hM1.sub (.cons_cons _ (.cons _ (.cons _ (.cons_cons _ (.cons_cons _ .slnil)))))
        replace hM := hM1
        clear hM1
        generalize World.setRow _ _ _ = Y27 at *
        refine dD ?_
        try simp only [puts, Tk.put, Act.put, List.setIfInBounds_toArray, List.set_cons_zero, List.set_cons_succ]
        clear hS
        go_upto_region 10 with fail
        refine wp_region_fromM (fun W => Sep w [] [.blk N23 49 (nbc (nb N10 1 2 32768)), .blk N10 24 (spc (Sp.mk (nx b 0 1 - 0) (nx b 1 2 - 32768) 0 0 none 0 ([]))), .blk N6 3 ([.int .i64 3]), .blk N3 24 (spc noSp), .blk N2 22 ([.slice a b.length c])] W) hM ?_
        clear hM
        rintro Y28 hM
        refine tF 2 [.val 0 (some 29) (.int .i64 2), .val 1 (some 16) (.int .i64 2)] trivial ?_
        refine dF ?_
        try simp only [puts, Tk.put, Act.put, List.setIfInBounds_toArray, List.set_cons_zero, List.set_cons_succ]
        have hM1 : Sep w [] [.blk N10 24 (spc (rdP b 2)), .blk N6 3 [.int .i64 ((posP 2 : Nat) : Int)], .blk N3 24 (spc noSp), .blk N2 22 ([.slice a b.length c])] Y28 := hM.pick [1, 2, 3, 4] (by decide) rfl
        clear hM
        go_wp2_with fail
        go_roundw
        case rel => exact ⟨2, .inr (.inr (.inl rfl)), rfl, hM1⟩
        case measure => simp [intOf]
      case inr.inr.inl =>
        replace hi : _ = Value.int .i64 2 := hi
        subst hi
        go_upto_region 7 with fail
        refine wp_region_fromM (fun W => Sep w [] [.blk N10 24 (spc (Sp.mk (nx b 0 1 - 0) (nx b 1 2 - 32768) 0 0 none 0 [])), .blk N6 3 ([.int .i64 3]), .blk N3 24 (spc noSp), .blk N2 22 ([.slice a b.length c])] W) hM ?_
        clear hM
        rintro Y29 hM
        refine tF 1 [.val 0 (some 17) (.bool true)] trivial ?_
        refine dF ?_
        try simp only [puts, Tk.put, Act.put, List.setIfInBounds_toArray, List.set_cons_zero, List.set_cons_succ]
        go_upto_region 8 with fail
        refine wp_region_fromM (fun W => Sep w [] [.blk N10 24 (spc (Sp.mk (nx b 0 1 - 0) (nx b 1 2 - 32768) 0 0 none 0 [])), .blk N6 3 ([.int .i64 3]), .blk N3 24 (spc noSp), .blk N2 22 ([.slice a b.length c])] W) hM ?_
        clear hM
        rintro Y30 hM
        refine tF 1 [.val 0 (some 18) (nbv (nb N10 2 2 32768))] trivial ?_
        refine rF (some 8) (pt Y30.heap.size 0) (Y30.alloc (.cells (nbc noNb).toArray 49)) ?_
        replace hM := hM.alloc 49 (nbc noNb)
        generalize World.alloc _ _ = Y31 at *
        generalize hNe : Y30.heap.size = N31 at *
        clear hNe
        have hst := sto_part (nbc (nb N10 2 2 32768)) (hM.at 0 rfl) 0 49 (nbv (nb N10 2 2 32768)) (nbc (nb N10 2 2 32768)) rfl (by kernel_rfl) (Nat.le_of_ble_eq_true rfl) rfl rfl
        refine sF 49 (pt N31 0) (nbv (nb N10 2 2 32768)) (hst) ?_
        clear hst
        replace hM := hM.set 0 (cs' := nbc (nb N10 2 2 32768)) rfl rfl
        generalize World.setRow _ _ _ = Y32 at *
        refine dF ?_
        try simp only [puts, Tk.put, Act.put, List.setIfInBounds_toArray, List.set_cons_zero, List.set_cons_succ]
        go_upto_region 9 with fail
        refine wp_region_M (fun W => Sep w [] [.blk N31 49 (nbc (nb N10 2 2 32768)), .blk N3 24 (spc noSp), .blk N2 22 ([.slice a b.length c])] W) (fun W => Sep w [] [.blk N31 49 (nbc (nb N10 2 2 32768)), .blk N10 24 (spc (Sp.mk (nx b 0 1 - 0) (nx b 1 2 - 32768) 0 0 none 0 [])), .blk N6 3 ([.int .i64 3]), .blk N3 24 (spc noSp), .blk N2 22 ([.slice a b.length c])] W) hmx hM.drew ?_
        clear hM
        rintro Y33 hM
        have hS := hM.sub (.cons_cons _ (.cons _ (.cons _ (.cons_cons _ (.cons_cons _ .slnil)))))
        refine tD 4 [.val 0 (some 19) (pt N31 0), .load 1 (some 20) 47 (pt N31 0) (pt N10 2), .val 2 (some 21) (.func (.func 41) #[] #[pt N6 0, pt N2 0]), .val 3 (some 22) (pt N31 1), .load 4 (some 23) 3 (pt N31 1) (.int .i64 2), .val 6 (some 25) (pt N31 2), .load 7 (some 26) 3 (pt N31 2) (.int .i64 32768)] ⟨fun W h => ld_any _ _ Tryz.underlying47 rfl (h.at 0 rfl) 0 rfl, fun W h => ld_any _ _ Tryz.underlying3 rfl (h.at 0 rfl) 1 rfl, fun W h => ld_any _ _ Tryz.underlying3 rfl (h.at 0 rfl) 2 rfl, trivial⟩ hS ?_
        refine oD 5 3 (cD (some 24) 41 #[.int .i64 2, pt N6 0,  pt N2 0] ((next_any b 3 2 _ (hM.at 2 rfl) (hM.at 4 rfl) (fun x => (hM.far (i := 4) (j := 2) rfl rfl (by decide)) _ (List.mem_singleton.2 rfl) (List.mem_singleton.2 x)) (BF.arg hM (List.mem_of_getElem? (i := 2) rfl) HB.out (Nat.le_refl _)) (by decide) (by have h := H9.out; omega) HLN.out).mono ?_))
        rintro e Y34 ⟨rfl, hT⟩
        have hM1 := hM.turn 2 rfl hT rfl
        clear hT
        refine And.intro (hM1.sub (.cons_cons _ (.cons _ (.cons _ (.cons_cons _ (.cons_cons _ .slnil)))))) ?_
        replace hS := hM1.sub (.cons_cons _ (.cons _ (.cons _ (.cons_cons _ (.cons_cons _ .slnil)))))
        replace hM := hM1
        clear hM1
        replace hM : Sep w [] [.blk N31 49 (nbc (nb N10 2 2 32768)), .blk N10 24 (spc (Sp.mk (nx b 0 1 - 0) (nx b 1 2 - 32768) 0 0 none 0 [])), .blk N6 3 ([.int .i64 5]), .blk N3 24 (spc noSp), .blk N2 22 ([.slice a b.length c])] Y34 := hM
        refine tD 1 [.alt 8 (some 27) (.int .i64 (IntKind.i64.wrap ((nx b 3 2) - 32768))) (.int .i64 (nx b 3 2 - 32768)), .val 9 (some 28) (pt N10 2)] ⟨congrArg (Value.int .i64) (sub_fit (by decide) (by decide)), trivial⟩ hS ?_
        have hst := sto_part (spc (Sp.mk (nx b 0 1 - 0) (nx b 1 2 - 32768) (nx b 3 2 - 32768) 0 none 0 ([]))) (hM.at 1 rfl) 2 3 (.int .i64 (nx b 3 2 - 32768)) ([.int .i64 (nx b 3 2 - 32768)]) rfl (by kernel_rfl) (Nat.le_of_ble_eq_true rfl) rfl rfl
        have hM1 := hM.set 1 (cs' := spc (Sp.mk (nx b 0 1 - 0) (nx b 1 2 - 32768) (nx b 3 2 - 32768) 0 none 0 ([]))) rfl rfl
        refine oD 10 0 (sD 3 (pt N10 2) (.int .i64 (nx b 3 2 - 32768)) (hst) (hM1.sub (.cons_cons _ (.cons _ (.cons _ (.cons_cons _ (.cons_cons _ .slnil)))))) ?_)
        clear hst
        replace hS := hM1.sub (.cons_cons _ (.cons _ (.cons _ (.cons_cons _ (.cons_cons _ .slnil)))))
        replace hM := hM1
        clear hM1
        generalize World.setRow _ _ _ = Y35 at *
        refine dD ?_
        try simp only [puts, Tk.put, Act.put, List.setIfInBounds_toArray, List.set_cons_zero, List.set_cons_succ]
        clear hS
        go_upto_region 10 with fail
        refine wp_region_fromM (fun W => Sep w [] [.blk N31 49 (nbc (nb N10 2 2 32768)), .blk N10 24 (spc (Sp.mk (nx b 0 1 - 0) (nx b 1 2 - 32768) (nx b 3 2 - 32768) 0 none 0 ([]))), .blk N6 3 ([.int .i64 5]), .blk N3 24 (spc noSp), .blk N2 22 ([.slice a b.length c])] W) hM ?_
        clear hM
        rintro Y36 hM
        refine tF 2 [.val 0 (some 29) (.int .i64 3), .val 1 (some 16) (.int .i64 3)] trivial ?_
        refine dF ?_
        try simp only [puts, Tk.put, Act.put, List.setIfInBounds_toArray, List.set_cons_zero, List.set_cons_succ]
        have hM1 : Sep w [] [.blk N10 24 (spc (rdP b 3)), .blk N6 3 [.int .i64 ((posP 3 : Nat) : Int)], .blk N3 24 (spc noSp), .blk N2 22 ([.slice a b.length c])] Y36 := hM.pick [1, 2, 3, 4] (by decide) rfl
        clear hM
        go_wp2_with fail
        go_roundw
        case rel => exact ⟨3, .inr (.inr (.inr (.inl rfl))), rfl, hM1⟩
        case measure => simp [intOf]
      case inr.inr.inr.inl =>
        replace hi : _ = Value.int .i64 3 := hi
        subst hi
        go_upto_region 7 with fail
        refine wp_region_fromM (fun W => Sep w [] [.blk N10 24 (spc (Sp.mk (nx b 0 1 - 0) (nx b 1 2 - 32768) (nx b 3 2 - 32768) 0 none 0 [])), .blk N6 3 ([.int .i64 5]), .blk N3 24 (spc noSp), .blk N2 22 ([.slice a b.length c])] W) hM ?_
        clear hM
        rintro Y37 hM
        refine tF 1 [.val 0 (some 17) (.bool true)] trivial ?_
        refine dF ?_
        try simp only [puts, Tk.put, Act.put, List.setIfInBounds_toArray, List.set_cons_zero, List.set_cons_succ]
        go_upto_region 8 with fail
        refine wp_region_fromM (fun W => Sep w [] [.blk N10 24 (spc (Sp.mk (nx b 0 1 - 0) (nx b 1 2 - 32768) (nx b 3 2 - 32768) 0 none 0 [])), .blk N6 3 ([.int .i64 5]), .blk N3 24 (spc noSp), .blk N2 22 ([.slice a b.length c])] W) hM ?_
        clear hM
        rintro Y38 hM
        refine tF 1 [.val 0 (some 18) (nbv (nb N10 3 2 32768))] trivial ?_
        refine rF (some 8) (pt Y38.heap.size 0) (Y38.alloc (.cells (nbc noNb).toArray 49)) ?_
        replace hM := hM.alloc 49 (nbc noNb)
        generalize World.alloc _ _ = Y39 at *
        generalize hNe : Y38.heap.size = N39 at *
        clear hNe
        have hst := sto_part (nbc (nb N10 3 2 32768)) (hM.at 0 rfl) 0 49 (nbv (nb N10 3 2 32768)) (nbc (nb N10 3 2 32768)) rfl (by kernel_rfl) (Nat.le_of_ble_eq_true rfl) rfl rfl
        refine sF 49 (pt N39 0) (nbv (nb N10 3 2 32768)) (hst) ?_
        clear hst
        replace hM := hM.set 0 (cs' := nbc (nb N10 3 2 32768)) rfl rfl
        generalize World.setRow _ _ _ = Y40 at *
        refine dF ?_
        try simp only [puts, Tk.put, Act.put, List.setIfInBounds_toArray, List.set_cons_zero, List.set_cons_succ]
        go_upto_region 9 with fail
        refine wp_region_M (fun W => Sep w [] [.blk N39 49 (nbc (nb N10 3 2 32768)), .blk N3 24 (spc noSp), .blk N2 22 ([.slice a b.length c])] W) (fun W => Sep w [] [.blk N39 49 (nbc (nb N10 3 2 32768)), .blk N10 24 (spc (Sp.mk (nx b 0 1 - 0) (nx b 1 2 - 32768) (nx b 3 2 - 32768) 0 none 0 [])), .blk N6 3 ([.int .i64 5]), .blk N3 24 (spc noSp), .blk N2 22 ([.slice a b.length c])] W) hmx hM.drew ?_
        clear hM
        rintro Y41 hM
        have hS := hM.sub (.cons_cons _ (.cons _ (.cons _ (.cons_cons _ (.cons_cons _ .slnil)))))
        refine tD 4 [.val 0 (some 19) (pt N39 0), .load 1 (some 20) 47 (pt N39 0) (pt N10 3), .val 2 (some 21) (.func (.func 41) #[] #[pt N6 0, pt N2 0]), .val 3 (some 22) (pt N39 1), .load 4 (some 23) 3 (pt N39 1) (.int .i64 2), .val 6 (some 25) (pt N39 2), .load 7 (some 26) 3 (pt N39 2) (.int .i64 32768)] ⟨fun W h => ld_any _ _ Tryz.underlying47 rfl (h.at 0 rfl) 0 rfl, fun W h => ld_any _ _ Tryz.underlying3 rfl (h.at 0 rfl) 1 rfl, fun W h => ld_any _ _ Tryz.underlying3 rfl (h.at 0 rfl) 2 rfl, trivial⟩ hS ?_
        refine oD 5 3 (cD (some 24) 41 #[.int .i64 2, pt N6 0,  pt N2 0] ((next_any b 5 2 _ (hM.at 2 rfl) (hM.at 4 rfl) (fun x => (hM.far (i := 4) (j := 2) rfl rfl (by decide)) _ (List.mem_singleton.2 rfl) (List.mem_singleton.2 x)) (BF.arg hM (List.mem_of_getElem? (i := 2) rfl) HB.out (Nat.le_refl _)) (by decide) (by have h := H9.out; omega) HLN.out).mono ?_))
        rintro e Y42 ⟨rfl, hT⟩
        have hM1 := hM.turn 2 rfl hT rfl
        clear hT
        refine And.intro (hM1.sub (.cons_cons _ (.cons _ (.cons _ (.cons_cons _ (.cons_cons _ .slnil)))))) ?_
        replace hS := hM1.sub (.cons_cons _ (.cons _ (.cons _ (.cons_cons _ (.cons_cons _ .slnil)))))
        replace hM := hM1
        clear hM1
        replace hM : Sep w [] [.blk N39 49 (nbc (nb N10 3 2 32768)), .blk N10 24 (spc (Sp.mk (nx b 0 1 - 0) (nx b 1 2 - 32768) (nx b 3 2 - 32768) 0 none 0 [])), .blk N6 3 ([.int .i64 7]), .blk N3 24 (spc noSp), .blk N2 22 ([.slice a b.length c])] Y42 := hM
        refine tD 1 [.alt 8 (some 27) (.int .i64 (IntKind.i64.wrap ((nx b 5 2) - 32768))) (.int .i64 (nx b 5 2 - 32768)), .val 9 (some 28) (pt N10 3)] ⟨congrArg (Value.int .i64) (sub_fit (by decide) (by decide)), trivial⟩ hS ?_
        have hst := sto_part (spc (Sp.mk (nx b 0 1 - 0) (nx b 1 2 - 32768) (nx b 3 2 - 32768) (nx b 5 2 - 32768) none 0 ([]))) (hM.at 1 rfl) 3 3 (.int .i64 (nx b 5 2 - 32768)) ([.int .i64 (nx b 5 2 - 32768)]) rfl (by kernel_rfl) (Nat.le_of_ble_eq_true rfl) rfl rfl
        have hM1 := hM.set 1 (cs' := spc (Sp.mk (nx b 0 1 - 0) (nx b 1 2 - 32768) (nx b 3 2 - 32768) (nx b 5 2 - 32768) none 0 ([]))) rfl rfl
        refine oD 10 0 (sD 3 (pt N10 3) (.int .i64 (nx b 5 2 - 32768)) (hst) (hM1.sub (.cons_cons _ (.cons _ (.cons _ (.cons_cons _ (.cons_cons _ .slnil)))))) ?_)
        clear hst
        replace hS := hM1.sub (.cons_cons _ (.cons _ (.cons _ (.cons_cons _ (.cons_cons _ .slnil)))))
        replace hM := hM1
        clear hM1
        generalize World.setRow _ _ _ = Y43 at *
        refine dD ?_
        try simp only [puts, Tk.put, Act.put, List.setIfInBounds_toArray, List.set_cons_zero, List.set_cons_succ]
        clear hS
        go_upto_region 10 with fail
        refine wp_region_fromM (fun W => Sep w [] [.blk N39 49 (nbc (nb N10 3 2 32768)), .blk N10 24 (spc (Sp.mk (nx b 0 1 - 0) (nx b 1 2 - 32768) (nx b 3 2 - 32768) (nx b 5 2 - 32768) none 0 ([]))), .blk N6 3 ([.int .i64 7]), .blk N3 24 (spc noSp), .blk N2 22 ([.slice a b.length c])] W) hM ?_
        clear hM
        rintro Y44 hM
        refine tF 2 [.val 0 (some 29) (.int .i64 4), .val 1 (some 16) (.int .i64 4)] trivial ?_
        refine dF ?_
        try simp only [puts, Tk.put, Act.put, List.setIfInBounds_toArray, List.set_cons_zero, List.set_cons_succ]
        have hM1 : Sep w [] [.blk N10 24 (spc (rdP b 4)), .blk N6 3 [.int .i64 ((posP 4 : Nat) : Int)], .blk N3 24 (spc noSp), .blk N2 22 ([.slice a b.length c])] Y44 := hM.pick [1, 2, 3, 4] (by decide) rfl
        clear hM
        go_wp2_with fail
        go_roundw
        case rel => exact ⟨4, .inr (.inr (.inr (.inr (rfl)))), rfl, hM1⟩
        case measure => simp [intOf]
      case inr.inr.inr.inr =>
        replace hi : _ = Value.int .i64 4 := hi
        subst hi
        go_upto_region 7 with fail
        refine wp_region_fromM (fun W => Sep w [] [.blk N10 24 (spc (Sp.mk (nx b 0 1 - 0) (nx b 1 2 - 32768) (nx b 3 2 - 32768) (nx b 5 2 - 32768) none 0 [])), .blk N6 3 ([.int .i64 7]), .blk N3 24 (spc noSp), .blk N2 22 ([.slice a b.length c])] W) hM ?_
        clear hM
        rintro Y45 hM
        refine tF 1 [.val 0 (some 17) (.bool false)] trivial ?_
        refine dF ?_
        try simp only [puts, Tk.put, Act.put, List.setIfInBounds_toArray, List.set_cons_zero, List.set_cons_succ]
        go_upto_region 11 with fail
        refine wp_region_fromM (fun W => Sep w [] [.blk N10 24 (spc (Sp.mk (nx b 0 1 - 0) (nx b 1 2 - 32768) (nx b 3 2 - 32768) (nx b 5 2 - 32768) none 0 [])), .blk N6 3 ([.int .i64 7]), .blk N3 24 (spc noSp), .blk N2 22 ([.slice a b.length c])] W) hM ?_
        clear hM
        rintro Y46 hM
        refine tF 1 [.val 0 (some 30) (.func (.func 41) #[] #[pt N6 0, pt N2 0])] trivial ?_
        refine cF (some 31) 41 #[.int .i64 2, pt N6 0,  pt N2 0] ((next_any b 7 2 _ (hM.at 1 rfl) (hM.at 3 rfl) (fun x => (hM.far (i := 3) (j := 1) rfl rfl (by decide)) _ (List.mem_singleton.2 rfl) (List.mem_singleton.2 x)) (BF.arg hM (List.mem_of_getElem? (i := 1) rfl) HB.out (Nat.le_refl _)) (by decide) (by have h := H9.out; omega) HLN.out).mono ?_)
        rintro e Y47 ⟨rfl, hT⟩
        replace hM := hM.turn 1 rfl hT rfl
        clear hT
        replace hM : Sep w [] [.blk N10 24 (spc (Sp.mk (nx b 0 1 - 0) (nx b 1 2 - 32768) (nx b 3 2 - 32768) (nx b 5 2 - 32768) none 0 [])), .blk N6 3 ([.int .i64 9]), .blk N3 24 (spc noSp), .blk N2 22 ([.slice a b.length c])] Y47 := hM
        refine tF 3 [.val 2 (some 9) (.int .i64 (lenP b : Int))] trivial ?_
        refine dF ?_
        try simp only [puts, Tk.put, Act.put, List.setIfInBounds_toArray, List.set_cons_zero, List.set_cons_succ]
        go_upto_region 12 with fail
        refine wp_region_fromM (fun W => Sep w [] [.blk N10 24 (spc (Sp.mk (nx b 0 1 - 0) (nx b 1 2 - 32768) (nx b 3 2 - 32768) (nx b 5 2 - 32768) none 0 [])), .blk N6 3 ([.int .i64 9]), .blk N3 24 (spc noSp), .blk N2 22 ([.slice a b.length c])] W) hM ?_
        clear hM
        rintro Y48 hM
        refine tF 3 [.val 0 (some 32) (.int .i64 (lenP b : Int)), .val 1 (some 33) (.bool (decide (1024 < (lenP b : Int)))), .val 2 (some 34) (.bool (decide (1024 < (lenP b : Int))))] trivial ?_
        cases hb2 : decide (1024 < (lenP b : Int)) with
        | false =>
          have Hhb2 := Lib.hid hb2
          clear hb2
          have HL1 : Hid (lenP b ≤ 1024) := Lib.hid (by have h := of_decide_eq_false Hhb2.out; omega)
          refine tF 10 [.val 3 (some 35) (.int .i64 (lenP b : Int)), .load 4 (some 36) 22 (pt N2 0) (.slice a b.length c), .val 5 (some 37) (.int .i64 (b.length : Int)), .load 6 (some 38) 3 (pt N6 0) (.int .i64 9), .alt 7 (some 39) (.int .i64 (IntKind.i64.wrap ((b.length : Int) - 9))) (.int .i64 ((b.length : Int) - 9)), .val 8 (some 40) (.bool (decide (((b.length : Int) - 9) < (lenP b : Int)))), .val 9 (some 41) (.bool (decide (((b.length : Int) - 9) < (lenP b : Int))))] ⟨ld_any _ _ Tryz.underlying22 rfl (hM.at 3 rfl) 0 rfl, ld_any _ _ Tryz.underlying3 rfl (hM.at 1 rfl) 0 rfl, congrArg (Value.int .i64) (IntWalk.i64_in _ (by have h := HLN.out; omega)), trivial⟩ ?_
          refine dF ?_
          try simp only [puts, Tk.put, Act.put, List.setIfInBounds_toArray, List.set_cons_zero, List.set_cons_succ]
          cases hb3 : decide (((b.length : Int) - 9) < (lenP b : Int)) with
          | false =>
            have Hhb3 := Lib.hid hb3
            clear hb3
            have HL2 : Hid (9 + lenP b ≤ b.length) := Lib.hid (by have h := of_decide_eq_false Hhb3.out; have h9 := H9.out; omega)
            have HY := Lib.hid (szF_yes H9.out HL1.out HL2.out)
            go_upto_region 14 with fail
            obtain ⟨a48c, c48c, hrun48, hcb48, _⟩ := cutLH HB.out (i := 9) (j := 9 + lenP b) rfl rfl (by omega) HL2.out
            have HR48 := Lib.hid hrun48
            have HC48 := Lib.hid (hcb48 _ _ _ HB.out)
            have HCB48 := Lib.hid hcb48
            clear hrun48 hcb48
            refine wp_region_fromM (fun W => Sep w [] [.blk N10 24 (spc (Sp.mk (nx b 0 1 - 0) (nx b 1 2 - 32768) (nx b 3 2 - 32768) (nx b 5 2 - 32768) none 0 [])), .blk N6 3 ([.int .i64 9]), .blk N3 24 (spc noSp), .blk N2 22 ([.slice a b.length c])] W) hM ?_
            clear hM
            rintro Y50 hM
            refine tF 6 [.load 0 (some 43) 22 (pt N2 0) (.slice a b.length c), .load 1 (some 44) 3 (pt N6 0) (.int .i64 9), .load 2 (some 45) 3 (pt N6 0) (.int .i64 9), .val 3 (some 46) (.int .i64 (lenP b : Int)), .alt 4 (some 47) (.int .i64 (IntKind.i64.wrap (9 + (lenP b : Int)))) (.int .i64 ((9 + lenP b : Nat) : Int)), .slc 5 (some 48) 22 (.slice a b.length c) (some (.int .i64 9)) (some (.int .i64 ((9 + lenP b : Nat) : Int))) none (.slice a48c ((b.drop 9).take (9 + lenP b - 9)).length c48c)] ⟨ld_any _ _ Tryz.underlying22 rfl (hM.at 3 rfl) 0 rfl, ld_any _ _ Tryz.underlying3 rfl (hM.at 1 rfl) 0 rfl, ld_any _ _ Tryz.underlying3 rfl (hM.at 1 rfl) 0 rfl, congrArg (Value.int .i64) ((IntWalk.i64_in _ (by have h := HL1.out; omega)).trans (by omega)), HR48.out _, trivial⟩ ?_
            refine rF (some 49) (.slice (some ⟨Y50.heap.size, 0, none⟩) 1 1) (Y50.alloc (.cells ([.slice a48c ((b.drop 9).take (9 + lenP b - 9)).length c48c]).toArray 22)) ?_
            replace hM := hM.alloc 22 ([.slice a48c ((b.drop 9).take (9 + lenP b - 9)).length c48c])
            generalize World.alloc _ _ = Y51 at *
            generalize hNe : Y50.heap.size = N51 at *
            clear hNe
            refine cF (some 50) 19 #[.slice (some ⟨N51, 0, none⟩) 1 1] ((cat1_any ((b.drop 9).take (9 + lenP b - 9)) (q := (b.drop 9).take (lenP b)) (by rw [Nat.add_sub_cancel_left]) _ _ (by have h := HL1.out; rw [List.length_take]; omega) ((HC48.out.below hM.b (Nat.le_refl _)).mono (Nat.le_refl _) hM.size) (hM.at 0 rfl)).mono ?_)
            rintro e Y52 ⟨v52o, rfl, hO, hb⟩
            replace hM := hM.octN hO hb
            clear hO hb
            obtain ⟨a52o, c52o, rfl, _⟩ := (hM.oka 0 rfl).octs.slice
            refine tF 9 [.val 8 (some 51) (pt N10 4)] trivial ?_
            have hst := sto_part (spc (Sp.mk (nx b 0 1 - 0) (nx b 1 2 - 32768) (nx b 3 2 - 32768) (nx b 5 2 - 32768) a52o c52o ((b.drop 9).take (lenP b)))) (hM.at 2 rfl) 4 22 (.slice a52o ((b.drop 9).take (lenP b)).length c52o) ([.slice a52o ((b.drop 9).take (lenP b)).length c52o]) rfl (by kernel_rfl) (Nat.le_of_ble_eq_true rfl) rfl rfl
            refine sF 22 (pt N10 4) (.slice a52o ((b.drop 9).take (lenP b)).length c52o) (hst) ?_
            clear hst
            replace hM := hM.set 2 (cs' := spc (Sp.mk (nx b 0 1 - 0) (nx b 1 2 - 32768) (nx b 3 2 - 32768) (nx b 5 2 - 32768) a52o c52o ((b.drop 9).take (lenP b)))) rfl rfl
            generalize World.setRow _ _ _ = Y54 at *
            refine dF ?_
            try simp only [puts, Tk.put, Act.put, List.setIfInBounds_toArray, List.set_cons_zero, List.set_cons_succ]
            go_upto_region 15 with fail
            refine wp_region_M (fun W => Sep w [] [.oct (.slice a52o ((b.drop 9).take (lenP b)).length c52o) ((b.drop 9).take (lenP b)), .blk N51 22 ([.slice a48c ((b.drop 9).take (9 + lenP b - 9)).length c48c]), .blk N10 24 (spc (Sp.mk (nx b 0 1 - 0) (nx b 1 2 - 32768) (nx b 3 2 - 32768) (nx b 5 2 - 32768) a52o c52o ((b.drop 9).take (lenP b)))), .blk N6 3 ([.int .i64 9]), .blk N2 22 ([.slice a b.length c])] W) (fun W => Sep w [] [.oct (.slice a52o ((b.drop 9).take (lenP b)).length c52o) ((b.drop 9).take (lenP b)), .blk N51 22 ([.slice a48c ((b.drop 9).take (9 + lenP b - 9)).length c48c]), .blk N10 24 (spc (Sp.mk (nx b 0 1 - 0) (nx b 1 2 - 32768) (nx b 3 2 - 32768) (nx b 5 2 - 32768) a52o c52o ((b.drop 9).take (lenP b)))), .blk N6 3 ([.int .i64 9]), .blk N3 24 (spc noSp), .blk N2 22 ([.slice a b.length c])] W) hmx hM.drew ?_
            clear hM
            rintro Y55 hM
            have hS := hM.sub (.cons_cons _ (.cons_cons _ (.cons_cons _ (.cons_cons _ (.cons _ (.cons_cons _ .slnil))))))
            refine tD 2 [.load 0 (some 52) 24 (pt N10 0) (spv (Sp.mk (nx b 0 1 - 0) (nx b 1 2 - 32768) (nx b 3 2 - 32768) (nx b 5 2 - 32768) a52o c52o ((b.drop 9).take (lenP b)))), .load 1 (some 53) 3 (pt N6 0) (.int .i64 9), .val 2 (some 54) (.int .i64 (lenP b : Int)), .alt 3 (some 55) (.int .i64 (IntKind.i64.wrap (9 + (lenP b : Int)))) (.int .i64 ((9 + lenP b : Nat) : Int))] ⟨fun W h => load_part (h.at 2 rfl) 0 (spc (Sp.mk (nx b 0 1 - 0) (nx b 1 2 - 32768) (nx b 3 2 - 32768) (nx b 5 2 - 32768) a52o c52o ((b.drop 9).take (lenP b)))) rfl _ _ Tryz.underlying24 rfl (by kernel_rfl), fun W h => ld_any _ _ Tryz.underlying3 rfl (h.at 3 rfl) 0 rfl, congrArg (Value.int .i64) ((IntWalk.i64_in _ (by have h := HL1.out; omega)).trans (by omega)), trivial⟩ hS ?_
            have hst := sto_part (spc (Sp.mk (nx b 0 1 - 0) (nx b 1 2 - 32768) (nx b 3 2 - 32768) (nx b 5 2 - 32768) a52o c52o ((b.drop 9).take (lenP b)))) (hM.at 4 rfl) 0 24 (spv (Sp.mk (nx b 0 1 - 0) (nx b 1 2 - 32768) (nx b 3 2 - 32768) (nx b 5 2 - 32768) a52o c52o ((b.drop 9).take (lenP b)))) (spc (Sp.mk (nx b 0 1 - 0) (nx b 1 2 - 32768) (nx b 3 2 - 32768) (nx b 5 2 - 32768) a52o c52o ((b.drop 9).take (lenP b)))) rfl (by kernel_rfl) (Nat.le_of_ble_eq_true rfl) rfl rfl
            have hM1 := hM.set 4 (cs' := spc (Sp.mk (nx b 0 1 - 0) (nx b 1 2 - 32768) (nx b 3 2 - 32768) (nx b 5 2 - 32768) a52o c52o ((b.drop 9).take (lenP b)))) rfl rfl
            refine oD 4 1 (sD 24 (pt N3 0) (spv (Sp.mk (nx b 0 1 - 0) (nx b 1 2 - 32768) (nx b 3 2 - 32768) (nx b 5 2 - 32768) a52o c52o ((b.drop 9).take (lenP b)))) (hst) (hM1.sub (.cons_cons _ (.cons_cons _ (.cons_cons _ (.cons_cons _ (.cons _ (.cons_cons _ .slnil))))))) ?_)
            clear hst
            replace hS := hM1.sub (.cons_cons _ (.cons_cons _ (.cons_cons _ (.cons_cons _ (.cons _ (.cons_cons _ .slnil))))))
            replace hM := hM1
            clear hM1
            generalize World.setRow _ _ _ = Y56 at *
            refine tD 0 [.val 5 (some 3) (.int .i64 ((9 + lenP b : Nat) : Int))] trivial hS ?_
            refine dD ?_
            try simp only [puts, Tk.put, Act.put, List.setIfInBounds_toArray, List.set_cons_zero, List.set_cons_succ]
            clear hS
            have hN : Sep w [] [.oct (.slice a52o ((b.drop 9).take (lenP b)).length c52o) ((b.drop 9).take (lenP b))] Y56 := hM.pick [0] (by decide) rfl
            go_wp2_with fail
            exact bodyPost_ret (v := .tuple #[spv (Sp.mk (nx b 0 1 - 0) (nx b 1 2 - 32768) (nx b 3 2 - 32768) (nx b 5 2 - 32768) a52o c52o ((b.drop 9).take (lenP b))), .int .i64 ((9 + lenP b : Nat) : Int)]) (res_two rfl _ rfl rfl (lv_sp (hM.at 4 rfl))) rfl ⟨Sp.mk (nx b 0 1 - 0) (nx b 1 2 - 32768) (nx b 3 2 - 32768) (nx b 5 2 - 32768) a52o c52o ((b.drop 9).take (lenP b)), by rw [HY.out], fun _ => rfl, hN⟩
          | true =>
            have Hhb3 := Lib.hid hb3
            clear hb3
            have HZ : Hid (szF b = 0) := Lib.hid (szF_no (.inr (.inr (by have h := of_decide_eq_true Hhb3.out; have h9 := H9.out; omega))))
            go_upto_region 13 with fail
            refine wp_region_fromM (fun W => Sep w [] [.blk N10 24 (spc (Sp.mk (nx b 0 1 - 0) (nx b 1 2 - 32768) (nx b 3 2 - 32768) (nx b 5 2 - 32768) none 0 [])), .blk N6 3 ([.int .i64 9]), .blk N3 24 (spc noSp), .blk N2 22 ([.slice a b.length c])] W) hM ?_
            clear hM
            rintro Y57 hM
            refine tF 1 [.val 0 (some 42) (spv noSp)] trivial ?_
            have hst := sto_part (spc noSp) (hM.at 2 rfl) 0 24 (spv noSp) (spc noSp) rfl (by kernel_rfl) (Nat.le_of_ble_eq_true rfl) rfl rfl
            refine sF 24 (pt N3 0) (spv noSp) (hst) ?_
            clear hst
            replace hM := hM.set 2 (cs' := spc noSp) rfl rfl
            generalize World.setRow _ _ _ = Y58 at *
            refine tF 3 [.val 2 (some 3) (.int .i64 0)] trivial ?_
            refine dF ?_
            try simp only [puts, Tk.put, Act.put, List.setIfInBounds_toArray, List.set_cons_zero, List.set_cons_succ]
            have hN := (hM.sub (l' := []) (List.nil_sublist _)).octN (BSl.nil _ _ _) (Below.refl _ _)
            go_wp2_with fail
            exact bodyPost_ret (v := .tuple #[spv noSp, .int .i64 0]) (res_two rfl _ rfl rfl (lv_sp (hM.at 2 rfl))) rfl ⟨noSp, by rw [HZ.out]; rfl, fun h => (h HZ.out).elim, hN⟩
        | true =>
          have Hhb2 := Lib.hid hb2
          clear hb2
          have HZ : Hid (szF b = 0) := Lib.hid (szF_no (.inr (.inl (by have h := of_decide_eq_true Hhb2.out; omega))))
          refine tF 5 [.skip 3 (some 35), .skip 4 (some 36)] trivial ?_
          refine wpFrom_not (d := some 37) (by kernel_rfl) ?_
          refine tF 10 [.skip 6 (some 38), .skip 7 (some 39), .skip 8 (some 40), .val 9 (some 41) (.bool true)] trivial ?_
          refine dF ?_
          try simp only [puts, Tk.put, Act.put, List.setIfInBounds_toArray, List.set_cons_zero, List.set_cons_succ]
          go_upto_region 13 with fail
          refine wp_region_fromM (fun W => Sep w [] [.blk N10 24 (spc (Sp.mk (nx b 0 1 - 0) (nx b 1 2 - 32768) (nx b 3 2 - 32768) (nx b 5 2 - 32768) none 0 [])), .blk N6 3 ([.int .i64 9]), .blk N3 24 (spc noSp), .blk N2 22 ([.slice a b.length c])] W) hM ?_
          clear hM
          rintro Y59 hM
          refine tF 1 [.val 0 (some 42) (spv noSp)] trivial ?_
          have hst := sto_part (spc noSp) (hM.at 2 rfl) 0 24 (spv noSp) (spc noSp) rfl (by kernel_rfl) (Nat.le_of_ble_eq_true rfl) rfl rfl
          refine sF 24 (pt N3 0) (spv noSp) (hst) ?_
          clear hst
          replace hM := hM.set 2 (cs' := spc noSp) rfl rfl
          generalize World.setRow _ _ _ = Y60 at *
          refine tF 3 [.val 2 (some 3) (.int .i64 0)] trivial ?_
          refine dF ?_
          try simp only [puts, Tk.put, Act.put, List.setIfInBounds_toArray, List.set_cons_zero, List.set_cons_succ]
          have hN := (hM.sub (l' := []) (List.nil_sublist _)).octN (BSl.nil _ _ _) (Below.refl _ _)
          go_wp2_with fail
          exact bodyPost_ret (v := .tuple #[spv noSp, .int .i64 0]) (res_two rfl _ rfl rfl (lv_sp (hM.at 2 rfl))) rfl ⟨noSp, by rw [HZ.out]; rfl, fun h => (h HZ.out).elim, hN⟩
  | true =>
    have Hhb1 := Lib.hid hb1
    clear hb1
    have HZ : Hid (szF b = 0) := Lib.hid (szF_no (.inl (by have h := of_decide_eq_true Hhb1.out; omega)))
    go_upto_region 2 with fail
    refine wp_region_fromM (fun W => Sep w [] [.blk N3 24 (spc noSp), .blk N2 22 ([.slice a b.length c])] W) hM ?_
    clear hM
    rintro Y61 hM
    refine tF 1 [.val 0 (some 13) (spv noSp)] trivial ?_
    have hst := sto_part (spc noSp) (hM.at 0 rfl) 0 24 (spv noSp) (spc noSp) rfl (by kernel_rfl) (Nat.le_of_ble_eq_true rfl) rfl rfl
    refine sF 24 (pt N3 0) (spv noSp) (hst) ?_
    clear hst
    replace hM := hM.set 0 (cs' := spc noSp) rfl rfl
    generalize World.setRow _ _ _ = Y62 at *
    refine tF 3 [.val 2 (some 3) (.int .i64 0)] trivial ?_
    refine dF ?_
    try simp only [puts, Tk.put, Act.put, List.setIfInBounds_toArray, List.set_cons_zero, List.set_cons_succ]
    have hN := (hM.sub (l' := []) (List.nil_sublist _)).octN (BSl.nil _ _ _) (Below.refl _ _)
    go_wp2_with fail
    exact bodyPost_ret (v := .tuple #[spv noSp, .int .i64 0]) (res_two rfl _ rfl rfl (lv_sp (hM.at 0 rfl))) rfl ⟨noSp, by rw [HZ.out]; rfl, fun h => (h HZ.out).elim, hN⟩
end Go.Proofs.YtemknjnljciioaaGreat
