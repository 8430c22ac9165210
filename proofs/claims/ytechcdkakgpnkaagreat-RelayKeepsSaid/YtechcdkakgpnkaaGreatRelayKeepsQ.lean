/-
  RelayKeeps answers true at every input, and leaves its arguments as they are.
-/
import Derived.Deep.Slices
import Derived.SizedLaws
import Derived.Carry
import Derived.ChangeMaps5
import Derived.Test.YtechcdkakgpnkaaGreatK14
namespace Go.Proofs.YtechcdkakgpnkaaGreat
open Go.RowKit Go.Shelf
attribute [local irreducible] wpFrom wpAnyH StepH
set_option maxRecDepth 100000 in
set_option maxHeartbeats 4000000 in
theorem relayKeeps_any (y : Nat) (hy : y ≤ 255) (w : World) : Calls Tryz.prog 5 #[.int .u8 (y : Int)] w fun e W' => e = .returned (.bool true) ∧ Below w.heap.size w W' := by
  have hmx : Tryz.prog.follows .mixedOrders = true := by kernel_rfl
  obtain ⟨q, hq, hq24⟩ : ∃ q : Nat, Int.tmod (y : Int) 24 = (q : Int) ∧ q < 24 := ⟨y % 24, by rw [Int.tmod_eq_emod_of_nonneg (by omega)]; omega, by omega⟩
  have HQ := Lib.hid hq
  have HQ24 := Lib.hid hq24
  have HW := Lib.hid (show IntKind.i64.wrap (y : Int) = (y : Int) from IntWalk.i64_in _ (by omega))
  clear hq hq24 hy
  have hM := Sep.start w
  go_enter Tryz.func5, Tryz.ntmps5
  go_upto_region 0 with fail
  refine wp_region_fromM (fun W => Sep w [] [] W) hM ?_
  clear hM
  rintro Y1 hM
  refine tF 1 [.val 0 (some 2) (.bool false)] trivial ?_
  refine dF ?_
  try simp only [puts, Tk.put, Act.put, List.setIfInBounds_toArray, List.set_cons_zero, List.set_cons_succ]
  go_upto_region 1 with fail
  refine wp_region_fromM (fun W => Sep w [] [] W) hM ?_
  clear hM
  rintro Y2 hM
  refine cF (some 8) 6 #[] ((alive22_any _).mono ?_)
  rintro e Y3 ⟨rfl, hb⟩
  replace hM := hM.below hb
  clear hb
  refine tF 2 [.val 1 (some 9) (.bool false)] trivial ?_
  refine dF ?_
  try simp only [puts, Tk.put, Act.put, List.setIfInBounds_toArray, List.set_cons_zero, List.set_cons_succ]
  go_upto_region 3 with fail
  refine wp_region_fromM (fun W => Sep w [] [] W) hM ?_
  clear hM
  rintro Y4 hM
  refine cF (some 10) 7 #[] ((rlNew_any _).mono ?_)
  rintro e Y5 ⟨B5, v5, rfl, hR⟩
  replace hM := hM.gain (Sep.close (ps := RLR B5 [] v5) (l := []) hR)
  clear hR
  refine tF 2 [.val 1 (some 3) (pt B5 0)] trivial ?_
  refine dF ?_
  try simp only [puts, Tk.put, Act.put, List.setIfInBounds_toArray, List.set_cons_zero, List.set_cons_succ]
  go_upto_region 4 with fail
  refine wp_region_fromM (fun W => Sep w [] [.join (RLR B5 ([]) v5)] W) hM ?_
  clear hM
  rintro Y6 hM
  refine tF 2 [.val 0 (some 11) (.int .u8 (y : Int)), .alt 1 (some 12) (.int .i64 (IntKind.i64.wrap (y : Int))) (.int .i64 (y : Int))] ⟨congrArg (Value.int .i64) (HW.out), trivial⟩ ?_
  refine remF (.tmp 12) (.const (.int .i64 24)) 3 3 (some 13) (y : Int) 24 (q : Int) (by decide) HQ.out ?_
  refine tF 4 [.val 3 (some 4) (.int .i64 (q : Int))] trivial ?_
  refine dF ?_
  try simp only [puts, Tk.put, Act.put, List.setIfInBounds_toArray, List.set_cons_zero, List.set_cons_succ]
  go_upto_region 5 with fail
  refine wp_region_fromM (fun W => Sep w [] [.join (RLR B5 ([]) v5)] W) hM ?_
  clear hM
  rintro Y7 hM
  refine tF 1 [.val 0 (some 5) (.int .i64 0)] trivial ?_
  refine dF ?_
  try simp only [puts, Tk.put, Act.put, List.setIfInBounds_toArray, List.set_cons_zero, List.set_cons_succ]
  replace hM := hM.pick (l' := [.join (RLR B5 (keepL 0) v5)]) [0] (by decide) rfl
  go_wp2_with fail
  refine wp_loop_fit [.k (.int .u8 (y : Int)), .k (undef), .s 2, .k (pt B5 0), .k (.int .i64 (q : Int)), .s 5, .s 6, .s 7, .s 8, .s 9, .s 10, .s 11, .s 12, .s 13, .s 14, .s 15, .s 16, .s 17, .s 18, .s 19, .s 20, .s 21, .s 22, .s 23, .s 24, .s 25, .s 26, .s 27, .s 28, .s 29, .s 30, .s 31, .s 32, .s 33, .s 34, .s 35, .s 36, .s 37, .s 38, .s 39, .s 40, .s 41] (fun (s1 : Nat → Value) wr => ∃ (j : Nat) (v : Value), j ≤ q ∧ (s1 5 : Value) = .int .i64 (j : Int) ∧ Sep w [] [.join (RLR B5 (keepL j) v)] wr) (fun (s1 : Nat → Value) _ => q - (intOf (s1 5 : Value)).toNat) rfl rfl (show (fun (i : Value) => ∃ (j : Nat) (v : Value), j ≤ q ∧ i = .int .i64 (j : Int) ∧ Sep w [] [.join (RLR B5 (keepL j) v)] _) (.int .i64 0) from ⟨0, v5, Nat.zero_le _, rfl, hM⟩) ?_
  clear hM
  intro s1 wr hrel Js1 Ks1 hJs1 hKs1
  dsimp only [fillS]
  try dsimp only at hrel
  try dsimp only at hJs1
  generalize s1 5 = u5 at hrel hJs1 ⊢
  obtain ⟨j, v, hj, rfl, hM⟩ := hrel
  by_cases hlt : j < q
  case pos =>
    have HJ := Lib.hid hlt
    have HJ24 : Hid (j < 24) := Lib.hid (by have h := HQ24.out; omega)
    have hlt' : (j : Int) < (q : Int) := by omega
    clear hlt
    go_upto_region 6 with fail
    refine wp_region_fromM (fun W => Sep w [] [.join (RLR B5 (keepL j) v)] W) hM ?_
    clear hM
    rintro Y8 hM
    refine tF 3 [.val 0 (some 14) (.int .i64 (j : Int)), .val 1 (some 15) (.int .i64 (q : Int)), .alt 2 (some 16) (.bool (decide ((j : Int) < (q : Int)))) (.bool true)] ⟨congrArg Value.bool (decide_eq_true hlt'), trivial⟩ ?_
    refine dF ?_
    try simp only [puts, Tk.put, Act.put, List.setIfInBounds_toArray, List.set_cons_zero, List.set_cons_succ]
    go_upto_region 8 with fail
    refine wp_region_fromM (fun W => Sep w [] [.join (RLR B5 (keepL j) v)] W) hM ?_
    clear hM
    rintro Y9 hM
    refine tF 8 [.val 0 (some 20) (ivv kpI), .val 1 (some 21) (wv 50 0 0 0), .val 2 (some 22) (svv (Sid.mk 50 0 0 0 0)), .val 3 (some 23) (.int .i64 (j : Int)), .alt 4 (some 24) (.int .u64 (IntKind.u64.wrap (j : Int))) (.int .u64 (j : Int)), .alt 5 (some 25) (.int .u64 (IntKind.u64.wrap ((j : Int) + 1))) (.int .u64 ((j + 1 : Nat) : Int)), .val 6 (some 26) (wv (j + 1) 0 0 0), .val 7 (some 27) (msv (kpM j))] ⟨congrArg (Value.int .u64) (wr_u64 _ (by omega) (by have := HJ24.out; omega)), congrArg (Value.int .u64) ((wr_u64 _ (by omega) (by have := HJ24.out; omega)).trans (by omega)), trivial⟩ ?_
    have hq := mailPut_own (kpM j) (kp_ok HJ24.out) Y9
    rw [(msg_back (kp_err j) (kp_ok HJ24.out)).1] at hq
    refine cF (some 28) 8 #[msv (kpM j)] ((hq).mono ?_)
    rintro e Y10 ⟨v10o, rfl, hO, hb⟩
    clear hq
    replace hM := hM.octN hO hb
    clear hO hb
    obtain ⟨a10o, c10o, rfl, _⟩ := (hM.oka 0 rfl).octs.slice
    refine tF 14 [.val 9 (some 19) (.tuple #[.slice a10o (encG (kpM j)).length c10o, .int .i64 0]), .val 10 (some 29) (.slice a10o (encG (kpM j)).length c10o), .val 11 (some 30) (.int .i64 0), .val 12 (some 6) (.slice a10o (encG (kpM j)).length c10o), .val 13 (some 7) (.int .i64 0)] trivial ?_
    refine dF ?_
    try simp only [puts, Tk.put, Act.put, List.setIfInBounds_toArray, List.set_cons_zero, List.set_cons_succ]
    go_upto_region 9 with fail
    refine wp_region_fromM (fun W => Sep w [] [.oct (.slice a10o (encG (kpM j)).length c10o) (encG (kpM j)), .join (RLR B5 (keepL j) v)] W) hM ?_
    clear hM
    rintro Y12 hM
    refine tF 2 [.val 0 (some 31) (pt B5 0), .val 1 (some 32) (.slice a10o (encG (kpM j)).length c10o)] trivial ?_
    have hq := rlHear_any (encG (kpM j)) _ _ (hM.oka 1 rfl) (BF.mine hM (i := 0) (j := 1) rfl rfl (by decide)) (kp_back HJ24.out)
    rw [kp_hear j] at hq
    refine cF (some 33) 9 #[pt B5 0, .slice a10o (encG (kpM j)).length c10o] ((hq).mono ?_)
    rintro e Y13 ⟨rfl, v13, hT⟩
    clear hq
    replace hM := hM.turn 1 rfl hT rfl
    clear hT
    refine tF 6 [.val 3 (some 34) (.int .i64 (j : Int)), .val 4 (some 35) (.bool (decide ((j : Int) < 16))), .alt 5 (some 36) (.bool ((decide ((j : Int) < 16)) != (decide ((j : Int) < 16)))) (.bool false)] ⟨congrArg Value.bool (bne_self_b _), trivial⟩ ?_
    refine dF ?_
    try simp only [puts, Tk.put, Act.put, List.setIfInBounds_toArray, List.set_cons_zero, List.set_cons_succ]
    go_upto_region 7 with fail
    refine wp_region_fromM (fun W => Sep w [] [.oct (.slice a10o (encG (kpM j)).length c10o) (encG (kpM j)), .join (RLR B5 (keepL (j + 1)) v13)] W) hM ?_
    clear hM
    rintro Y14 hM
    refine tF 3 [.val 0 (some 17) (.int .i64 (j : Int)), .alt 1 (some 18) (.int .i64 (IntKind.i64.wrap ((j : Int) + 1))) (.int .i64 ((j + 1 : Nat) : Int)), .val 2 (some 5) (.int .i64 ((j + 1 : Nat) : Int))] ⟨congrArg (Value.int .i64) ((IntWalk.i64_in _ (by have := HJ24.out; omega)).trans (by omega)), trivial⟩ ?_
    refine dF ?_
    try simp only [puts, Tk.put, Act.put, List.setIfInBounds_toArray, List.set_cons_zero, List.set_cons_succ]
    have hM1 := hM.pick (l' := [.join (RLR B5 (keepL (j + 1)) v13)]) [1] (by decide) rfl
    have HM1 := Lib.hid hM1
    clear hM hM1
    go_wp2_with fail
    refine Met.intro (hJs1 _ _ rfl (show (fun (i : Value) => ∃ (j : Nat) (v : Value), j ≤ q ∧ i = .int .i64 (j : Int) ∧ Sep w [] [.join (RLR B5 (keepL j) v)] _) (.int .i64 ((j + 1 : Nat) : Int)) from ⟨j + 1, v13, HJ.out, rfl, HM1.out⟩) ?_)
    show q - (intOf (.int .i64 ((j + 1 : Nat) : Int) : Value)).toNat < q - (intOf (.int .i64 (j : Int) : Value)).toNat
    have := HJ.out; simp [intOf]; omega
  case neg =>
    obtain rfl : j = q := by omega
    go_upto_region 6 with fail
    refine wp_region_fromM (fun W => Sep w [] [.join (RLR B5 (keepL j) v)] W) hM ?_
    clear hM
    rintro Y15 hM
    refine tF 3 [.val 0 (some 14) (.int .i64 (j : Int)), .val 1 (some 15) (.int .i64 (j : Int)), .alt 2 (some 16) (.bool (decide ((j : Int) < (j : Int)))) (.bool false)] ⟨congrArg Value.bool (decide_eq_false (by omega)), trivial⟩ ?_
    refine dF ?_
    try simp only [puts, Tk.put, Act.put, List.setIfInBounds_toArray, List.set_cons_zero, List.set_cons_succ]
    go_upto_region 11 with fail
    refine wp_region_fromM (fun W => Sep w [] [.join (RLR B5 (keepL j) v)] W) hM ?_
    clear hM
    rintro Y16 hM
    refine tF 1 [.val 0 (some 37) (pt B5 0)] trivial ?_
    refine cF (some 38) 10 #[pt B5 0] ((rlCountJ (hM.oka 0 rfl)).mono ?_)
    rintro e Y17 ⟨rfl, hb⟩
    replace hM := hM.below hb
    clear hb
    refine tF 6 [.val 2 (some 39) (.int .i64 (j : Int)), .val 3 (some 40) (.int .i64 (min2I (j : Int) 16)), .alt 4 (some 41) (.bool (((keepL j).length : Int) == (min2I (j : Int) 16))) (.bool true), .val 5 (some 2) (.bool true)] ⟨congrArg Value.bool (kp_count j), trivial⟩ ?_
    refine dF ?_
    try simp only [puts, Tk.put, Act.put, List.setIfInBounds_toArray, List.set_cons_zero, List.set_cons_succ]
    go_wp2_with fail
    go_ret
    exact ⟨rfl, hM.b⟩
end Go.Proofs.YtechcdkakgpnkaaGreat
namespace Go.Proofs.YtechcdkakgpnkaaGreat
open Go.ChangeShapes Go.WideShapes Go.ChangeAt Go.RowKit Go.Deep
open Go.ChangeMaps (open_string)
set_option maxRecDepth 100000 in
theorem relayKeeps_lifted (os : Os) (started : os.Started) (H : Type) (enc : TypeId × Value → H) :
    ReturnsInHanded {} Tryz.checked os 5 .any (Rows.relayKeepsSpec.pre6 enc Tryz.prog Tryz.f5 Rows.relayKeepsRow.domain false) (Rows.relayKeepsSpec.post enc Tryz.prog Tryz.f5 false true false false) := by
  refine returnsInHanded_of_change_sized (C := Tryz.checked) Tryz.own started (by kernel_rfl) Tryz.func5
    (ChangeSpec.witness6 (enc := enc) (C := Tryz.checked) false ⟨#[], #[.int .u8 0], []⟩ 8 (by kernel_rfl) (by kernel_rfl) (by kernel_rfl) (by kernel_rfl)) ?_
  intro W base args ds gs before hval0 hW hcnd hsz0 _
  have hval : ∀ (j : Nat) t v, Tryz.f5.params[j]? = some t → args[j]? = some v → Value.okWide Tryz.prog W .any base t v := hval0
  have hW' := hW
  obtain ⟨p, q, hA0, hV, rfl, hfz, hnd⟩ := hW
  have hA : DataW.TrodAll enc Tryz.prog W 0 (fun _ => true) true Tryz.f5.params.toList args.toList ds p := hA0
  have hsz : (DataW.weightsEach Tryz.prog (Tryz.f5.params.toList ++ Rows.relayKeepsSpec.plain.varTypes Tryz.prog) (ds ++ gs)).all (· ≤ reachBytes) = true := hsz0
  rw [Tryz.params5] at hA hval hsz
  obtain ⟨v0, d0, rfl, rfl, h0⟩ := trodAll_one hA
  obtain ⟨rfl, rfl⟩ := trodVars_none hV
  have k0 := h0
  have lt0 : ∀ x ∈ p, x.block < W.heap.size := by obtain ⟨m, hm⟩ := k0; exact DataW.trod_lt m _ _ _ hm
  obtain ⟨z0, rfl, _, _, wf0⟩ := open_int Tryz.underlying5 (hval 0 5 v0 rfl rfl) h0
  obtain ⟨y0, rfl⟩ := wf_u8 wf0
  clear hA0 hval0
  refine (relayKeeps_any y0.toNat (by have := y0.toNat_lt; omega) W).mono fun e W' ⟨he, bel⟩ => ?_
  subst he
  exact ⟨_, rfl, _, _, _, [], _, [], hW', trodAll_mk1 (shut_bool Tryz.underlying4 _), (trodAll_mk1 (Below.trod Tryz.laidOut (by kernel_rfl) (of_decide_eq_true (by kernel_rfl)) k0 bel lt0)), rfl, bel.frame _, fun h => by cases h⟩
theorem and_t {a b : Bool} (h : a = true) (g : b = true) : (a && b) = true := by rw [h, g]; rfl
set_option maxRecDepth 100000 in
theorem relayKeeps_j0 : (Rows.relayKeepsRow.wf (OpenSpec.ofChange Rows.relayKeepsSpec)) = true := by kernel_rfl
set_option maxRecDepth 100000 in
theorem relayKeeps_j1 : (laidOutB Tryz.pinned.checked.prog) = true := by kernel_rfl
set_option maxRecDepth 100000 in
theorem relayKeeps_j2 : (mapsRowed Tryz.pinned.checked.prog) = true := by kernel_rfl
set_option maxRecDepth 100000 in
theorem relayKeeps_j3 : (Tryz.f5.params.all (Tryz.pinned.checked.prog.readableRec ·)) = true := by kernel_rfl
set_option maxRecDepth 100000 in
theorem relayKeeps_j4 : (namedTie Tryz.pinned.checked.prog Rows.relayKeepsRow.named Rows.relayKeepsSpec.vars) = true := by kernel_rfl
set_option maxRecDepth 100000 in
theorem relayKeeps_j5 : ((Rows.relayKeepsRow.stops == [])) = true := by kernel_rfl
set_option maxRecDepth 100000 in
theorem relayKeeps_j6 : ((Tryz.pinned.checked.prog.stops == [])) = true := by kernel_rfl
set_option maxRecDepth 100000 in
theorem relayKeeps_j7 : ((Rows.relayKeepsRow.knobs == [])) = true := by kernel_rfl
set_option maxRecDepth 100000 in
theorem relayKeeps_j8 : ((Tryz.pinned.checked.prog.stopKnobs == [])) = true := by kernel_rfl
set_option maxRecDepth 100000 in
theorem relayKeeps_j9 : ((Rows.relayKeepsRow.inPlace == Tryz.pinned.checked.prog.inPlace 5)) = true := by kernel_rfl
set_option maxRecDepth 100000 in
theorem relayKeeps_j10 : ((Rows.relayKeepsRow.unfollowed == Tryz.pinned.checked.prog.unfollowed 5)) = true := by kernel_rfl
set_option maxRecDepth 100000 in
theorem relayKeeps_j11 : ((Rows.relayKeepsRow.recurses == Tryz.pinned.checked.prog.recurses 5)) = true := by kernel_rfl
set_option maxRecDepth 100000 in
theorem relayKeeps_j12 : ((Rows.relayKeepsRow.named == Tryz.pinned.checked.prog.varsNamed 5)) = true := by kernel_rfl
set_option maxRecDepth 100000 in
theorem relayKeeps_j13 : ((Rows.relayKeepsRow.maps == (Tryz.f5.params.toList ++ Rows.relayKeepsSpec.plain.varTypes Tryz.pinned.checked.prog).any (Tryz.pinned.checked.prog.mapsRec ·))) = true := by kernel_rfl
set_option maxRecDepth 100000 in
theorem relayKeeps_j14 : ((Rows.relayKeepsRow.ifaces == (Tryz.f5.params.toList ++ Rows.relayKeepsSpec.plain.varTypes Tryz.pinned.checked.prog).any (Tryz.pinned.checked.prog.ifacesRec ·))) = true := by kernel_rfl
set_option maxRecDepth 100000 in
theorem relayKeeps_j15 : ((Rows.relayKeepsRow.mapsOut == Tryz.pinned.checked.prog.mapsAmong Tryz.f5.resultTypes.toList)) = true := by kernel_rfl
set_option maxRecDepth 100000 in
theorem relayKeeps_j16 : ((Rows.relayKeepsRow.loops == (Tryz.f5.params.toList ++ Rows.relayKeepsSpec.plain.varTypes Tryz.pinned.checked.prog).any (Tryz.pinned.checked.prog.loopsFrom ·))) = true := by kernel_rfl
set_option maxRecDepth 100000 in
theorem relayKeeps_j17 : ((Rows.relayKeepsRow.wideKeys == (Tryz.f5.params.toList ++ Rows.relayKeepsSpec.plain.varTypes Tryz.pinned.checked.prog ++ Tryz.f5.resultTypes.toList).any (Tryz.pinned.checked.prog.wideKeysFrom ·))) = true := by kernel_rfl
set_option maxRecDepth 100000 in
theorem relayKeeps_j18 : (Rows.relayKeepsSpec.vars.all (Tryz.pinned.checked.prog.varReadable ·)) = true := by kernel_rfl
set_option maxRecDepth 100000 in
theorem relayKeeps_j19 : (Tryz.f5.resultTypes.all (fun t => Tryz.pinned.checked.prog.readableRec t && decide (t < Tryz.pinned.checked.prog.types.size))) = true := by kernel_rfl
set_option maxRecDepth 100000 in
theorem relayKeeps_j20 : ((Rows.relayKeepsRow.ifacesOut == Tryz.f5.resultTypes.toList.any (Tryz.pinned.checked.prog.ifacesRec ·))) = true := by kernel_rfl
set_option maxRecDepth 100000 in
theorem relayKeeps_j21 : ((Rows.relayKeepsRow.loopsOut == Tryz.f5.resultTypes.toList.any (Tryz.pinned.checked.prog.loopsFrom ·))) = true := by kernel_rfl
set_option maxRecDepth 100000 in
theorem relayKeeps_j22 : ((Rows.relayKeepsRow.plainKeys == Tryz.pinned.checked.prog.plainKeys)) = true := by kernel_rfl
set_option maxRecDepth 100000 in
theorem relayKeeps_j23 : (Rows.relayKeepsRow.shortTexts.isNone) = true := by kernel_rfl
set_option maxRecDepth 100000 in
theorem relayKeeps_j24 : (Tryz.pinned.checked.prog.stopsHeard) = true := by kernel_rfl
set_option maxRecDepth 100000 in
theorem relayKeeps_j25 : (Tryz.pinned.checked.prog.mayEnter) = true := by kernel_rfl
set_option maxRecDepth 100000 in
theorem relayKeeps_j26 : ((Rows.relayKeepsRow.lifted == Tryz.pinned.checked.prog.liftsFinal)) = true := by kernel_rfl
set_option maxRecDepth 100000 in
theorem relayKeeps_j27 : ((Tryz.pinned.checked.prog.make == some Rows.relayKeepsRow.make)) = true := by kernel_rfl
set_option maxRecDepth 100000 in
theorem relayKeeps_j28 : ((Rows.relayKeepsRow.kinds == (if Rows.relayKeepsRow.domain.isEmpty then [] else Tryz.f5.params.toList.map fun t => match Tryz.pinned.checked.prog.underlying t with | some (.int k) => some k | _ => none))) = true := by kernel_rfl
set_option maxRecDepth 100000 in
theorem relayKeeps_j29 : ((Rows.relayKeepsRow.pinned == Rows.relayKeepsRow.pinnedBy)) = true := by kernel_rfl
set_option maxRecDepth 100000 in
theorem relayKeeps_j30 : ((Rows.relayKeepsRow.veiled == (Tryz.f5.params.toList ++ Rows.relayKeepsSpec.plain.varTypes Tryz.pinned.checked.prog ++ Tryz.f5.resultTypes.toList).any (Tryz.pinned.checked.prog.veiledRec ·))) = true := by kernel_rfl
set_option maxRecDepth 100000 in
theorem relayKeeps_j31 : (Rows.relayKeepsRow.veiledFits Tryz.pinned.checked.prog Tryz.f5.params.toList (Tryz.f5.params.toList ++ Rows.relayKeepsSpec.plain.varTypes Tryz.pinned.checked.prog ++ Tryz.f5.resultTypes.toList)) = true := by kernel_rfl
set_option maxRecDepth 100000 in
theorem relayKeeps_over : Rows.relayKeepsRow.holds Tryz.pinned (OpenSpec.ofChange Rows.relayKeepsSpec) :=
  OpenClaim.holds_of_wide 5 Tryz.f5 rfl rfl rfl rfl rfl rfl rfl ⟨rfl, rfl, rfl, rfl, rfl⟩ rfl rfl rfl rfl rfl (by kernel_rfl) Tryz.func5 (by unfold joinedFacts; exact (and_t (and_t (and_t (and_t (and_t (and_t (and_t (and_t (and_t (and_t (and_t (and_t (and_t (and_t (and_t (and_t (and_t (and_t (and_t (and_t (and_t (and_t (and_t (and_t (and_t (and_t (and_t (and_t (and_t (and_t (and_t relayKeeps_j0 relayKeeps_j1) relayKeeps_j2) relayKeeps_j3) relayKeeps_j4) relayKeeps_j5) relayKeeps_j6) relayKeeps_j7) relayKeeps_j8) relayKeeps_j9) relayKeeps_j10) relayKeeps_j11) relayKeeps_j12) relayKeeps_j13) relayKeeps_j14) relayKeeps_j15) relayKeeps_j16) relayKeeps_j17) relayKeeps_j18) relayKeeps_j19) relayKeeps_j20) relayKeeps_j21) relayKeeps_j22) relayKeeps_j23) relayKeeps_j24) relayKeeps_j25) relayKeeps_j26) relayKeeps_j27) relayKeeps_j28) relayKeeps_j29) relayKeeps_j30) relayKeeps_j31))
    (of_decide_eq_true (by kernel_rfl)) (by unfold Func.isWrapper; first | (rw [if_pos (by decide +kernel)]; kernel_rfl) | (rw [if_neg (by decide +kernel)]; exact ⟨rfl, rfl⟩))
    (fun os started H enc _ => relayKeeps_lifted os started H enc)
theorem relayKeeps_proved : Rows.RelayKeepsSaid := relayKeeps_over
end Go.Proofs.YtechcdkakgpnkaaGreat
