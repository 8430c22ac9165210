/-
  MailTells answers true at every input, and leaves its arguments as they are.
  The walk of MailTells: which messages may be, any one's octets, and a message of any octets, are as the reference's.
-/
import Derived.ChangeMaps5
import Derived.Test.YtigdenlnnnfjlaaK14
namespace Go.Proofs.Ytigdenlnnnfjlaa
open Go.RowKit Go.Shelf

set_option maxRecDepth 100000 in
set_option maxHeartbeats 8000000 in
theorem mailTells_any (m : Ms) (hm : OkM m) (l : List UInt8) (sv : Value) (w : World) (hsl : BSl 0 w.heap.size w sv l) :
    Calls Try.prog 3 #[msv m, sv] w fun e W' => e = .returned (.bool true) ∧ Below w.heap.size w W' := by
  have hmx : Try.prog.follows .mixedOrders = true := by kernel_rfl
  obtain ⟨sa, sm, sc, rfl⟩ := hsl.shape3
  have HP := Lib.hid (mailPut_any m hm)
  have HQ := Lib.hid (refPutMessage_any m hm)
  have HC := Lib.hid (mailCheck_any m hm)
  have HM : Hid (∀ W, Calls Try.prog 10 #[msv m] W fun e W' => e = .returned (.tuple #[msv (plainM m), .int .i64 (errG m)]) ∧ Below W.heap.size W W') := Lib.hid fun W => refMessage_any m hm W
  have HR : Hid (∀ W, BSl 0 W.heap.size W (.slice sa sm sc) l → Calls Try.prog 8 #[.slice sa sm sc] W fun e W' => e = .returned (.tuple #[msv (readG (openS l)).1, .int .i64 (readG (openS l)).2]) ∧ Below W.heap.size W W') := Lib.hid fun W h => mailRead_any l _ W h
  have HG : Hid (∀ W, BSl 0 W.heap.size W (.slice sa sm sc) l → Calls Try.prog 9 #[.slice sa sm sc] W fun e W' => e = .returned (.tuple #[msv (readG (openS l)).1, .int .i64 (readG (openS l)).2]) ∧ Below W.heap.size W W') := Lib.hid fun W h => refGetMessage_any l _ W h
  generalize octG m = st at *
  generalize plainM m = pm at *
  generalize errG m = er at *
  generalize readG (openS l) = rd at *
  obtain ⟨ru, rc⟩ := rd
  dsimp only at HR HG
  clear hm
  have kB := Blk.new w 34 (msc m)
  have hB := chain0 w (.cells (msc m).toArray 34)
  have hsv := bslU hsl hB
  clear hsl
  go_enter Try.func3, Try.ntmps3
  go_upto_region 2 with (first
    | ((with_reducible refine wpList_loadIf 34 (.tmp 2) ?_ (some 16) ?_ ?_ (msv m) ?_ ?_); (· rfl); (· rfl); (· rfl); (· exact load_ms kB))
    | (go_at_call 6; refine (HP.out _).mono ?_; rintro e w1 ⟨v1, rfl, hx, hb⟩; obtain ⟨xa, xm, xc, rfl⟩ := hx.shape3; replace kB := kB.below hb kB.lt; replace hsv := bslU hsv hb; replace hB := chain hB hb; clear hb))
  go_upto_region 3 with (first
    | ((with_reducible refine wpList_loadIf 34 (.tmp 2) ?_ (some 21) ?_ ?_ (msv m) ?_ ?_); (· rfl); (· rfl); (· rfl); (· exact load_ms kB))
    | (go_at_call 7; refine (HQ.out _).mono ?_; rintro e w2 ⟨v2, rfl, hy, hb⟩; obtain ⟨ya, ym, yc, rfl⟩ := hy.shape3; replace kB := kB.below hb kB.lt; replace hsv := bslU hsv hb; replace hx := bslU hx hb; replace hB := chain hB hb; clear hb))
  go_upto_region 4 with (first
    | (go_at_call 8; refine (HR.out _ hsv).mono ?_; rintro e w9 ⟨rfl, hb⟩; replace kB := kB.below hb kB.lt; replace hsv := bslU hsv hb; replace hx := bslU hx hb; replace hy := bslU hy hb; replace hB := chain hB hb; clear hb; have kN := Blk.new w9 34 (msc noM))
    | ((refine wpList_store_part 34 (.tmp 9) (.tmp 28) (msc ru) kN 0 ((msv ru)) (msc ru) ?_ ?_ ?_ ?_ ?_ ?_ ?_ ?_ ?_ ?_ ?_); (· rfl); (· rfl); (· rfl); (· rfl); (· rfl); (· rfl); (· kernel_rfl); (· exact Nat.le_of_ble_eq_true rfl); (· rfl); (· rfl)))
  generalize hX : World.setRow (World.alloc w9 _) _ _ = X9
  have hbX : Below w9.heap.size w9 X9 := by rw [← hX]; exact below_setRow (chain0 w9 (.cells (msc noM).toArray 34)) (Nat.le_refl _) (msc ru).toArray
  have k9 : Blk X9 w9.heap.size 34 (msc ru) := by rw [← hX]; exact kN.row (msc ru)
  clear hX kN
  replace kB := kB.below hbX kB.lt; replace hsv := bslU hsv hbX; replace hx := bslU hx hbX; replace hy := bslU hy hbX; replace hB := chain hB hbX
  clear hbX
  generalize w9.heap.size = B9 at *
  go_upto_region 5 with (first
    | (go_at_call 9; refine (HG.out _ hsv).mono ?_; rintro e w11 ⟨rfl, hb⟩; replace kB := kB.below hb kB.lt; replace k9 := k9.below hb k9.lt; replace hsv := bslU hsv hb; replace hx := bslU hx hb; replace hy := bslU hy hb; replace hB := chain hB hb; clear hb; have kN := Blk.new w11 34 (msc noM))
    | ((refine wpList_store_part 34 (.tmp 11) (.tmp 33) (msc ru) kN 0 ((msv ru)) (msc ru) ?_ ?_ ?_ ?_ ?_ ?_ ?_ ?_ ?_ ?_ ?_); (· rfl); (· rfl); (· rfl); (· rfl); (· rfl); (· rfl); (· kernel_rfl); (· exact Nat.le_of_ble_eq_true rfl); (· rfl); (· rfl)))
  generalize hX : World.setRow (World.alloc w11 _) _ _ = X11
  have hbX : Below w11.heap.size w11 X11 := by rw [← hX]; exact below_setRow (chain0 w11 (.cells (msc noM).toArray 34)) (Nat.le_refl _) (msc ru).toArray
  have k11 : Blk X11 w11.heap.size 34 (msc ru) := by rw [← hX]; exact kN.row (msc ru)
  clear hX kN
  replace kB := kB.below hbX kB.lt; replace k9 := k9.below hbX k9.lt; replace hsv := bslU hsv hbX; replace hx := bslU hx hbX; replace hy := bslU hy hbX; replace hB := chain hB hbX
  clear hbX
  generalize w11.heap.size = B11 at *
  go_upto_region 6 with (first
    | ((with_reducible refine wpList_loadIf 34 (.tmp 2) ?_ (some 36) ?_ ?_ (msv m) ?_ ?_); (· rfl); (· rfl); (· rfl); (· exact load_ms kB))
    | (go_at_call 10; refine (HM.out _).mono ?_; rintro e w13 ⟨rfl, hb⟩; replace kB := kB.below hb kB.lt; replace k9 := k9.below hb k9.lt; replace k11 := k11.below hb k11.lt; replace hsv := bslU hsv hb; replace hx := bslU hx hb; replace hy := bslU hy hb; replace hB := chain hB hb; clear hb; have kN := Blk.new w13 34 (msc noM))
    | ((refine wpList_store_part 34 (.tmp 13) (.tmp 38) (msc pm) kN 0 ((msv pm)) (msc pm) ?_ ?_ ?_ ?_ ?_ ?_ ?_ ?_ ?_ ?_ ?_); (· rfl); (· rfl); (· rfl); (· rfl); (· rfl); (· rfl); (· kernel_rfl); (· exact Nat.le_of_ble_eq_true rfl); (· rfl); (· rfl)))
  generalize hX : World.setRow (World.alloc w13 _) _ _ = X13
  have hbX : Below w13.heap.size w13 X13 := by rw [← hX]; exact below_setRow (chain0 w13 (.cells (msc noM).toArray 34)) (Nat.le_refl _) (msc pm).toArray
  have k13 : Blk X13 w13.heap.size 34 (msc pm) := by rw [← hX]; exact kN.row (msc pm)
  clear hX kN
  replace kB := kB.below hbX kB.lt; replace k9 := k9.below hbX k9.lt; replace k11 := k11.below hbX k11.lt; replace hsv := bslU hsv hbX; replace hx := bslU hx hbX; replace hy := bslU hy hbX; replace hB := chain hB hbX
  clear hbX
  generalize w13.heap.size = B13 at *
  clear HP HQ HM HR HG k13 hsv
  go_wp2_with (first
    | ((with_reducible refine wpList_loadIf 34 (.tmp 2) ?_ (some 40) ?_ ?_ (msv m) ?_ ?_); (· rfl); (· rfl); (· rfl); (· exact load_ms kB))
    | (go_at_call 12; refine (HC.out _).mono ?_; rintro e w6 ⟨rfl, hb⟩; replace kB := kB.below hb kB.lt; replace k9 := k9.below hb k9.lt; replace k11 := k11.below hb k11.lt; replace hx := bslU hx hb; replace hy := bslU hy hb; replace hB := chain hB hb; clear hb; have hcv1 := str_of w6 hx; have hcv2 := str_of w6 hy)
    | (go_at_call 11; refine (mailNum_any _ _).mono ?_; rintro e w7 ⟨rfl, rfl⟩)
    | ((with_reducible refine wpList_loadIf 34 (.tmp 9) ?_ (some 59) ?_ ?_ (msv ru) ?_ ?_); (· rfl); (· rfl); (· rfl); (· exact load_ms k9))
    | ((with_reducible refine wpList_loadIf 34 (.tmp 11) ?_ (some 60) ?_ ?_ (msv ru) ?_ ?_); (· rfl); (· rfl); (· rfl); (· exact load_ms k11))
    | ((with_reducible refine wpList_valueIf (some 61) ?_ ?_ (.bool true) ?_ ?_); (· rfl); (· rfl); (· exact exec_eqS (.tmp 59) (.tmp 60) _ rfl ru rfl rfl _))
    | (go_at_call 13; refine (mailAlive_any _).mono ?_; rintro e w8 ⟨rfl, hb⟩; replace hB := chain hB hb; clear hb))
  go_ret
  exact ⟨rfl, hB⟩
end Go.Proofs.Ytigdenlnnnfjlaa

namespace Go.Proofs.Ytigdenlnnnfjlaa
open Go.ChangeShapes Go.WideShapes Go.ChangeAt Go.RowKit Go.Deep
open Go.ChangeMaps (open_string)

set_option maxRecDepth 100000 in
theorem mailTells_lifted (os : Os) (started : os.Started) (H : Type) (enc : TypeId × Value → H) :
    ReturnsInHanded {} Try.checked os 3 .any (Rows.mailTellsSpec.pre6 enc Try.prog Try.f3 Rows.mailTellsRow.domain false) (Rows.mailTellsSpec.post enc Try.prog Try.f3 false true false false) := by
  refine returnsInHanded_of_change_sized (C := Try.checked) Try.own started (by kernel_rfl) Try.func3
    (ChangeSpec.witness6 (enc := enc) (C := Try.checked) false ⟨#[], #[.agg #[.int .i64 0, .int .i64 0, .int .i64 0, .int .i64 0, .int .i64 0, .int .u64 0, .int .u64 0, .int .u64 0, .int .u64 0, .string ⟨#[]⟩, .int .i64 0, .int .i64 0, .int .i64 0, .int .i64 0, .int .i64 0, .int .u64 0, .int .u64 0, .int .u64 0, .int .u64 0, .string ⟨#[]⟩, .int .u64 0, .int .u64 0, .int .u64 0, .int .u64 0, .int .i64 0, .string ⟨#[]⟩, .int .i64 0, .string ⟨#[]⟩, .int .i64 0, .int .i64 0, .int .i64 0, .int .i64 0, .string ⟨#[]⟩, .int .u64 0, .int .u64 0, .int .u64 0, .int .u64 0, .int .i64 0, .int .u64 0, .int .u64 0, .int .u64 0, .int .u64 0, .string ⟨#[]⟩], .slice none 0 0], []⟩ 8 (by kernel_rfl) (by kernel_rfl) (by kernel_rfl) (by kernel_rfl)) ?_
  intro W base args ds gs before hval0 hW hcnd hsz0 _
  have hval : ∀ (j : Nat) t v, Try.f3.params[j]? = some t → args[j]? = some v → Value.okWide Try.prog W .any base t v := hval0
  have hW' := hW
  obtain ⟨p, q, hA0, hV, rfl, hfz, hnd⟩ := hW
  have hA : DataW.TrodAll enc Try.prog W 0 (fun _ => true) true Try.f3.params.toList args.toList ds p := hA0
  have hsz : (DataW.weightsEach Try.prog (Try.f3.params.toList ++ Rows.mailTellsSpec.plain.varTypes Try.prog) (ds ++ gs)).all (· ≤ reachBytes) = true := hsz0
  rw [Try.params3] at hA hval hsz
  obtain ⟨v0, v1, d0, d1, p0, p1, rfl, rfl, rfl, h0, h1⟩ := trodAll_two hA
  obtain ⟨rfl, rfl⟩ := trodVars_none hV
  obtain ⟨a1, len1, cap1, rfl⟩ := okWide_slice Try.underlying35 (hval 1 35 v1 rfl rfl)
  have k0 := h0
  have k1 := h1
  have lt0 : ∀ x ∈ p0, x.block < W.heap.size := by obtain ⟨m, hm⟩ := k0; exact DataW.trod_lt m _ _ _ hm
  have lt1 : ∀ x ∈ p1, x.block < W.heap.size := by obtain ⟨m, hm⟩ := k1; exact DataW.trod_lt m _ _ _ hm
  obtain ⟨i0, rfl, hx0⟩ := open_msg (hval 0 34 v0 rfl rfl) h0
  obtain ⟨l1, rfl, hsl1, hd1⟩ := open_bytes h1
  have hreach1 : l1.length ≤ 140737488351232 := by
    rcases hd1 with rfl | ⟨el, sp, rfl, hel⟩
    · simp
    · have := sized_slice hsz (j := 1) (t := 35) (e := 5) rfl rfl Try.underlying35
      rw [Try.bytes8] at this
      simp only [reachBytes] at this
      omega
  clear hA0 hval0
  refine (mailTells_any i0 hx0 l1 _ W hsl1).mono fun e W' ⟨he, bel⟩ => ?_
  subst he
  exact ⟨_, rfl, _, _, _, [], _, [], hW', trodAll_mk1 (shut_bool Try.underlying4 _), (trodAll_mk2 (Below.trod Try.laidOut (by kernel_rfl) (of_decide_eq_true (by kernel_rfl)) k0 bel lt0) (Below.trod Try.laidOut (by kernel_rfl) (of_decide_eq_true (by kernel_rfl)) k1 bel lt1)), rfl, bel.frame _, fun h => by cases h⟩

theorem mailTells_over : Rows.mailTellsRow.holds Try.pinned (OpenSpec.ofChange Rows.mailTellsSpec) :=
  OpenClaim.holds_of_wide 3 Try.f3 rfl rfl rfl rfl rfl rfl rfl ⟨rfl, rfl, rfl, rfl, rfl⟩ rfl rfl rfl rfl rfl (by kernel_rfl) Try.func3 (by kernel_rfl)
    (of_decide_eq_true (by kernel_rfl)) (by unfold Func.isWrapper; first | (rw [if_pos (by decide +kernel)]; kernel_rfl) | (rw [if_neg (by decide +kernel)]; exact ⟨rfl, rfl⟩))
    (fun os started H enc _ => mailTells_lifted os started H enc)

/-- The statement. -/
theorem mailTells_proved : Rows.MailTellsSaid := mailTells_over
end Go.Proofs.Ytigdenlnnnfjlaa
