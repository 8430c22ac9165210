/-
  MailCuts answers true at every input, and leaves its arguments as they are.
  The walk of MailCuts: a beginning of a message's octets, or more behind it, is none's.
-/
import Derived.ChangeMaps5
import Derived.Test.YtigdenlnnnfjlaaK14
namespace Go.Proofs.Ytigdenlnnnfjlaa
open Go.RowKit Go.Shelf

theorem bslX {l : List UInt8} {W W' : World} {sv : Value} (h : BSl 0 W.heap.size W sv l) (hb : Below W.heap.size W W') : BSl 0 W'.heap.size W' sv l := (h.below hb (Nat.le_refl _)).mono (Nat.le_refl _) hb.size
theorem encG_small {m : Ms} (h : errG m = 0) : 0 < (encG m).length ∧ (encG m).length ≤ 1300 := by
  have n0 := encN_length m.kd
  unfold encG
  rcases errG_kind h with ⟨k, ha⟩ | ⟨k, hb⟩ | ⟨k, hi, hv, hs⟩
  · rw [if_pos k, List.length_append]
    have la := encA_length ha
    omega
  · rw [if_neg (by omega), if_pos k, List.length_append]
    obtain ⟨_, ha, _, _, _, hs⟩ := hb
    have la := encA_length ha
    have l0 := encN_length m.bd.ro
    have l1 := wide8_length m.bd.b0 m.bd.b1 m.bd.b2 m.bd.b3
    have l2 := encN_length m.bd.un
    have l3 := encT_length m.bd.sg
    unfold encD
    simp only [List.length_append]
    omega
  · rw [if_neg (by omega), if_neg (by omega), List.length_append]
    have li := encI_length hi
    have lv := encV_length m.vr
    have l1 := wide8_length m.f0 m.f1 m.f2 m.f3
    have l3 := encT_length m.sg
    unfold encR
    simp only [List.length_append]
    omega
set_option maxRecDepth 100000 in
set_option maxHeartbeats 8000000 in
theorem mailCuts_n (m : Ms) (hm : OkM m) (he : errG m ≠ 0) (z : Int) (l : List UInt8) (sv : Value) (w : World) (hsl : BSl 0 w.heap.size w sv l) :
    Calls Try.prog 5 #[msv m, .int .i64 z, sv] w fun e W' => e = .returned (.bool true) ∧ Below w.heap.size w W' := by
  obtain ⟨sa, sm, sc, rfl⟩ := hsl.shape3
  have HP := Lib.hid (mailPut_any m hm)
  rw [octG_no he] at HP
  have q1 : (errG m == 0) = false := by simpa using he
  have q2 : (errG m != 0) = true := by simpa using he
  unfold ToldS at HP
  dsimp only at HP
  generalize errG m = er at *
  clear he hm hsl
  have kB := Blk.new w 34 (msc m)
  have hB := chain0 w (.cells (msc m).toArray 34)
  go_enter Try.func5, Try.ntmps5
  go_wp2_with (first
    | (go_at_call 13; refine (mailAlive_any _).mono ?_; rintro e w0 ⟨rfl, hb⟩; replace kB := kB.below hb kB.lt; replace hB := chain hB hb; clear hb)
    | ((with_reducible refine wpList_loadIf 34 (.tmp 3) ?_ (some 16) ?_ ?_ (msv m) ?_ ?_); (· rfl); (· rfl); (· rfl); (· exact load_ms kB))
    | (go_at_call 6; refine (HP.out _).mono ?_; rintro e w1 ⟨v1, rfl, hx, hb⟩; obtain ⟨xa, xm, xc, rfl⟩ := hx.shape3; replace hB := chain hB hb; clear hb))
  go_ret
  exact ⟨rfl, hB⟩
set_option maxRecDepth 100000 in
set_option maxHeartbeats 8000000 in
theorem mailCuts_e (m : Ms) (hm : OkM m) (he : errG m = 0) (z : Int) (l : List UInt8) (hk : l = []) (hreach : l.length ≤ 140737488351232) (sv : Value) (w : World) (hsl : BSl 0 w.heap.size w sv l) :
    Calls Try.prog 5 #[msv m, .int .i64 z, sv] w fun e W' => e = .returned (.bool true) ∧ Below w.heap.size w W' := by
  obtain ⟨i0, hi, hz0, hz1, hz2⟩ := info_parts Try.infoByte
  obtain ⟨sa, sc, rfl, -⟩ := hsl.shape
  have HP := Lib.hid (mailPut_any m hm)
  obtain ⟨b1, b2, b3⟩ := msg_back he hm
  rw [b1] at HP
  unfold ToldS at HP
  dsimp only at HP
  obtain ⟨hpos, hsmall⟩ := encG_small he
  obtain ⟨hcut, hclt⟩ := cutAt_spec z hpos
  have hx1 := msg_cut he hm hclt
  have HR1 : Hid (∀ W v, BSl 0 W.heap.size W v ((encG m).take (cutAt z (encG m).length)) → Calls Try.prog 8 #[v] W fun e W' => e = .returned (.tuple #[msv (readG (openS ((encG m).take (cutAt z (encG m).length)))).1, .int .i64 (readG (openS ((encG m).take (cutAt z (encG m).length)))).2]) ∧ Below W.heap.size W W') := Lib.hid fun W v h => mailRead_any _ v W h
  generalize readG (openS ((encG m).take (cutAt z (encG m).length))) = r1 at *
  obtain ⟨r1, x1⟩ := r1
  dsimp only at hx1 HR1
  have q1 : (x1 == 0) = false := by simpa using hx1
  have q2 : (x1 != 0) = true := by simpa using hx1
  clear hx1 b1 b2
  have HR2 : Hid (∀ W v, BSl 0 W.heap.size W v (encG m ++ l) → Calls Try.prog 8 #[v] W fun e W' => e = .returned (.tuple #[msv (plainM m), .int .i64 0]) ∧ Below W.heap.size W W') := Lib.hid fun W v h => by
    rw [hk, List.append_nil] at h
    have := mailRead_any _ v W h
    rw [b3] at this
    exact this
  have hlp : l.length = 0 := by rw [hk]; rfl
  have q5 : ((l.length : Int) == 0) = true := by rw [hlp]; rfl
  generalize plainM m = r2 at *
  clear b3 hlp
  have HN := Lib.hid (fun (W : World) va vc (hv : BSl 0 W.heap.size W (.slice va (encG m).length vc) (encG m)) => bsl_head hv (k := cutAt z (encG m).length) (by omega))
  clear he hm hk
  generalize encG m = E at *
  generalize hcN : E.length = n at *
  generalize hkN : l.length = k at *
  have HcN := Lib.hid hcN
  have HkN := Lib.hid hkN
  clear hcN hkN
  generalize cutAt z n = c at *
  have ht1 : -(n : Int) < Int.tmod z n := Int.lt_tmod_of_pos z (by omega)
  have ht2 : Int.tmod z n < (n : Int) := Int.tmod_lt_of_pos z (by omega)
  obtain ⟨t, hT⟩ : ∃ t, Int.tmod z n = t := ⟨_, rfl⟩
  rw [hT] at hcut ht1 ht2
  have ht3 : 0 ≤ t + (n : Int) := by omega
  have ht4 : t + (n : Int) ≤ 16384 := by omega
  have hcut2 : Int.tmod (t + (n : Int)) n = (c : Int) := by rw [Int.tmod_eq_emod_of_nonneg ht3]; exact hcut
  have hne : ((n : Int) == 0) = false := by simp; omega
  have hcle : (c : Int) ≤ (n : Int) := by omega
  clear hcut
  have kB := Blk.new w 34 (msc m)
  have hB := chain0 w (.cells (msc m).toArray 34)
  have hmo := bslX hsl hB
  clear hsl
  go_enter Try.func5, Try.ntmps5
  go_upto_region 7 with (first
    | (go_at_call 13; refine (mailAlive_any _).mono ?_; rintro e w0 ⟨rfl, hb⟩; replace kB := kB.below hb kB.lt; replace hmo := bslX hmo hb; replace hB := chain hB hb; clear hb)
    | ((with_reducible refine wpList_loadIf 34 (.tmp 3) ?_ (some 16) ?_ ?_ (msv m) ?_ ?_); (· rfl); (· rfl); (· rfl); (· exact load_ms kB))
    | (go_at_call 6; refine (HP.out _).mono ?_; rintro e w1 ⟨v1, rfl, hx, hb⟩; obtain ⟨xa, xc, rfl, hcap⟩ := hx.shape; rw [HcN.out] at hx hcap ⊢; have hcc : c ≤ xc := Nat.le_trans (Nat.le_of_lt hclt) hcap; replace kB := kB.below hb kB.lt; replace hmo := bslX hmo hb; replace hB := chain hB hb; clear hb))
  clear HP kB hcut2 hT ht1 ht2 ht3 ht4
  go_upto_region 8 with (first
    | (go_at_call 8; refine (HR1.out _ _ (HN.out _ _ _ hx)).mono ?_; rintro e w9 ⟨rfl, hb⟩; replace hmo := bslX hmo hb; replace hx := bslX hx hb; replace hB := chain hB hb; clear hb; have kN := Blk.new w9 34 (msc noM))
    | ((refine wpList_store_part 34 (.tmp 9) (.tmp 44) (msc r1) kN 0 ((msv r1)) (msc r1) ?_ ?_ ?_ ?_ ?_ ?_ ?_ ?_ ?_ ?_ ?_); (· rfl); (· rfl); (· rfl); (· rfl); (· rfl); (· rfl); (· kernel_rfl); (· exact Nat.le_of_ble_eq_true rfl); (· rfl); (· rfl)))
  generalize hX : World.setRow (World.alloc w9 _) _ _ = X9
  have hbX : Below w9.heap.size w9 X9 := by rw [← hX]; exact below_setRow (chain0 w9 (.cells (msc noM).toArray 34)) (Nat.le_refl _) (msc r1).toArray
  clear hX kN HR1 HN
  replace hmo := bslX hmo hbX; replace hx := bslX hx hbX; replace hB := chain hB hbX
  clear hbX
  generalize w9.heap.size = B9 at *
  go_wp2_with (first
    | (at_builtin; refine wpList_append_b _ rfl _ _ 35 rfl X9.heap.size 5 i0 (.int .u8 0) Try.underlying35 hi hz0 hz1 hz2 rfl _ 0 [] rfl (World.ownsRow_lit X9 #[] 0 (Nat.le_refl _) (by unfold maxLen; omega) rfl) _ E rfl (hx.below ((Below.refl X9.heap.size X9).alloc (Nat.le_refl _) _) (Nat.le_refl _)) (by rw [HcN.out]; omega) (by simp) ?_; intro v' wa hown' hgrow; (have hb1 : Below X9.heap.size X9 wa := (chain0 X9 _).grown hgrow (by simp) (fun k e => by have : X9.heap.size = k := Option.some.inj e; omega)); have h21 := hmo.below hb1 (Nat.le_refl _); rw [Nat.zero_add, List.nil_append] at hown')
    | (at_builtin; refine wpList_append_b _ rfl _ _ 35 rfl X9.heap.size 5 i0 (.int .u8 0) Try.underlying35 hi hz0 hz1 hz2 rfl _ E.length (E.map bv) rfl hown' _ l rfl h21 (by rw [HcN.out, HkN.out]; omega) hb1.size ?_; intro v2 wb hown2 hgrow2; (have hown3 : wb.ownsRow X9.heap.size 5 1 v2 (E ++ l).length ((E ++ l).map bv) := (by rw [List.length_append, List.map_append]; exact hown2)); (have hv2 : BSl 0 wb.heap.size wb v2 (E ++ l) := (BSl.of_own hown3).mono (Nat.zero_le _) (Nat.le_refl _)); (have hb2 : Below X9.heap.size X9 wb := hb1.grown hgrow2 hb1.size (fun j hj => (World.ownsRow.lt hown' j hj).1)); obtain ⟨ya, ym, yc, rfl⟩ := hv2.shape3; replace hB := chain hB hb2; clear hown2 hown3 hgrow2 hown' hgrow hb1 h21 hb2)
    | (go_at_call 8; refine (HR2.out _ _ hv2).mono ?_; rintro e w11 ⟨rfl, hb⟩; replace hB := chain hB hb; clear hb hv2; have kN := Blk.new w11 34 (msc noM))
    | ((refine wpList_store_part 34 (.tmp 11) (.tmp 53) (msc r2) kN 0 ((msv r2)) (msc r2) ?_ ?_ ?_ ?_ ?_ ?_ ?_ ?_ ?_ ?_ ?_); (· rfl); (· rfl); (· rfl); (· rfl); (· rfl); (· rfl); (· kernel_rfl); (· exact Nat.le_of_ble_eq_true rfl); (· rfl); (· rfl); replace hB := below_setRow (chainA hB (.cells (msc noM).toArray 34)) hB.size (msc r2).toArray))
  go_ret
  exact ⟨rfl, hB⟩
set_option maxRecDepth 100000 in
set_option maxHeartbeats 8000000 in
theorem mailCuts_m (m : Ms) (hm : OkM m) (he : errG m = 0) (z : Int) (l : List UInt8) (hk : l ≠ []) (hreach : l.length ≤ 140737488351232) (sv : Value) (w : World) (hsl : BSl 0 w.heap.size w sv l) :
    Calls Try.prog 5 #[msv m, .int .i64 z, sv] w fun e W' => e = .returned (.bool true) ∧ Below w.heap.size w W' := by
  obtain ⟨i0, hi, hz0, hz1, hz2⟩ := info_parts Try.infoByte
  obtain ⟨sa, sc, rfl, -⟩ := hsl.shape
  have HP := Lib.hid (mailPut_any m hm)
  obtain ⟨b1, b2, b3⟩ := msg_back he hm
  rw [b1] at HP
  unfold ToldS at HP
  dsimp only at HP
  obtain ⟨hpos, hsmall⟩ := encG_small he
  obtain ⟨hcut, hclt⟩ := cutAt_spec z hpos
  have hx1 := msg_cut he hm hclt
  have HR1 : Hid (∀ W v, BSl 0 W.heap.size W v ((encG m).take (cutAt z (encG m).length)) → Calls Try.prog 8 #[v] W fun e W' => e = .returned (.tuple #[msv (readG (openS ((encG m).take (cutAt z (encG m).length)))).1, .int .i64 (readG (openS ((encG m).take (cutAt z (encG m).length)))).2]) ∧ Below W.heap.size W W') := Lib.hid fun W v h => mailRead_any _ v W h
  generalize readG (openS ((encG m).take (cutAt z (encG m).length))) = r1 at *
  obtain ⟨r1, x1⟩ := r1
  dsimp only at hx1 HR1
  have q1 : (x1 == 0) = false := by simpa using hx1
  have q2 : (x1 != 0) = true := by simpa using hx1
  clear hx1 b1 b2
  have hx2 := msg_more he hm hk
  have HR2 : Hid (∀ W v, BSl 0 W.heap.size W v (encG m ++ l) → Calls Try.prog 8 #[v] W fun e W' => e = .returned (.tuple #[msv (readG (openS (encG m ++ l))).1, .int .i64 (readG (openS (encG m ++ l))).2]) ∧ Below W.heap.size W W') := Lib.hid fun W v h => mailRead_any _ v W h
  generalize readG (openS (encG m ++ l)) = r2 at *
  obtain ⟨r2, x2⟩ := r2
  dsimp only at hx2 HR2
  have q3 : (x2 == 0) = false := by simpa using hx2
  have q4 : (x2 != 0) = true := by simpa using hx2
  have hlp : 0 < l.length := List.length_pos_iff.2 hk
  have q5 : ((l.length : Int) == 0) = false := by simp; omega
  clear hx2 b3
  have HN := Lib.hid (fun (W : World) va vc (hv : BSl 0 W.heap.size W (.slice va (encG m).length vc) (encG m)) => bsl_head hv (k := cutAt z (encG m).length) (by omega))
  clear he hm hk
  generalize encG m = E at *
  generalize hcN : E.length = n at *
  generalize hkN : l.length = k at *
  have HcN := Lib.hid hcN
  have HkN := Lib.hid hkN
  clear hcN hkN
  generalize cutAt z n = c at *
  have ht1 : -(n : Int) < Int.tmod z n := Int.lt_tmod_of_pos z (by omega)
  have ht2 : Int.tmod z n < (n : Int) := Int.tmod_lt_of_pos z (by omega)
  obtain ⟨t, hT⟩ : ∃ t, Int.tmod z n = t := ⟨_, rfl⟩
  rw [hT] at hcut ht1 ht2
  have ht3 : 0 ≤ t + (n : Int) := by omega
  have ht4 : t + (n : Int) ≤ 16384 := by omega
  have hcut2 : Int.tmod (t + (n : Int)) n = (c : Int) := by rw [Int.tmod_eq_emod_of_nonneg ht3]; exact hcut
  have hne : ((n : Int) == 0) = false := by simp; omega
  have hcle : (c : Int) ≤ (n : Int) := by omega
  clear hcut
  have kB := Blk.new w 34 (msc m)
  have hB := chain0 w (.cells (msc m).toArray 34)
  have hmo := bslX hsl hB
  clear hsl
  go_enter Try.func5, Try.ntmps5
  go_upto_region 7 with (first
    | (go_at_call 13; refine (mailAlive_any _).mono ?_; rintro e w0 ⟨rfl, hb⟩; replace kB := kB.below hb kB.lt; replace hmo := bslX hmo hb; replace hB := chain hB hb; clear hb)
    | ((with_reducible refine wpList_loadIf 34 (.tmp 3) ?_ (some 16) ?_ ?_ (msv m) ?_ ?_); (· rfl); (· rfl); (· rfl); (· exact load_ms kB))
    | (go_at_call 6; refine (HP.out _).mono ?_; rintro e w1 ⟨v1, rfl, hx, hb⟩; obtain ⟨xa, xc, rfl, hcap⟩ := hx.shape; rw [HcN.out] at hx hcap ⊢; have hcc : c ≤ xc := Nat.le_trans (Nat.le_of_lt hclt) hcap; replace kB := kB.below hb kB.lt; replace hmo := bslX hmo hb; replace hB := chain hB hb; clear hb))
  clear HP kB hcut2 hT ht1 ht2 ht3 ht4
  go_upto_region 8 with (first
    | (go_at_call 8; refine (HR1.out _ _ (HN.out _ _ _ hx)).mono ?_; rintro e w9 ⟨rfl, hb⟩; replace hmo := bslX hmo hb; replace hx := bslX hx hb; replace hB := chain hB hb; clear hb; have kN := Blk.new w9 34 (msc noM))
    | ((refine wpList_store_part 34 (.tmp 9) (.tmp 44) (msc r1) kN 0 ((msv r1)) (msc r1) ?_ ?_ ?_ ?_ ?_ ?_ ?_ ?_ ?_ ?_ ?_); (· rfl); (· rfl); (· rfl); (· rfl); (· rfl); (· rfl); (· kernel_rfl); (· exact Nat.le_of_ble_eq_true rfl); (· rfl); (· rfl)))
  generalize hX : World.setRow (World.alloc w9 _) _ _ = X9
  have hbX : Below w9.heap.size w9 X9 := by rw [← hX]; exact below_setRow (chain0 w9 (.cells (msc noM).toArray 34)) (Nat.le_refl _) (msc r1).toArray
  clear hX kN HR1 HN
  replace hmo := bslX hmo hbX; replace hx := bslX hx hbX; replace hB := chain hB hbX
  clear hbX
  generalize w9.heap.size = B9 at *
  go_wp2_with (first
    | (at_builtin; refine wpList_append_b _ rfl _ _ 35 rfl X9.heap.size 5 i0 (.int .u8 0) Try.underlying35 hi hz0 hz1 hz2 rfl _ 0 [] rfl (World.ownsRow_lit X9 #[] 0 (Nat.le_refl _) (by unfold maxLen; omega) rfl) _ E rfl (hx.below ((Below.refl X9.heap.size X9).alloc (Nat.le_refl _) _) (Nat.le_refl _)) (by rw [HcN.out]; omega) (by simp) ?_; intro v' wa hown' hgrow; (have hb1 : Below X9.heap.size X9 wa := (chain0 X9 _).grown hgrow (by simp) (fun k e => by have : X9.heap.size = k := Option.some.inj e; omega)); have h21 := hmo.below hb1 (Nat.le_refl _); rw [Nat.zero_add, List.nil_append] at hown')
    | (at_builtin; refine wpList_append_b _ rfl _ _ 35 rfl X9.heap.size 5 i0 (.int .u8 0) Try.underlying35 hi hz0 hz1 hz2 rfl _ E.length (E.map bv) rfl hown' _ l rfl h21 (by rw [HcN.out, HkN.out]; omega) hb1.size ?_; intro v2 wb hown2 hgrow2; (have hown3 : wb.ownsRow X9.heap.size 5 1 v2 (E ++ l).length ((E ++ l).map bv) := (by rw [List.length_append, List.map_append]; exact hown2)); (have hv2 : BSl 0 wb.heap.size wb v2 (E ++ l) := (BSl.of_own hown3).mono (Nat.zero_le _) (Nat.le_refl _)); (have hb2 : Below X9.heap.size X9 wb := hb1.grown hgrow2 hb1.size (fun j hj => (World.ownsRow.lt hown' j hj).1)); obtain ⟨ya, ym, yc, rfl⟩ := hv2.shape3; replace hB := chain hB hb2; clear hown2 hown3 hgrow2 hown' hgrow hb1 h21 hb2)
    | (go_at_call 8; refine (HR2.out _ _ hv2).mono ?_; rintro e w11 ⟨rfl, hb⟩; replace hB := chain hB hb; clear hb hv2; have kN := Blk.new w11 34 (msc noM))
    | ((refine wpList_store_part 34 (.tmp 11) (.tmp 53) (msc r2) kN 0 ((msv r2)) (msc r2) ?_ ?_ ?_ ?_ ?_ ?_ ?_ ?_ ?_ ?_ ?_); (· rfl); (· rfl); (· rfl); (· rfl); (· rfl); (· rfl); (· kernel_rfl); (· exact Nat.le_of_ble_eq_true rfl); (· rfl); (· rfl); replace hB := below_setRow (chainA hB (.cells (msc noM).toArray 34)) hB.size (msc r2).toArray))
  go_ret
  exact ⟨rfl, hB⟩
theorem mailCuts_any (m : Ms) (hm : OkM m) (z : Int) (l : List UInt8) (sv : Value) (w : World) (hreach : l.length ≤ 140737488351232) (hsl : BSl 0 w.heap.size w sv l) :
    Calls Try.prog 5 #[msv m, .int .i64 z, sv] w fun e W' => e = .returned (.bool true) ∧ Below w.heap.size w W' := by
  by_cases he : errG m = 0
  · by_cases hk : l = []
    · exact mailCuts_e m hm he z l hk hreach sv w hsl
    · exact mailCuts_m m hm he z l hk hreach sv w hsl
  · exact mailCuts_n m hm he z l sv w hsl
end Go.Proofs.Ytigdenlnnnfjlaa

namespace Go.Proofs.Ytigdenlnnnfjlaa
open Go.ChangeShapes Go.WideShapes Go.ChangeAt Go.RowKit Go.Deep
open Go.ChangeMaps (open_string)

set_option maxRecDepth 100000 in
theorem mailCuts_lifted (os : Os) (started : os.Started) (H : Type) (enc : TypeId × Value → H) :
    ReturnsInHanded {} Try.checked os 5 .any (Rows.mailCutsSpec.pre6 enc Try.prog Try.f5 Rows.mailCutsRow.domain false) (Rows.mailCutsSpec.post enc Try.prog Try.f5 false true false false) := by
  refine returnsInHanded_of_change_sized (C := Try.checked) Try.own started (by kernel_rfl) Try.func5
    (ChangeSpec.witness6 (enc := enc) (C := Try.checked) false ⟨#[], #[.agg #[.int .i64 0, .int .i64 0, .int .i64 0, .int .i64 0, .int .i64 0, .int .u64 0, .int .u64 0, .int .u64 0, .int .u64 0, .string ⟨#[]⟩, .int .i64 0, .int .i64 0, .int .i64 0, .int .i64 0, .int .i64 0, .int .u64 0, .int .u64 0, .int .u64 0, .int .u64 0, .string ⟨#[]⟩, .int .u64 0, .int .u64 0, .int .u64 0, .int .u64 0, .int .i64 0, .string ⟨#[]⟩, .int .i64 0, .string ⟨#[]⟩, .int .i64 0, .int .i64 0, .int .i64 0, .int .i64 0, .string ⟨#[]⟩, .int .u64 0, .int .u64 0, .int .u64 0, .int .u64 0, .int .i64 0, .int .u64 0, .int .u64 0, .int .u64 0, .int .u64 0, .string ⟨#[]⟩], .int .i64 0, .slice none 0 0], []⟩ 8 (by kernel_rfl) (by kernel_rfl) (by kernel_rfl) (by kernel_rfl)) ?_
  intro W base args ds gs before hval0 hW hcnd hsz0 _
  have hval : ∀ (j : Nat) t v, Try.f5.params[j]? = some t → args[j]? = some v → Value.okWide Try.prog W .any base t v := hval0
  have hW' := hW
  obtain ⟨p, q, hA0, hV, rfl, hfz, hnd⟩ := hW
  have hA : DataW.TrodAll enc Try.prog W 0 (fun _ => true) true Try.f5.params.toList args.toList ds p := hA0
  have hsz : (DataW.weightsEach Try.prog (Try.f5.params.toList ++ Rows.mailCutsSpec.plain.varTypes Try.prog) (ds ++ gs)).all (· ≤ reachBytes) = true := hsz0
  rw [Try.params5] at hA hval hsz
  obtain ⟨v0, v1, v2, d0, d1, d2, p0, p1, p2, rfl, rfl, rfl, h0, h1, h2⟩ := trodAll_three hA
  obtain ⟨rfl, rfl⟩ := trodVars_none hV
  obtain ⟨a2, len2, cap2, rfl⟩ := okWide_slice Try.underlying35 (hval 2 35 v2 rfl rfl)
  have k0 := h0
  have k1 := h1
  have k2 := h2
  have lt0 : ∀ x ∈ p0, x.block < W.heap.size := by obtain ⟨m, hm⟩ := k0; exact DataW.trod_lt m _ _ _ hm
  have lt1 : ∀ x ∈ p1, x.block < W.heap.size := by obtain ⟨m, hm⟩ := k1; exact DataW.trod_lt m _ _ _ hm
  have lt2 : ∀ x ∈ p2, x.block < W.heap.size := by obtain ⟨m, hm⟩ := k2; exact DataW.trod_lt m _ _ _ hm
  obtain ⟨i0, rfl, hx0⟩ := open_msg (hval 0 34 v0 rfl rfl) h0
  obtain ⟨z1, rfl, _, _, wf1⟩ := open_int Try.underlying3 (hval 1 3 v1 rfl rfl) h1
  obtain ⟨zl1, zh1⟩ := wf_i64 wf1
  obtain ⟨l2, rfl, hsl2, hd2⟩ := open_bytes h2
  have hreach2 : l2.length ≤ 140737488351232 := by
    rcases hd2 with rfl | ⟨el, sp, rfl, hel⟩
    · simp
    · have := sized_slice hsz (j := 2) (t := 35) (e := 5) rfl rfl Try.underlying35
      rw [Try.bytes8] at this
      simp only [reachBytes] at this
      omega
  clear hA0 hval0
  refine (mailCuts_any i0 hx0 z1 l2 _ W hreach2 hsl2).mono fun e W' ⟨he, bel⟩ => ?_
  subst he
  exact ⟨_, rfl, _, _, _, [], _, [], hW', trodAll_mk1 (shut_bool Try.underlying4 _), (trodAll_mk3 (Below.trod Try.laidOut (by kernel_rfl) (of_decide_eq_true (by kernel_rfl)) k0 bel lt0) (Below.trod Try.laidOut (by kernel_rfl) (of_decide_eq_true (by kernel_rfl)) k1 bel lt1) (Below.trod Try.laidOut (by kernel_rfl) (of_decide_eq_true (by kernel_rfl)) k2 bel lt2)), rfl, bel.frame _, fun h => by cases h⟩

theorem mailCuts_over : Rows.mailCutsRow.holds Try.pinned (OpenSpec.ofChange Rows.mailCutsSpec) :=
  OpenClaim.holds_of_wide 5 Try.f5 rfl rfl rfl rfl rfl rfl rfl ⟨rfl, rfl, rfl, rfl, rfl⟩ rfl rfl rfl rfl rfl (by kernel_rfl) Try.func5 (by kernel_rfl)
    (of_decide_eq_true (by kernel_rfl)) (by unfold Func.isWrapper; first | (rw [if_pos (by decide +kernel)]; kernel_rfl) | (rw [if_neg (by decide +kernel)]; exact ⟨rfl, rfl⟩))
    (fun os started H enc _ => mailCuts_lifted os started H enc)

/-- The statement. -/
theorem mailCuts_proved : Rows.MailCutsSaid := mailCuts_over
end Go.Proofs.Ytigdenlnnnfjlaa
