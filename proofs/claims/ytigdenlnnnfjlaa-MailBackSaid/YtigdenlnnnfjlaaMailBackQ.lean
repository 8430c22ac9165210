/-
  MailBack answers true at every input, and leaves its arguments as they are.
  The walk of MailBack: messages come back, with the fields of their kind; and octets from what is read.
-/
import Derived.Great.BuildSlice
import Derived.ChangeMaps5
import Derived.Test.YtigdenlnnnfjlaaK14
namespace Go.Proofs.Ytigdenlnnnfjlaa
open Go.RowKit Go.Shelf

theorem bslV {l : List UInt8} {W W' : World} {sv : Value} (h : BSl 0 W.heap.size W sv l) (hb : Below W.heap.size W W') : BSl 0 W'.heap.size W' sv l := (h.below hb (Nat.le_refl _)).mono (Nat.le_refl _) hb.size
set_option maxRecDepth 100000 in
set_option maxHeartbeats 8000000 in
theorem mailBack_yy (m : Ms) (hm : OkM m) (he : errG m = 0) (l : List UInt8) (hr : (readG (openS l)).2 = 0) (sv : Value) (w : World) (hsl : BSl 0 w.heap.size w sv l) :
    Calls Try.prog 4 #[msv m, sv] w fun e W' => e = .returned (.bool true) ∧ Below w.heap.size w W' := by
  obtain ⟨sa, sm, sc, rfl⟩ := hsl.shape3
  have HP := Lib.hid (mailPut_any m hm)
  have HR2 : Hid (∀ W, BSl 0 W.heap.size W (.slice sa sm sc) l → Calls Try.prog 8 #[.slice sa sm sc] W fun e W' => e = .returned (.tuple #[msv (readG (openS l)).1, .int .i64 (readG (openS l)).2]) ∧ Below W.heap.size W W') := Lib.hid fun W h => mailRead_any l _ W h
  obtain ⟨b1, b2, b3⟩ := msg_back he hm
  have HR1 : Hid (∀ W v, BSl 0 W.heap.size W v (encG m) → Calls Try.prog 8 #[v] W fun e W' => e = .returned (.tuple #[msv (plainM m), .int .i64 0]) ∧ Below W.heap.size W W') := Lib.hid fun W v h => by
    have := mailRead_any (encG m) v W h
    rw [b3] at this
    exact this
  have HM : Hid (∀ W, Calls Try.prog 10 #[msv m] W fun e W' => e = .returned (.tuple #[msv (plainM m), .int .i64 (errG m)]) ∧ Below W.heap.size W W') := Lib.hid fun W => refMessage_any m hm W
  rw [b1] at HP
  generalize encG m = X1 at *
  generalize plainM m = pm at *
  generalize errG m = er at *
  clear b1 b2 b3 he hm
  obtain ⟨c1, c2, c3, c4, c5⟩ := msg_octets hr
  have HP2 : Hid (∀ W, Calls Try.prog 6 #[msv (readG (openS l)).1] W (ToldS (l, 0) W)) := Lib.hid fun W => by
    have := mailPut_any _ c1 W
    rw [c3] at this
    exact this
  rw [hr] at HR2
  generalize (readG (openS l)).1 = ru at *
  clear c1 c2 c3 c4 c5 hr
  unfold ToldS at HP HP2
  dsimp only at HP HP2
  have kB := Blk.new w 34 (msc m)
  have hB := chain0 w (.cells (msc m).toArray 34)
  have hsv := bslV hsl hB
  clear hsl
  go_enter Try.func4, Try.ntmps4
  go_upto_region 5 with (first
    | (go_at_call 13; refine (mailAlive_any _).mono ?_; rintro e w0 ⟨rfl, hb⟩; replace kB := kB.below hb kB.lt; replace hsv := bslV hsv hb; replace hB := chain hB hb; clear hb)
    | ((with_reducible refine wpList_loadIf 34 (.tmp 2) ?_ (some 18) ?_ ?_ (msv m) ?_ ?_); (· rfl); (· rfl); (· rfl); (· exact load_ms kB))
    | (go_at_call 6; refine (HP.out _).mono ?_; rintro e w1 ⟨v1, rfl, hx, hb⟩; obtain ⟨xa, xm, xc, rfl⟩ := hx.shape3; replace kB := kB.below hb kB.lt; replace hsv := bslV hsv hb; replace hB := chain hB hb; clear hb))
  clear HP
  go_upto_region 6 with (first
    | (go_at_call 8; refine (HR1.out _ _ hx).mono ?_; rintro e w7 ⟨rfl, hb⟩; replace kB := kB.below hb kB.lt; replace hsv := bslV hsv hb; replace hB := chain hB hb; clear hb; have kN := Blk.new w7 34 (msc noM))
    | ((refine wpList_store_part 34 (.tmp 7) (.tmp 27) (msc pm) kN 0 ((msv pm)) (msc pm) ?_ ?_ ?_ ?_ ?_ ?_ ?_ ?_ ?_ ?_ ?_); (· rfl); (· rfl); (· rfl); (· rfl); (· rfl); (· rfl); (· kernel_rfl); (· exact Nat.le_of_ble_eq_true rfl); (· rfl); (· rfl)))
  generalize hX : World.setRow (World.alloc w7 _) _ _ = X7
  have hbX : Below w7.heap.size w7 X7 := by rw [← hX]; exact below_setRow (chain0 w7 (.cells (msc noM).toArray 34)) (Nat.le_refl _) (msc pm).toArray
  have k7 : Blk X7 w7.heap.size 34 (msc pm) := by rw [← hX]; exact kN.row (msc pm)
  clear hX kN
  replace kB := kB.below hbX kB.lt; replace hsv := bslV hsv hbX; replace hB := chain hB hbX
  clear hbX
  generalize w7.heap.size = B7 at *
  clear hx HR1
  go_upto_region 7 with (first
    | ((with_reducible refine wpList_loadIf 34 (.tmp 2) ?_ (some 30) ?_ ?_ (msv m) ?_ ?_); (· rfl); (· rfl); (· rfl); (· exact load_ms kB))
    | (go_at_call 10; refine (HM.out _).mono ?_; rintro e w9 ⟨rfl, hb⟩; replace kB := kB.below hb kB.lt; replace k7 := k7.below hb k7.lt; replace hsv := bslV hsv hb; replace hB := chain hB hb; clear hb; have kN := Blk.new w9 34 (msc noM))
    | ((refine wpList_store_part 34 (.tmp 9) (.tmp 32) (msc pm) kN 0 ((msv pm)) (msc pm) ?_ ?_ ?_ ?_ ?_ ?_ ?_ ?_ ?_ ?_ ?_); (· rfl); (· rfl); (· rfl); (· rfl); (· rfl); (· rfl); (· kernel_rfl); (· exact Nat.le_of_ble_eq_true rfl); (· rfl); (· rfl)))
  generalize hX : World.setRow (World.alloc w9 _) _ _ = X9
  have hbX : Below w9.heap.size w9 X9 := by rw [← hX]; exact below_setRow (chain0 w9 (.cells (msc noM).toArray 34)) (Nat.le_refl _) (msc pm).toArray
  have k9 : Blk X9 w9.heap.size 34 (msc pm) := by rw [← hX]; exact kN.row (msc pm)
  clear hX kN
  replace kB := kB.below hbX kB.lt; replace k7 := k7.below hbX k7.lt; replace hsv := bslV hsv hbX; replace hB := chain hB hbX
  clear hbX
  generalize w9.heap.size = B9 at *
  clear HM kB
  go_upto_region 12 with (first
    | ((with_reducible refine wpList_loadIf 34 (.tmp 7) ?_ (some 37) ?_ ?_ (msv pm) ?_ ?_); (· rfl); (· rfl); (· rfl); (· exact load_ms k7))
    | ((with_reducible refine wpList_loadIf 34 (.tmp 9) ?_ (some 38) ?_ ?_ (msv pm) ?_ ?_); (· rfl); (· rfl); (· rfl); (· exact load_ms k9))
    | ((with_reducible refine wpList_valueIf (some 39) ?_ ?_ (.bool false) ?_ ?_); (· rfl); (· rfl); (· exact exec_neS (.tmp 37) (.tmp 38) _ rfl pm rfl rfl _))
    | (go_at_call 8; refine (HR2.out _ hsv).mono ?_; rintro e w11 ⟨rfl, hb⟩; replace hsv := bslV hsv hb; replace hB := chain hB hb; clear hb; have kN := Blk.new w11 34 (msc noM))
    | ((refine wpList_store_part 34 (.tmp 11) (.tmp 47) (msc ru) kN 0 ((msv ru)) (msc ru) ?_ ?_ ?_ ?_ ?_ ?_ ?_ ?_ ?_ ?_ ?_); (· rfl); (· rfl); (· rfl); (· rfl); (· rfl); (· rfl); (· kernel_rfl); (· exact Nat.le_of_ble_eq_true rfl); (· rfl); (· rfl)))
  generalize hX : World.setRow (World.alloc w11 _) _ _ = X11
  have hbX : Below w11.heap.size w11 X11 := by rw [← hX]; exact below_setRow (chain0 w11 (.cells (msc noM).toArray 34)) (Nat.le_refl _) (msc ru).toArray
  have k11 : Blk X11 w11.heap.size 34 (msc ru) := by rw [← hX]; exact kN.row (msc ru)
  clear hX kN
  replace hsv := bslV hsv hbX; replace hB := chain hB hbX
  clear hbX
  generalize w11.heap.size = B11 at *
  clear HR2 k7 k9
  go_wp2_with (first
    | ((with_reducible refine wpList_loadIf 34 (.tmp 11) ?_ (some 55) ?_ ?_ (msv ru) ?_ ?_); (· rfl); (· rfl); (· rfl); (· exact load_ms k11))
    | (go_at_call 6; refine (HP2.out _).mono ?_; rintro e w3 ⟨v3, rfl, hy, hb⟩; obtain ⟨ya, ym, yc, rfl⟩ := hy.shape3; replace hsv := bslV hsv hb; replace hB := chain hB hb; clear hb; have hcv1 := str_of w3 hy; have hcv2 := str_of w3 hsv))
  go_ret
  exact ⟨rfl, hB⟩
set_option maxRecDepth 100000 in
set_option maxHeartbeats 8000000 in
theorem mailBack_yn (m : Ms) (hm : OkM m) (he : errG m = 0) (l : List UInt8) (hr : (readG (openS l)).2 ≠ 0) (sv : Value) (w : World) (hsl : BSl 0 w.heap.size w sv l) :
    Calls Try.prog 4 #[msv m, sv] w fun e W' => e = .returned (.bool true) ∧ Below w.heap.size w W' := by
  obtain ⟨sa, sm, sc, rfl⟩ := hsl.shape3
  have HP := Lib.hid (mailPut_any m hm)
  have HR2 : Hid (∀ W, BSl 0 W.heap.size W (.slice sa sm sc) l → Calls Try.prog 8 #[.slice sa sm sc] W fun e W' => e = .returned (.tuple #[msv (readG (openS l)).1, .int .i64 (readG (openS l)).2]) ∧ Below W.heap.size W W') := Lib.hid fun W h => mailRead_any l _ W h
  obtain ⟨b1, b2, b3⟩ := msg_back he hm
  have HR1 : Hid (∀ W v, BSl 0 W.heap.size W v (encG m) → Calls Try.prog 8 #[v] W fun e W' => e = .returned (.tuple #[msv (plainM m), .int .i64 0]) ∧ Below W.heap.size W W') := Lib.hid fun W v h => by
    have := mailRead_any (encG m) v W h
    rw [b3] at this
    exact this
  have HM : Hid (∀ W, Calls Try.prog 10 #[msv m] W fun e W' => e = .returned (.tuple #[msv (plainM m), .int .i64 (errG m)]) ∧ Below W.heap.size W W') := Lib.hid fun W => refMessage_any m hm W
  rw [b1] at HP
  generalize encG m = X1 at *
  generalize plainM m = pm at *
  generalize errG m = er at *
  clear b1 b2 b3 he hm
  have hn := msg_none hr
  rw [hn] at HR2
  have q3 : ((readG (openS l)).2 == 0) = false := by simpa using hr
  have q4 : ((readG (openS l)).2 != 0) = true := by simpa using hr
  generalize (readG (openS l)).2 = rc at *
  clear hn hr
  unfold ToldS at HP
  dsimp only at HP
  have kB := Blk.new w 34 (msc m)
  have hB := chain0 w (.cells (msc m).toArray 34)
  have hsv := bslV hsl hB
  clear hsl
  go_enter Try.func4, Try.ntmps4
  go_upto_region 5 with (first
    | (go_at_call 13; refine (mailAlive_any _).mono ?_; rintro e w0 ⟨rfl, hb⟩; replace kB := kB.below hb kB.lt; replace hsv := bslV hsv hb; replace hB := chain hB hb; clear hb)
    | ((with_reducible refine wpList_loadIf 34 (.tmp 2) ?_ (some 18) ?_ ?_ (msv m) ?_ ?_); (· rfl); (· rfl); (· rfl); (· exact load_ms kB))
    | (go_at_call 6; refine (HP.out _).mono ?_; rintro e w1 ⟨v1, rfl, hx, hb⟩; obtain ⟨xa, xm, xc, rfl⟩ := hx.shape3; replace kB := kB.below hb kB.lt; replace hsv := bslV hsv hb; replace hB := chain hB hb; clear hb))
  clear HP
  go_upto_region 6 with (first
    | (go_at_call 8; refine (HR1.out _ _ hx).mono ?_; rintro e w7 ⟨rfl, hb⟩; replace kB := kB.below hb kB.lt; replace hsv := bslV hsv hb; replace hB := chain hB hb; clear hb; have kN := Blk.new w7 34 (msc noM))
    | ((refine wpList_store_part 34 (.tmp 7) (.tmp 27) (msc pm) kN 0 ((msv pm)) (msc pm) ?_ ?_ ?_ ?_ ?_ ?_ ?_ ?_ ?_ ?_ ?_); (· rfl); (· rfl); (· rfl); (· rfl); (· rfl); (· rfl); (· kernel_rfl); (· exact Nat.le_of_ble_eq_true rfl); (· rfl); (· rfl)))
  generalize hX : World.setRow (World.alloc w7 _) _ _ = X7
  have hbX : Below w7.heap.size w7 X7 := by rw [← hX]; exact below_setRow (chain0 w7 (.cells (msc noM).toArray 34)) (Nat.le_refl _) (msc pm).toArray
  have k7 : Blk X7 w7.heap.size 34 (msc pm) := by rw [← hX]; exact kN.row (msc pm)
  clear hX kN
  replace kB := kB.below hbX kB.lt; replace hsv := bslV hsv hbX; replace hB := chain hB hbX
  clear hbX
  generalize w7.heap.size = B7 at *
  clear hx HR1
  go_upto_region 7 with (first
    | ((with_reducible refine wpList_loadIf 34 (.tmp 2) ?_ (some 30) ?_ ?_ (msv m) ?_ ?_); (· rfl); (· rfl); (· rfl); (· exact load_ms kB))
    | (go_at_call 10; refine (HM.out _).mono ?_; rintro e w9 ⟨rfl, hb⟩; replace kB := kB.below hb kB.lt; replace k7 := k7.below hb k7.lt; replace hsv := bslV hsv hb; replace hB := chain hB hb; clear hb; have kN := Blk.new w9 34 (msc noM))
    | ((refine wpList_store_part 34 (.tmp 9) (.tmp 32) (msc pm) kN 0 ((msv pm)) (msc pm) ?_ ?_ ?_ ?_ ?_ ?_ ?_ ?_ ?_ ?_ ?_); (· rfl); (· rfl); (· rfl); (· rfl); (· rfl); (· rfl); (· kernel_rfl); (· exact Nat.le_of_ble_eq_true rfl); (· rfl); (· rfl)))
  generalize hX : World.setRow (World.alloc w9 _) _ _ = X9
  have hbX : Below w9.heap.size w9 X9 := by rw [← hX]; exact below_setRow (chain0 w9 (.cells (msc noM).toArray 34)) (Nat.le_refl _) (msc pm).toArray
  have k9 : Blk X9 w9.heap.size 34 (msc pm) := by rw [← hX]; exact kN.row (msc pm)
  clear hX kN
  replace kB := kB.below hbX kB.lt; replace k7 := k7.below hbX k7.lt; replace hsv := bslV hsv hbX; replace hB := chain hB hbX
  clear hbX
  generalize w9.heap.size = B9 at *
  clear HM kB
  go_upto_region 12 with (first
    | ((with_reducible refine wpList_loadIf 34 (.tmp 7) ?_ (some 37) ?_ ?_ (msv pm) ?_ ?_); (· rfl); (· rfl); (· rfl); (· exact load_ms k7))
    | ((with_reducible refine wpList_loadIf 34 (.tmp 9) ?_ (some 38) ?_ ?_ (msv pm) ?_ ?_); (· rfl); (· rfl); (· rfl); (· exact load_ms k9))
    | ((with_reducible refine wpList_valueIf (some 39) ?_ ?_ (.bool false) ?_ ?_); (· rfl); (· rfl); (· exact exec_neS (.tmp 37) (.tmp 38) _ rfl pm rfl rfl _))
    | (go_at_call 8; refine (HR2.out _ hsv).mono ?_; rintro e w11 ⟨rfl, hb⟩; replace hsv := bslV hsv hb; replace hB := chain hB hb; clear hb; have kN := Blk.new w11 34 (msc noM))
    | ((refine wpList_store_part 34 (.tmp 11) (.tmp 47) (msc noM) kN 0 ((msv noM)) (msc noM) ?_ ?_ ?_ ?_ ?_ ?_ ?_ ?_ ?_ ?_ ?_); (· rfl); (· rfl); (· rfl); (· rfl); (· rfl); (· rfl); (· kernel_rfl); (· exact Nat.le_of_ble_eq_true rfl); (· rfl); (· rfl)))
  generalize hX : World.setRow (World.alloc w11 _) _ _ = X11
  have hbX : Below w11.heap.size w11 X11 := by rw [← hX]; exact below_setRow (chain0 w11 (.cells (msc noM).toArray 34)) (Nat.le_refl _) (msc noM).toArray
  have k11 : Blk X11 w11.heap.size 34 (msc noM) := by rw [← hX]; exact kN.row (msc noM)
  clear hX kN
  replace hsv := bslV hsv hbX; replace hB := chain hB hbX
  clear hbX
  generalize w11.heap.size = B11 at *
  clear HR2 k7 k9
  go_wp2_with (first
    | ((with_reducible refine wpList_loadIf 34 (.tmp 11) ?_ (some 51) ?_ ?_ (msv noM) ?_ ?_); (· rfl); (· rfl); (· rfl); (· exact load_ms k11))
    | (refine wpList_buildTo rfl 34 _ rfl (some 52) rfl (msc noM).toArray (by kernel_rfl) ?_)
    | ((with_reducible refine wpList_valueIf (some 53) ?_ ?_ (.bool true) ?_ ?_); (· rfl); (· rfl); (· exact exec_eqS (.tmp 51) (.tmp 52) _ rfl noM rfl rfl _)))
  go_ret
  exact ⟨rfl, hB⟩
set_option maxRecDepth 100000 in
set_option maxHeartbeats 8000000 in
theorem mailBack_ny (m : Ms) (hm : OkM m) (he : errG m ≠ 0) (l : List UInt8) (hr : (readG (openS l)).2 = 0) (sv : Value) (w : World) (hsl : BSl 0 w.heap.size w sv l) :
    Calls Try.prog 4 #[msv m, sv] w fun e W' => e = .returned (.bool true) ∧ Below w.heap.size w W' := by
  obtain ⟨sa, sm, sc, rfl⟩ := hsl.shape3
  have HP := Lib.hid (mailPut_any m hm)
  have HR2 : Hid (∀ W, BSl 0 W.heap.size W (.slice sa sm sc) l → Calls Try.prog 8 #[.slice sa sm sc] W fun e W' => e = .returned (.tuple #[msv (readG (openS l)).1, .int .i64 (readG (openS l)).2]) ∧ Below W.heap.size W W') := Lib.hid fun W h => mailRead_any l _ W h
  rw [octG_no he] at HP
  have q1 : (errG m == 0) = false := by simpa using he
  have q2 : (errG m != 0) = true := by simpa using he
  generalize errG m = er at *
  clear he hm
  obtain ⟨c1, c2, c3, c4, c5⟩ := msg_octets hr
  have HP2 : Hid (∀ W, Calls Try.prog 6 #[msv (readG (openS l)).1] W (ToldS (l, 0) W)) := Lib.hid fun W => by
    have := mailPut_any _ c1 W
    rw [c3] at this
    exact this
  rw [hr] at HR2
  generalize (readG (openS l)).1 = ru at *
  clear c1 c2 c3 c4 c5 hr
  unfold ToldS at HP HP2
  dsimp only at HP HP2
  have kB := Blk.new w 34 (msc m)
  have hB := chain0 w (.cells (msc m).toArray 34)
  have hsv := bslV hsl hB
  clear hsl
  go_enter Try.func4, Try.ntmps4
  go_upto_region 9 with (first
    | (go_at_call 13; refine (mailAlive_any _).mono ?_; rintro e w0 ⟨rfl, hb⟩; replace kB := kB.below hb kB.lt; replace hsv := bslV hsv hb; replace hB := chain hB hb; clear hb)
    | ((with_reducible refine wpList_loadIf 34 (.tmp 2) ?_ (some 18) ?_ ?_ (msv m) ?_ ?_); (· rfl); (· rfl); (· rfl); (· exact load_ms kB))
    | (go_at_call 6; refine (HP.out _).mono ?_; rintro e w1 ⟨v1, rfl, hx, hb⟩; obtain ⟨xa, xm, xc, rfl⟩ := hx.shape3; replace kB := kB.below hb kB.lt; replace hsv := bslV hsv hb; replace hB := chain hB hb; clear hb))
  have hz : (xm : Int) = 0 := by
    obtain ⟨ta, tc, hl, -⟩ := hx.shape
    obtain ⟨-, hl2, -⟩ := Value.slice.inj hl
    rw [hl2]; rfl
  obtain rfl : xm = 0 := by omega
  clear HP hx kB hz
  go_upto_region 12 with (first
    | (go_at_call 8; refine (HR2.out _ hsv).mono ?_; rintro e w11 ⟨rfl, hb⟩; replace hsv := bslV hsv hb; replace hB := chain hB hb; clear hb; have kN := Blk.new w11 34 (msc noM))
    | ((refine wpList_store_part 34 (.tmp 11) (.tmp 47) (msc ru) kN 0 ((msv ru)) (msc ru) ?_ ?_ ?_ ?_ ?_ ?_ ?_ ?_ ?_ ?_ ?_); (· rfl); (· rfl); (· rfl); (· rfl); (· rfl); (· rfl); (· kernel_rfl); (· exact Nat.le_of_ble_eq_true rfl); (· rfl); (· rfl)))
  generalize hX : World.setRow (World.alloc w11 _) _ _ = X11
  have hbX : Below w11.heap.size w11 X11 := by rw [← hX]; exact below_setRow (chain0 w11 (.cells (msc noM).toArray 34)) (Nat.le_refl _) (msc ru).toArray
  have k11 : Blk X11 w11.heap.size 34 (msc ru) := by rw [← hX]; exact kN.row (msc ru)
  clear hX kN
  replace hsv := bslV hsv hbX; replace hB := chain hB hbX
  clear hbX
  generalize w11.heap.size = B11 at *
  clear HR2
  go_wp2_with (first
    | ((with_reducible refine wpList_loadIf 34 (.tmp 11) ?_ (some 55) ?_ ?_ (msv ru) ?_ ?_); (· rfl); (· rfl); (· rfl); (· exact load_ms k11))
    | (go_at_call 6; refine (HP2.out _).mono ?_; rintro e w3 ⟨v3, rfl, hy, hb⟩; obtain ⟨ya, ym, yc, rfl⟩ := hy.shape3; replace hsv := bslV hsv hb; replace hB := chain hB hb; clear hb; have hcv1 := str_of w3 hy; have hcv2 := str_of w3 hsv))
  go_ret
  exact ⟨rfl, hB⟩
set_option maxRecDepth 100000 in
set_option maxHeartbeats 8000000 in
theorem mailBack_nn (m : Ms) (hm : OkM m) (he : errG m ≠ 0) (l : List UInt8) (hr : (readG (openS l)).2 ≠ 0) (sv : Value) (w : World) (hsl : BSl 0 w.heap.size w sv l) :
    Calls Try.prog 4 #[msv m, sv] w fun e W' => e = .returned (.bool true) ∧ Below w.heap.size w W' := by
  obtain ⟨sa, sm, sc, rfl⟩ := hsl.shape3
  have HP := Lib.hid (mailPut_any m hm)
  have HR2 : Hid (∀ W, BSl 0 W.heap.size W (.slice sa sm sc) l → Calls Try.prog 8 #[.slice sa sm sc] W fun e W' => e = .returned (.tuple #[msv (readG (openS l)).1, .int .i64 (readG (openS l)).2]) ∧ Below W.heap.size W W') := Lib.hid fun W h => mailRead_any l _ W h
  rw [octG_no he] at HP
  have q1 : (errG m == 0) = false := by simpa using he
  have q2 : (errG m != 0) = true := by simpa using he
  generalize errG m = er at *
  clear he hm
  have hn := msg_none hr
  rw [hn] at HR2
  have q3 : ((readG (openS l)).2 == 0) = false := by simpa using hr
  have q4 : ((readG (openS l)).2 != 0) = true := by simpa using hr
  generalize (readG (openS l)).2 = rc at *
  clear hn hr
  unfold ToldS at HP
  dsimp only at HP
  have kB := Blk.new w 34 (msc m)
  have hB := chain0 w (.cells (msc m).toArray 34)
  have hsv := bslV hsl hB
  clear hsl
  go_enter Try.func4, Try.ntmps4
  go_upto_region 9 with (first
    | (go_at_call 13; refine (mailAlive_any _).mono ?_; rintro e w0 ⟨rfl, hb⟩; replace kB := kB.below hb kB.lt; replace hsv := bslV hsv hb; replace hB := chain hB hb; clear hb)
    | ((with_reducible refine wpList_loadIf 34 (.tmp 2) ?_ (some 18) ?_ ?_ (msv m) ?_ ?_); (· rfl); (· rfl); (· rfl); (· exact load_ms kB))
    | (go_at_call 6; refine (HP.out _).mono ?_; rintro e w1 ⟨v1, rfl, hx, hb⟩; obtain ⟨xa, xm, xc, rfl⟩ := hx.shape3; replace kB := kB.below hb kB.lt; replace hsv := bslV hsv hb; replace hB := chain hB hb; clear hb))
  have hz : (xm : Int) = 0 := by
    obtain ⟨ta, tc, hl, -⟩ := hx.shape
    obtain ⟨-, hl2, -⟩ := Value.slice.inj hl
    rw [hl2]; rfl
  obtain rfl : xm = 0 := by omega
  clear HP hx kB hz
  go_upto_region 12 with (first
    | (go_at_call 8; refine (HR2.out _ hsv).mono ?_; rintro e w11 ⟨rfl, hb⟩; replace hsv := bslV hsv hb; replace hB := chain hB hb; clear hb; have kN := Blk.new w11 34 (msc noM))
    | ((refine wpList_store_part 34 (.tmp 11) (.tmp 47) (msc noM) kN 0 ((msv noM)) (msc noM) ?_ ?_ ?_ ?_ ?_ ?_ ?_ ?_ ?_ ?_ ?_); (· rfl); (· rfl); (· rfl); (· rfl); (· rfl); (· rfl); (· kernel_rfl); (· exact Nat.le_of_ble_eq_true rfl); (· rfl); (· rfl)))
  generalize hX : World.setRow (World.alloc w11 _) _ _ = X11
  have hbX : Below w11.heap.size w11 X11 := by rw [← hX]; exact below_setRow (chain0 w11 (.cells (msc noM).toArray 34)) (Nat.le_refl _) (msc noM).toArray
  have k11 : Blk X11 w11.heap.size 34 (msc noM) := by rw [← hX]; exact kN.row (msc noM)
  clear hX kN
  replace hsv := bslV hsv hbX; replace hB := chain hB hbX
  clear hbX
  generalize w11.heap.size = B11 at *
  clear HR2
  go_wp2_with (first
    | ((with_reducible refine wpList_loadIf 34 (.tmp 11) ?_ (some 51) ?_ ?_ (msv noM) ?_ ?_); (· rfl); (· rfl); (· rfl); (· exact load_ms k11))
    | (refine wpList_buildTo rfl 34 _ rfl (some 52) rfl (msc noM).toArray (by kernel_rfl) ?_)
    | ((with_reducible refine wpList_valueIf (some 53) ?_ ?_ (.bool true) ?_ ?_); (· rfl); (· rfl); (· exact exec_eqS (.tmp 51) (.tmp 52) _ rfl noM rfl rfl _)))
  go_ret
  exact ⟨rfl, hB⟩
theorem mailBack_any (m : Ms) (hm : OkM m) (l : List UInt8) (sv : Value) (w : World) (hsl : BSl 0 w.heap.size w sv l) :
    Calls Try.prog 4 #[msv m, sv] w fun e W' => e = .returned (.bool true) ∧ Below w.heap.size w W' := by
  by_cases he : errG m = 0
  · by_cases hr : (readG (openS l)).2 = 0
    · exact mailBack_yy m hm he l hr sv w hsl
    · exact mailBack_yn m hm he l hr sv w hsl
  · by_cases hr : (readG (openS l)).2 = 0
    · exact mailBack_ny m hm he l hr sv w hsl
    · exact mailBack_nn m hm he l hr sv w hsl
end Go.Proofs.Ytigdenlnnnfjlaa

namespace Go.Proofs.Ytigdenlnnnfjlaa
open Go.ChangeShapes Go.WideShapes Go.ChangeAt Go.RowKit Go.Deep
open Go.ChangeMaps (open_string)

set_option maxRecDepth 100000 in
theorem mailBack_lifted (os : Os) (started : os.Started) (H : Type) (enc : TypeId × Value → H) :
    ReturnsInHanded {} Try.checked os 4 .any (Rows.mailBackSpec.pre6 enc Try.prog Try.f4 Rows.mailBackRow.domain false) (Rows.mailBackSpec.post enc Try.prog Try.f4 false true false false) := by
  refine returnsInHanded_of_change_sized (C := Try.checked) Try.own started (by kernel_rfl) Try.func4
    (ChangeSpec.witness6 (enc := enc) (C := Try.checked) false ⟨#[], #[.agg #[.int .i64 0, .int .i64 0, .int .i64 0, .int .i64 0, .int .i64 0, .int .u64 0, .int .u64 0, .int .u64 0, .int .u64 0, .string ⟨#[]⟩, .int .i64 0, .int .i64 0, .int .i64 0, .int .i64 0, .int .i64 0, .int .u64 0, .int .u64 0, .int .u64 0, .int .u64 0, .string ⟨#[]⟩, .int .u64 0, .int .u64 0, .int .u64 0, .int .u64 0, .int .i64 0, .string ⟨#[]⟩, .int .i64 0, .string ⟨#[]⟩, .int .i64 0, .int .i64 0, .int .i64 0, .int .i64 0, .string ⟨#[]⟩, .int .u64 0, .int .u64 0, .int .u64 0, .int .u64 0, .int .i64 0, .int .u64 0, .int .u64 0, .int .u64 0, .int .u64 0, .string ⟨#[]⟩], .slice none 0 0], []⟩ 8 (by kernel_rfl) (by kernel_rfl) (by kernel_rfl) (by kernel_rfl)) ?_
  intro W base args ds gs before hval0 hW hcnd hsz0 _
  have hval : ∀ (j : Nat) t v, Try.f4.params[j]? = some t → args[j]? = some v → Value.okWide Try.prog W .any base t v := hval0
  have hW' := hW
  obtain ⟨p, q, hA0, hV, rfl, hfz, hnd⟩ := hW
  have hA : DataW.TrodAll enc Try.prog W 0 (fun _ => true) true Try.f4.params.toList args.toList ds p := hA0
  have hsz : (DataW.weightsEach Try.prog (Try.f4.params.toList ++ Rows.mailBackSpec.plain.varTypes Try.prog) (ds ++ gs)).all (· ≤ reachBytes) = true := hsz0
  rw [Try.params4] at hA hval hsz
  obtain ⟨v0, v1, d0, d1, p0, p1, rfl, rfl, rfl, h0, h1⟩ := trodAll_two hA
  obtain ⟨rfl, rfl⟩ := trodVars_none hV
  obtain ⟨a1, len1, cap1, rfl⟩ := okWide_slice Try.underlying35 (hval 1 35 v1 rfl rfl)
  have k0 := h0
  have k1 := h1
  have lt0 : ∀ x ∈ p0, x.block < W.heap.size := by obtain ⟨m, hm⟩ := k0; exact DataW.trod_lt m _ _ _ hm
  have lt1 : ∀ x ∈ p1, x.block < W.heap.size := by obtain ⟨m, hm⟩ := k1; exact DataW.trod_lt m _ _ _ hm
  obtain ⟨i0, rfl, hx0⟩ := open_msg (hval 0 34 v0 rfl rfl) h0
  obtain ⟨l1, rfl, hsl1, hd1⟩ := open_bytes h1
  have hreach1 : l1.length ≤ 140737488351232 := by
    rcases hd1 with rfl | ⟨el, sp, rfl, hel⟩
    · simp
    · have := sized_slice hsz (j := 1) (t := 35) (e := 5) rfl rfl Try.underlying35
      rw [Try.bytes8] at this
      simp only [reachBytes] at this
      omega
  clear hA0 hval0
  refine (mailBack_any i0 hx0 l1 _ W hsl1).mono fun e W' ⟨he, bel⟩ => ?_
  subst he
  exact ⟨_, rfl, _, _, _, [], _, [], hW', trodAll_mk1 (shut_bool Try.underlying4 _), (trodAll_mk2 (Below.trod Try.laidOut (by kernel_rfl) (of_decide_eq_true (by kernel_rfl)) k0 bel lt0) (Below.trod Try.laidOut (by kernel_rfl) (of_decide_eq_true (by kernel_rfl)) k1 bel lt1)), rfl, bel.frame _, fun h => by cases h⟩

theorem mailBack_over : Rows.mailBackRow.holds Try.pinned (OpenSpec.ofChange Rows.mailBackSpec) :=
  OpenClaim.holds_of_wide 4 Try.f4 rfl rfl rfl rfl rfl rfl rfl ⟨rfl, rfl, rfl, rfl, rfl⟩ rfl rfl rfl rfl rfl (by kernel_rfl) Try.func4 (by kernel_rfl)
    (of_decide_eq_true (by kernel_rfl)) (by unfold Func.isWrapper; first | (rw [if_pos (by decide +kernel)]; kernel_rfl) | (rw [if_neg (by decide +kernel)]; exact ⟨rfl, rfl⟩))
    (fun os started H enc _ => mailBack_lifted os started H enc)

/-- The statement. -/
theorem mailBack_proved : Rows.MailBackSaid := mailBack_over
end Go.Proofs.Ytigdenlnnnfjlaa
