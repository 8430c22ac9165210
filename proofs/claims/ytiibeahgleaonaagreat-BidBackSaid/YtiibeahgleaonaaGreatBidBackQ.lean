/-
  BidBack answers true at every input, and leaves its arguments as they are.
  The walk of BidBack: what is signed is valid by the router's root; it is the bid with its signature; or why it is none.
-/
import Derived.Deep.Cut
import Derived.ChangeMaps5
import Derived.Test.YtiibeahgleaonaaGreatK14
namespace Go.Proofs.YtiibeahgleaonaaGreat
open Go.RowKit Go.Shelf

/-- A bid that is none, as a value. -/
abbrev zbv : Value := .agg #[.int .i64 0, .int .i64 0, .int .i64 0, .int .i64 0, .int .i64 0, .int .u64 0, .int .u64 0, .int .u64 0, .int .u64 0, .string ⟨#[]⟩, .int .u64 0, .int .u64 0, .int .u64 0, .int .u64 0, .int .i64 0, .string ⟨#[]⟩]
abbrev zbc : List Value := [.int .i64 0, .int .i64 0, .int .i64 0, .int .i64 0, .int .i64 0, .int .u64 0, .int .u64 0, .int .u64 0, .int .u64 0, .string ⟨#[]⟩, .int .u64 0, .int .u64 0, .int .u64 0, .int .u64 0, .int .i64 0, .string ⟨#[]⟩]
theorem eqw9 (a0 a1 a2 a3 b0 b1 b2 b3 : Int) (w : World) :
    (Op.equalIn 9999 24 (.agg #[.int .u64 a0, .int .u64 a1, .int .u64 a2, .int .u64 a3]) (.agg #[.int .u64 b0, .int .u64 b1, .int .u64 b2, .int .u64 b3])).run Tryz.prog w = .ok (wEq a0 a1 a2 a3 b0 b1 b2 b3) w :=
  run_equalIn_wide' 9997 a0 a1 a2 a3 b0 b1 b2 b3 w
theorem eqw8 (a0 a1 a2 a3 b0 b1 b2 b3 : Int) (w : World) :
    (Op.equalIn 9998 24 (.agg #[.int .u64 a0, .int .u64 a1, .int .u64 a2, .int .u64 a3]) (.agg #[.int .u64 b0, .int .u64 b1, .int .u64 b2, .int .u64 b3])).run Tryz.prog w = .ok (wEq a0 a1 a2 a3 b0 b1 b2 b3) w :=
  run_equalIn_wide' 9996 a0 a1 a2 a3 b0 b1 b2 b3 w
/-- A bid is the same as itself. -/
theorem eq_bid (b : Bd) (w : World) : (Op.equalIn 10000 28 (bdv b) (bdv b)).run Tryz.prog w = .ok true w := by
  have h9 := @eqw9
  have h8 := @eqw8
  have hr := wEq_refl
  have id2 : (b.k.id.toList == b.k.id.toList) = true := by simp
  have sg2 : (b.sg.toList == b.sg.toList) = true := by simp
  go_simp
theorem eq_zero (w : World) : (Op.equalIn 10000 28 zbv zbv).run Tryz.prog w = .ok true w := eq_bid noB w
theorem load_zero {W : World} {B : Nat} (h : Blk W B 28 zbc) : (Instr.loadAt 28 (.pointer (some ⟨B, 0, none⟩))).run Tryz.prog W = .ok zbv W := load_bid (b := noB) h
/-- The blocks of the law: the bid; the key; what Sign handed back; the bid without its signature. -/
structure BkW (b p : Bd) (xs : List Value) (s : ByteArray) (z : Int) (ks : ByteArray) (kn : Int) (K X : Nat) (w Y : World) : Prop where
  i : Blk Y w.heap.size 28 (bdc b)
  k : Blk Y K 43 [.string s, .int .i64 z]
  x : Blk Y X 28 xs
  n : Blk Y (X + 1) 43 [.string ks, .int .i64 kn]
  p : Blk Y (X + 1 + 1) 28 (bdc p)
  l1 : w.heap.size < K
  l2 : K < X
  w : Below w.heap.size w Y
theorem BkW.below {b p : Bd} {xs : List Value} {s : ByteArray} {z : Int} {ks : ByteArray} {kn : Int} {K X : Nat} {w Y Y' : World} (h : BkW b p xs s z ks kn K X w Y) (hb : Below Y.heap.size Y Y') : BkW b p xs s z ks kn K X w Y' :=
  ⟨h.i.below hb h.i.lt, h.k.below hb h.k.lt, h.x.below hb h.x.lt, h.n.below hb h.n.lt, h.p.below hb h.p.lt, h.l1, h.l2, chain h.w hb⟩
theorem BkW.drew {b p : Bd} {xs : List Value} {s : ByteArray} {z : Int} {ks : ByteArray} {kn : Int} {K X : Nat} {w Y : World} (h : BkW b p xs s z ks kn K X w Y) : BkW b p xs s z ks kn K X w Y.drew := ⟨h.i, h.k, h.x, h.n, h.p, h.l1, h.l2, h.w.drew⟩
theorem BkW.set {b p : Bd} {xs : List Value} {s : ByteArray} {z : Int} {ks : ByteArray} {kn : Int} {K X : Nat} {w Y : World} (h : BkW b p xs s z ks kn K X w Y) (g : ByteArray) : BkW b (signedB p g) xs s z ks kn K X w (Y.setCell ⟨X + 1 + 1, 15, none⟩ (.string g)) := by
  have h1 := h.l1
  have h2 := h.l2
  exact ⟨h.i.other 15 _ (by omega), h.k.other 15 _ (by omega), h.x.other 15 _ (by omega), h.n.other 15 _ (by omega), h.p.set 15 _, h1, h2, h.w.setCell (p := ⟨X + 1 + 1, 15, none⟩) (by simp; omega) _⟩
/-- Behind Seed and Sign: the blocks that are laid. -/
theorem bkW_new {b p : Bd} {xs : List Value} {s : ByteArray} {z : Int} {ks : ByteArray} {kn : Int} {K : Nat} {w W : World} (hi : Blk W w.heap.size 28 (bdc b)) (hk : Blk W K 43 [.string s, .int .i64 z]) (hw : Below w.heap.size w W) (hK : w.heap.size < K) :
    BkW b p xs s z ks kn K W.heap.size w (((W.alloc (.cells xs.toArray 28)).alloc (.cells #[.string ks, .int .i64 kn] 43)).alloc (.cells (bdc p).toArray 28)) :=
  ⟨((hi.alloc _).alloc _).alloc _, ((hk.alloc _).alloc _).alloc _, ((Blk.new W 28 xs).alloc _).alloc _, (Blk.new' (vs := [_, _]) (by simp)).alloc _, Blk.new' (vs := bdc p) (by simp), hK, hk.lt, chainA (chainA (chainA hw _) _) _⟩

set_option maxRecDepth 100000 in
set_option maxHeartbeats 8000000 in
theorem back_check (b : Bd) (hb4 : OkB b) (z : Int) (hm : ¬ maybeB (plainB b)) (w : World) :
    Calls Tryz.prog 4 #[bdv b, .int .i64 z] w fun e W' => e = .returned (.bool true) ∧ Below w.heap.size w W' := by
  have hmx : Tryz.prog.follows .mixedOrders = true := by kernel_rfl
  have kI := Blk.new w 28 (bdc b)
  have hB := chain0 w (.cells (bdc b).toArray 28)
  have HSE := Lib.hid (seed8_any b.ro)
  have HR := Lib.hid (refBid_any (plainB b) (okB_plain hb4))
  generalize hs0 : seedB b.ro = s at *
  have HSD := Lib.hid hs0
  clear hs0
  have HE := Lib.hid (errB_bad hm)
  have HS : Hid (∀ W, Calls Tryz.prog 17 #[.agg #[.string s, .int .i64 z], bdv b] W fun e W' => e = .returned (.tuple #[zbv, .agg #[.string ⟨#[]⟩, .int .i64 0], .int .i64 39]) ∧ Below W.heap.size W W') := Lib.hid (sign_check s z b hb4 hm)
  have heq := eq_zero
  clear hm
  go_enter Tryz.func4, Tryz.ntmps4
  go_wp2_with (first
    | (refine wpList_loadIf 28 (.tmp 2) rfl _ rfl rfl (bdv b) (load_bid kI) ?_)
    | (refine wpList_loadIf 28 (.tmp 2) rfl _ rfl rfl (bdv b) (load_bid kJ) ?_)
    | (refine wpList_loadIf 28 (.tmp 9) rfl _ rfl rfl (bdv (plainB b)) (load_bid hW.p) ?_)
    | (refine wpList_loadIf 28 (.tmp 6) rfl _ rfl rfl zbv (load_zero hW.x) ?_)
    | (go_at_call 15; refine (alive8_any _).mono ?_; rintro e W1 ⟨rfl, hb⟩; replace kI := kI.below hb kI.lt; replace hB := chain hB hb; clear hb; have c0 := (kI.cell 0).trans rfl)
    | (go_at_call 16; refine (HSE.out _).mono ?_; rintro e W2 ⟨rfl, hb⟩; clear c0; replace kI := kI.below hb kI.lt; replace hB := chain hB hb; clear hb; have hIK := kI.lt; have kK := Blk.new W2 43 [.string s, .int .i64 z]; replace kI := kI.alloc (.cells #[.string s, .int .i64 z] 43); replace hB := chainA hB (.cells #[.string s, .int .i64 z] 43); obtain ⟨k0, k1⟩ := Blk.c2 kK)
    | (go_at_call 17; refine (HS.out _).mono ?_; rintro e W3 ⟨rfl, hb⟩; clear k0 k1; replace kI := kI.below hb kI.lt; replace kK := kK.below hb kK.lt; replace hB := chain hB hb; clear hb; have kJ := (kI.alloc (.cells zbc.toArray 28)).alloc (.cells #[.string ⟨#[]⟩, .int .i64 0] 43); have hW := bkW_new (p := plainB b) (xs := zbc) (ks := ⟨#[]⟩) (kn := 0) kI kK hB hIK; clear kI kK hB)
    | (go_at_call 9; refine (HR.out _).mono ?_; rw [HE.out]; rintro e W4 ⟨rfl, hb⟩; replace hW := hW.below hb; clear hb; obtain ⟨n0, n1⟩ := Blk.c2 hW.n))
  go_ret
  exact ⟨rfl, hW.w⟩

set_option maxRecDepth 100000 in
set_option maxHeartbeats 8000000 in
theorem back_low (b : Bd) (hb4 : OkB b) (z : Int) (hm : maybeB (plainB b)) (h0 : z < 0) (w : World) :
    Calls Tryz.prog 4 #[bdv b, .int .i64 z] w fun e W' => e = .returned (.bool true) ∧ Below w.heap.size w W' := by
  have hmx : Tryz.prog.follows .mixedOrders = true := by kernel_rfl
  have kI := Blk.new w 28 (bdc b)
  have hB := chain0 w (.cells (bdc b).toArray 28)
  have HSE := Lib.hid (seed8_any b.ro)
  have HR := Lib.hid (refBid_any (plainB b) (okB_plain hb4))
  generalize hs0 : seedB b.ro = s at *
  have HSD := Lib.hid hs0
  clear hs0
  have HE := Lib.hid (errB_zero hm)
  have HS : Hid (∀ W, Calls Tryz.prog 17 #[.agg #[.string s, .int .i64 z], bdv b] W fun e W' => e = .returned (.tuple #[zbv, .agg #[.string ⟨#[]⟩, .int .i64 0], .int .i64 9]) ∧ Below W.heap.size W W') := Lib.hid (sign_bad s z b hb4 hm 9 (by decide) (fun tx W _ => mssSign_state s z (.inl h0) tx W))
  have heq := eq_zero
  clear hm
  go_enter Tryz.func4, Tryz.ntmps4
  go_wp2_with (first
    | (refine wpList_loadIf 28 (.tmp 2) rfl _ rfl rfl (bdv b) (load_bid kI) ?_)
    | (refine wpList_loadIf 28 (.tmp 2) rfl _ rfl rfl (bdv b) (load_bid kJ) ?_)
    | (refine wpList_loadIf 28 (.tmp 9) rfl _ rfl rfl (bdv (plainB b)) (load_bid hW.p) ?_)
    | (refine wpList_loadIf 28 (.tmp 6) rfl _ rfl rfl zbv (load_zero hW.x) ?_)
    | (go_at_call 15; refine (alive8_any _).mono ?_; rintro e W1 ⟨rfl, hb⟩; replace kI := kI.below hb kI.lt; replace hB := chain hB hb; clear hb; have c0 := (kI.cell 0).trans rfl)
    | (go_at_call 16; refine (HSE.out _).mono ?_; rintro e W2 ⟨rfl, hb⟩; clear c0; replace kI := kI.below hb kI.lt; replace hB := chain hB hb; clear hb; have hIK := kI.lt; have kK := Blk.new W2 43 [.string s, .int .i64 z]; replace kI := kI.alloc (.cells #[.string s, .int .i64 z] 43); replace hB := chainA hB (.cells #[.string s, .int .i64 z] 43); obtain ⟨k0, k1⟩ := Blk.c2 kK)
    | (go_at_call 17; refine (HS.out _).mono ?_; rintro e W3 ⟨rfl, hb⟩; clear k0 k1; replace kI := kI.below hb kI.lt; replace kK := kK.below hb kK.lt; replace hB := chain hB hb; clear hb; have kJ := (kI.alloc (.cells zbc.toArray 28)).alloc (.cells #[.string ⟨#[]⟩, .int .i64 0] 43); have hW := bkW_new (p := plainB b) (xs := zbc) (ks := ⟨#[]⟩) (kn := 0) kI kK hB hIK; clear kI kK hB)
    | (go_at_call 9; refine (HR.out _).mono ?_; rw [HE.out]; rintro e W4 ⟨rfl, hb⟩; replace hW := hW.below hb; clear hb; obtain ⟨n0, n1⟩ := Blk.c2 hW.n))
  go_ret
  exact ⟨rfl, hW.w⟩

set_option maxRecDepth 100000 in
set_option maxHeartbeats 8000000 in
theorem back_high (b : Bd) (hb4 : OkB b) (z : Int) (hm : maybeB (plainB b)) (h8 : 8 < z) (w : World) :
    Calls Tryz.prog 4 #[bdv b, .int .i64 z] w fun e W' => e = .returned (.bool true) ∧ Below w.heap.size w W' := by
  have hmx : Tryz.prog.follows .mixedOrders = true := by kernel_rfl
  have kI := Blk.new w 28 (bdc b)
  have hB := chain0 w (.cells (bdc b).toArray 28)
  have HSE := Lib.hid (seed8_any b.ro)
  have HR := Lib.hid (refBid_any (plainB b) (okB_plain hb4))
  generalize hs0 : seedB b.ro = s at *
  have HSD := Lib.hid hs0
  clear hs0
  have h0 : ¬ z < 0 := by omega
  have HE := Lib.hid (errB_zero hm)
  have HS : Hid (∀ W, Calls Tryz.prog 17 #[.agg #[.string s, .int .i64 z], bdv b] W fun e W' => e = .returned (.tuple #[zbv, .agg #[.string ⟨#[]⟩, .int .i64 0], .int .i64 9]) ∧ Below W.heap.size W W') := Lib.hid (sign_bad s z b hb4 hm 9 (by decide) (fun tx W _ => mssSign_state s z (.inr h8) tx W))
  have heq := eq_zero
  clear hm
  go_enter Tryz.func4, Tryz.ntmps4
  go_wp2_with (first
    | (refine wpList_loadIf 28 (.tmp 2) rfl _ rfl rfl (bdv b) (load_bid kI) ?_)
    | (refine wpList_loadIf 28 (.tmp 2) rfl _ rfl rfl (bdv b) (load_bid kJ) ?_)
    | (refine wpList_loadIf 28 (.tmp 9) rfl _ rfl rfl (bdv (plainB b)) (load_bid hW.p) ?_)
    | (refine wpList_loadIf 28 (.tmp 6) rfl _ rfl rfl zbv (load_zero hW.x) ?_)
    | (go_at_call 15; refine (alive8_any _).mono ?_; rintro e W1 ⟨rfl, hb⟩; replace kI := kI.below hb kI.lt; replace hB := chain hB hb; clear hb; have c0 := (kI.cell 0).trans rfl)
    | (go_at_call 16; refine (HSE.out _).mono ?_; rintro e W2 ⟨rfl, hb⟩; clear c0; replace kI := kI.below hb kI.lt; replace hB := chain hB hb; clear hb; have hIK := kI.lt; have kK := Blk.new W2 43 [.string s, .int .i64 z]; replace kI := kI.alloc (.cells #[.string s, .int .i64 z] 43); replace hB := chainA hB (.cells #[.string s, .int .i64 z] 43); obtain ⟨k0, k1⟩ := Blk.c2 kK)
    | (go_at_call 17; refine (HS.out _).mono ?_; rintro e W3 ⟨rfl, hb⟩; clear k0 k1; replace kI := kI.below hb kI.lt; replace kK := kK.below hb kK.lt; replace hB := chain hB hb; clear hb; have kJ := (kI.alloc (.cells zbc.toArray 28)).alloc (.cells #[.string ⟨#[]⟩, .int .i64 0] 43); have hW := bkW_new (p := plainB b) (xs := zbc) (ks := ⟨#[]⟩) (kn := 0) kI kK hB hIK; clear kI kK hB)
    | (go_at_call 9; refine (HR.out _).mono ?_; rw [HE.out]; rintro e W4 ⟨rfl, hb⟩; replace hW := hW.below hb; clear hb; obtain ⟨n0, n1⟩ := Blk.c2 hW.n))
  go_ret
  exact ⟨rfl, hW.w⟩

set_option maxRecDepth 100000 in
set_option maxHeartbeats 8000000 in
theorem back_full (b : Bd) (hb4 : OkB b) (hm : maybeB (plainB b)) (w : World) :
    Calls Tryz.prog 4 #[bdv b, .int .i64 8] w fun e W' => e = .returned (.bool true) ∧ Below w.heap.size w W' := by
  have hmx : Tryz.prog.follows .mixedOrders = true := by kernel_rfl
  have kI := Blk.new w 28 (bdc b)
  have hB := chain0 w (.cells (bdc b).toArray 28)
  have HSE := Lib.hid (seed8_any b.ro)
  have HR := Lib.hid (refBid_any (plainB b) (okB_plain hb4))
  generalize hs0 : seedB b.ro = s at *
  have HSD := Lib.hid hs0
  clear hs0
  have HE := Lib.hid (errB_zero hm)
  have HS : Hid (∀ W, Calls Tryz.prog 17 #[.agg #[.string s, .int .i64 8], bdv b] W fun e W' => e = .returned (.tuple #[zbv, .agg #[.string ⟨#[]⟩, .int .i64 0], .int .i64 10]) ∧ Below W.heap.size W W') := Lib.hid (sign_bad s 8 b hb4 hm 10 (by decide) (fun tx W _ => mssSign_full s tx W))
  have heq := eq_zero
  clear hm
  go_enter Tryz.func4, Tryz.ntmps4
  go_wp2_with (first
    | (refine wpList_loadIf 28 (.tmp 2) rfl _ rfl rfl (bdv b) (load_bid kI) ?_)
    | (refine wpList_loadIf 28 (.tmp 2) rfl _ rfl rfl (bdv b) (load_bid kJ) ?_)
    | (refine wpList_loadIf 28 (.tmp 9) rfl _ rfl rfl (bdv (plainB b)) (load_bid hW.p) ?_)
    | (refine wpList_loadIf 28 (.tmp 6) rfl _ rfl rfl zbv (load_zero hW.x) ?_)
    | (go_at_call 15; refine (alive8_any _).mono ?_; rintro e W1 ⟨rfl, hb⟩; replace kI := kI.below hb kI.lt; replace hB := chain hB hb; clear hb; have c0 := (kI.cell 0).trans rfl)
    | (go_at_call 16; refine (HSE.out _).mono ?_; rintro e W2 ⟨rfl, hb⟩; clear c0; replace kI := kI.below hb kI.lt; replace hB := chain hB hb; clear hb; have hIK := kI.lt; have kK := Blk.new W2 43 [.string s, .int .i64 8]; replace kI := kI.alloc (.cells #[.string s, .int .i64 8] 43); replace hB := chainA hB (.cells #[.string s, .int .i64 8] 43); obtain ⟨k0, k1⟩ := Blk.c2 kK)
    | (go_at_call 17; refine (HS.out _).mono ?_; rintro e W3 ⟨rfl, hb⟩; clear k0 k1; replace kI := kI.below hb kI.lt; replace kK := kK.below hb kK.lt; replace hB := chain hB hb; clear hb; have kJ := (kI.alloc (.cells zbc.toArray 28)).alloc (.cells #[.string ⟨#[]⟩, .int .i64 0] 43); have hW := bkW_new (p := plainB b) (xs := zbc) (ks := ⟨#[]⟩) (kn := 0) kI kK hB hIK; clear kI kK hB)
    | (go_at_call 9; refine (HR.out _).mono ?_; rw [HE.out]; rintro e W4 ⟨rfl, hb⟩; replace hW := hW.below hb; clear hb; obtain ⟨n0, n1⟩ := Blk.c2 hW.n))
  go_ret
  exact ⟨rfl, hW.w⟩

/-- A bid with a signature, as a value. -/
abbrev sbv (b : Bd) (g : ByteArray) : Value := .agg #[.int .i64 b.ro, .int .i64 b.k.us, .int .i64 b.k.se, .int .i64 b.k.re, .int .i64 b.k.to, .int .u64 (b.k.a0 : Nat), .int .u64 (b.k.a1 : Nat), .int .u64 (b.k.a2 : Nat), .int .u64 (b.k.a3 : Nat), .string b.k.id, .int .u64 (b.b0 : Nat), .int .u64 (b.b1 : Nat), .int .u64 (b.b2 : Nat), .int .u64 (b.b3 : Nat), .int .i64 b.un, .string g]
abbrev sbc (b : Bd) (g : ByteArray) : List Value := [.int .i64 b.ro, .int .i64 b.k.us, .int .i64 b.k.se, .int .i64 b.k.re, .int .i64 b.k.to, .int .u64 (b.k.a0 : Nat), .int .u64 (b.k.a1 : Nat), .int .u64 (b.k.a2 : Nat), .int .u64 (b.k.a3 : Nat), .string b.k.id, .int .u64 (b.b0 : Nat), .int .u64 (b.b1 : Nat), .int .u64 (b.b2 : Nat), .int .u64 (b.b3 : Nat), .int .i64 b.un, .string g]
theorem load_sb {W : World} {B : Nat} {b : Bd} {g : ByteArray} (h : Blk W B 28 (sbc b g)) : (Instr.loadAt 28 (.pointer (some ⟨B, 0, none⟩))).run Tryz.prog W = .ok (sbv b g) W := load_bid (b := signedB b g) h
theorem eq_sb (b : Bd) (g : ByteArray) (w : World) : (Op.equalIn 10000 28 (sbv b g) (sbv b g)).run Tryz.prog w = .ok true w := eq_bid (signedB b g) w
theorem seed_one {ro : Int} {r : Nat} (h : ro = (r : Int)) (hr : r ≤ 3) : seedB ro = routerB ++ oneB r := by
  subst h
  obtain rfl | rfl | rfl | rfl : r = 0 ∨ r = 1 ∨ r = 2 ∨ r = 3 := by omega
  all_goals rfl
theorem seed_size {ro : Int} {r : Nat} (h : ro = (r : Int)) (hr : r ≤ 3) : (seedB ro).size ≤ 100 := by
  rw [seed_one h hr, ByteArray.size_append, oneB_size]
  decide
theorem wrap8 {r : Nat} (hr : r ≤ 3) : IntKind.u8.wrap ((r : Nat) : Int) = (r : Int) := by
  obtain rfl | rfl | rfl | rfl : r = 0 ∨ r = 1 ∨ r = 2 ∨ r = 3 := by omega
  all_goals rfl
theorem valid_signed {b : Bd} {s : ByteArray} {n : Nat} (hm : maybeB (plainB b)) (hn : n < 8) : validB (signedB b (sigB s n (textL (plainB b)))) (rootB s) = true := by
  have hm2 : maybeB (signedB b (sigB s n (textL (plainB b)))) := by
    obtain ⟨h0, h1, h2, h3, h4, _⟩ := hm
    exact ⟨h0, h1, h2, h3, h4, by show (sigB s n (textL (plainB b))).size ≤ 1024; rw [sigB_size hn]; decide⟩
  have ht : textL (signedB b (sigB s n (textL (plainB b)))) = textL (plainB b) := by
    rw [textL_yes hm2, textL_yes hm]; rfl
  unfold validB
  rw [decide_eq_true hm2, ht, Bool.true_and]
  exact verB_sign hn
set_option maxRecDepth 100000 in
set_option maxHeartbeats 8000000 in
theorem back_good (b : Bd) (hb4 : OkB b) (r n : Nat) (hro : b.ro = (r : Int)) (hr3 : r ≤ 3) (hn : n < 8) (hm : maybeB (plainB b)) (w : World) :
    Calls Tryz.prog 4 #[bdv b, .int .i64 (n : Int)] w fun e W' => e = .returned (.bool true) ∧ Below w.heap.size w W' := by
  have hmx : Tryz.prog.follows .mixedOrders = true := by kernel_rfl
  have kI := Blk.new w 28 (bdc b)
  have hB := chain0 w (.cells (bdc b).toArray 28)
  have HSE := Lib.hid (seed8_any b.ro)
  have HR := Lib.hid (refBid_any (plainB b) (okB_plain hb4))
  generalize hs0 : seedB b.ro = s at *
  have HSD := Lib.hid hs0
  clear hs0
  have HE := Lib.hid (errB_zero hm)
  have hs : s.size ≤ 100 := by rw [← HSD.out]; exact seed_size hro hr3
  have hsum : ({ data := #[114, 111, 117, 116, 101, 114] } : ByteArray) ++ oneB r = s := by rw [← HSD.out, seed_one hro hr3]; rfl
  have HSUM := Lib.hid hsum
  have HW8 : Hid (IntKind.u8.wrap b.ro = (r : Int)) := Lib.hid (by rw [hro]; exact wrap8 hr3)
  have HL := Lib.hid (textL_len (plainB b))
  have HT := Lib.hid (refText8_any (plainB b) (okB_plain hb4))
  have HVT := Lib.hid (valid_signed (s := s) hm hn)
  have HS0 := sign_ok s (n : Int) b hb4 hm (sigB s n (textL (plainB b))) s ((n : Int) + 1) (fun tx W h => mssSign_any s (by omega) n hn (textL (plainB b)) tx W (by have := HL.out; omega) h)
  have HSG := Lib.hid (fun tx W (h : BSl 0 W.heap.size W tx (textL (plainB b))) => refSig_any s (by omega) n hn (textL (plainB b)) tx W (by have := HL.out; omega) h)
  have HRT := Lib.hid (fun W => root_any s (by omega) W)
  generalize sigB s n (textL (plainB b)) = sgn at *
  generalize textL (plainB b) = tl at *
  have HS : Hid (∀ W, Calls Tryz.prog 17 #[.agg #[.string s, .int .i64 (n : Int)], bdv b] W fun e W' => e = .returned (.tuple #[sbv b sgn, .agg #[.string s, .int .i64 ((n : Int) + 1)], .int .i64 0]) ∧ Below W.heap.size W W') := Lib.hid HS0
  have HVD : Hid (∀ W, Calls Tryz.prog 12 #[sbv b sgn, .string (rootB s)] W fun e W' => e = .returned (.bool true) ∧ Below W.heap.size W W') := Lib.hid (fun W => by
    have := valid8_any (signedB b sgn) ⟨hb4.k, hb4.b⟩ (rootB s) W
    rw [HVT.out] at this
    exact this)
  generalize rootB s = rb at *
  have HWP : Hid (IntKind.i64.wrap ((n : Int) + 1) = (n : Int) + 1) := Lib.hid (IntWalk.i64_in _ (by omega))
  have h0 : ¬ (n : Int) < 0 := by omega
  have h8 : ¬ 8 < (n : Int) := by omega
  have h8e : ((n : Int) == 8) = false := by simp; omega
  have HR3 := Lib.hid hr3
  clear hm HS0 HVT hsum hs hro hr3 hn
  go_enter Tryz.func4, Tryz.ntmps4
  go_upto_region 13 with (first
    | (refine wpList_loadIf 28 (.tmp 2) rfl _ rfl rfl (bdv b) (load_bid kI) ?_)
    | (refine wpList_loadIf 28 (.tmp 2) rfl _ rfl rfl (bdv b) (load_bid kJ) ?_)
    | (refine wpList_loadIf 28 (.tmp 9) rfl _ rfl rfl (bdv (plainB b)) (load_bid hW.p) ?_)
    | (go_at_call 15; refine (alive8_any _).mono ?_; rintro e W1 ⟨rfl, hb⟩; replace kI := kI.below hb kI.lt; replace hB := chain hB hb; clear hb; have c0 := (kI.cell 0).trans rfl)
    | (go_at_call 16; refine (HSE.out _).mono ?_; rintro e W2 ⟨rfl, hb⟩; clear c0; replace kI := kI.below hb kI.lt; replace hB := chain hB hb; clear hb; have hIK := kI.lt; have kK := Blk.new W2 43 [.string s, .int .i64 (n : Int)]; replace kI := kI.alloc (.cells #[.string s, .int .i64 (n : Int)] 43); replace hB := chainA hB (.cells #[.string s, .int .i64 (n : Int)] 43); obtain ⟨k0, k1⟩ := Blk.c2 kK)
    | (go_at_call 17; refine (HS.out _).mono ?_; rintro e W3 ⟨rfl, hb⟩; clear k0 k1; replace kI := kI.below hb kI.lt; replace kK := kK.below hb kK.lt; replace hB := chain hB hb; clear hb; have kJ := (kI.alloc (.cells (sbc b sgn).toArray 28)).alloc (.cells #[.string s, .int .i64 ((n : Int) + 1)] 43); have hW := bkW_new (p := plainB b) (xs := sbc b sgn) (ks := s) (kn := ((n : Int) + 1)) kI kK hB hIK; clear kI kK hB)
    | (go_at_call 9; refine (HR.out _).mono ?_; rw [HE.out]; rintro e W4 ⟨rfl, hb⟩; replace hW := hW.below hb; clear hb))
  generalize W3.heap.size = X at *
  generalize W2.heap.size = K at *
  clear kJ hIK h0 h8 h8e
  refine wp_region_held_drew (S := fun W => Blk W K 43 [.string s, .int .i64 (n : Int)]) hmx hW.k ?_
  intro hS
  replace hW := hW.drew
  generalize World.drew _ = Y at *
  refine' wpAnyH_take (i := 0) (oi := _) (v := _) ?hi1 (by kernel_rfl) (by kernel_rfl) (by kernel_rfl) ?hQ1 (Or.inl ⟨?hw1, ?hy1⟩) hS ?rest1
  case hi1 => simp only [List.getElem?_toArray, List.getElem?_cons_zero]; rfl
  case hQ1 => exact fun _ _ _ h => h
  case hw1 => rfl
  case hy1 => intro W' hS'; go_simp; with_reducible rfl
  try simp only [Act.put, List.setIfInBounds_toArray, List.set_cons_zero, List.set_cons_succ]
  refine' wpAnyH_take (i := 1) (oi := _) (v := _) ?hi2 (by kernel_rfl) (by kernel_rfl) (by kernel_rfl) ?hQ2 (Or.inl ⟨?hw2, ?hy2⟩) hS ?rest2
  case hi2 => simp only [List.getElem?_toArray, List.getElem?_cons_succ, List.getElem?_cons_zero]; rfl
  case hQ2 => exact fun _ _ _ h => h
  case hw2 => rfl
  case hy2 => intro W' hS'; obtain ⟨k0, k1⟩ := Blk.c2 hS'; go_simp; with_reducible rfl
  try simp only [Act.put, List.setIfInBounds_toArray, List.set_cons_zero, List.set_cons_succ]
  refine' wpAnyH_take (i := 2) (oi := _) (v := _) ?hi3 (by kernel_rfl) (by kernel_rfl) (by kernel_rfl) ?hQ3 (Or.inl ⟨?hw3, ?hy3⟩) hS ?rest3
  case hi3 => simp only [List.getElem?_toArray, List.getElem?_cons_succ, List.getElem?_cons_zero]; rfl
  case hQ3 => exact fun _ _ _ h => h
  case hw3 => rfl
  case hy3 => intro W' hS'; go_simp; with_reducible rfl
  try simp only [Act.put, List.setIfInBounds_toArray, List.set_cons_zero, List.set_cons_succ]
  refine wpAnyH_ready (rs := [3]) (by kernel_rfl) (by simp) ?_
  refine' AllReadyH.cons (o := _) ?ho4 (fun K hK => ?st4) AllReadyH.nil
  case ho4 => simp only [List.getElem?_toArray, List.getElem?_cons_succ, List.getElem?_cons_zero]; rfl
  case st4 =>
    refine wp_load_row 28 (.tmp 9) ?_ (X + 1 + 1) ?_ 28 (bdc (plainB b)).toArray (0, 0) _ hW.p Tryz.underlying28 rfl (by kernel_rfl) ?_
    · rfl
    · rfl
    refine hK.out _ _ hS (fun hS => ?_)
    clear hK K
    try simp only [Act.put, List.setIfInBounds_toArray, List.set_cons_zero, List.set_cons_succ]
    refine wpAnyH_ready (rs := [4]) (by kernel_rfl) (by simp) ?_
    refine' AllReadyH.cons (o := _) ?ho5 (fun K hK => ?st5) AllReadyH.nil
    case ho5 => simp only [List.getElem?_toArray, List.getElem?_cons_succ, List.getElem?_cons_zero]; rfl
    case st5 =>
      go_simp
      refine (HT.out _).mono ?_
      rintro e Y1 ⟨v1, rfl, hv1, hb⟩
      refine hK.out _ _ (hS.below hb hS.lt) (fun hS => ?_)
      clear hK K
      try simp only [Act.put, List.setIfInBounds_toArray, List.set_cons_zero, List.set_cons_succ]
      replace hW := hW.below hb
      clear hb
      refine wpAnyH_ready (rs := [5]) (by kernel_rfl) (by simp) ?_
      refine' AllReadyH.cons (o := _) ?ho6 (fun K hK => ?st6) AllReadyH.nil
      case ho6 => simp only [List.getElem?_toArray, List.getElem?_cons_succ, List.getElem?_cons_zero]; rfl
      case st6 =>
        go_simp
        refine (HSG.out _ _ hv1).mono ?_
        rintro e Y2 ⟨rfl, hb⟩
        refine hK.out _ _ (hS.below hb hS.lt) (fun hS => ?_)
        clear hK K
        try simp only [Act.put, List.setIfInBounds_toArray, List.set_cons_zero, List.set_cons_succ]
        replace hW := hW.below hb
        clear hb hv1
        refine' wpAnyH_take (i := 6) (oi := _) (v := _) ?hi7 (by kernel_rfl) (by kernel_rfl) (by kernel_rfl) ?hQ7 (Or.inl ⟨?hw7, ?hy7⟩) hS ?rest7
        case hi7 => simp only [List.getElem?_toArray, List.getElem?_cons_succ, List.getElem?_cons_zero]; rfl
        case hQ7 => exact fun _ _ _ h => h
        case hw7 => rfl
        case hy7 => intro W' hS'; go_simp; with_reducible rfl
        try simp only [Act.put, List.setIfInBounds_toArray, List.set_cons_zero, List.set_cons_succ]
        refine wpAnyH_ready (rs := [7]) (by kernel_rfl) (by simp) ?_
        refine' AllReadyH.cons (o := _) ?ho8 (fun K hK => ?st8) AllReadyH.nil
        case ho8 => simp only [List.getElem?_toArray, List.getElem?_cons_succ, List.getElem?_cons_zero]; rfl
        case st8 =>
          have z15 := (hW.p.cell 15).trans rfl
          have f15 := hW.p.frozen 15
          go_simp
          refine hK.out _ _ (hS.other 15 _ (by have := hW.l2; omega)) (fun hS => ?_)
          clear hK K
          try simp only [Act.put, List.setIfInBounds_toArray, List.set_cons_zero, List.set_cons_succ]
          refine wpAnyH_done (by kernel_rfl) ?_ _
          replace hW := hW.set sgn
          clear z15 f15 hS
          go_upto_region 14 with fail
          generalize World.setCell _ _ _ = Y3 at *
          refine wp_region_held_drew (S := fun W => BkW b (signedB (plainB b) sgn) (sbc b sgn) s (n : Int) s ((n : Int) + 1) K X w W) hmx hW.drew ?_
          intro hS
          clear hW
          generalize World.drew _ = Y4 at *
          refine' wpAnyH_take (i := 0) (oi := _) (v := _) ?hi9 (by kernel_rfl) (by kernel_rfl) (by kernel_rfl) ?hQ9 (Or.inl ⟨?hw9, ?hy9⟩) hS ?rest9
          case hi9 => simp only [List.getElem?_toArray, List.getElem?_cons_zero]; rfl
          case hQ9 => exact fun _ _ _ h => h
          case hw9 => rfl
          case hy9 => intro W' hS'; go_simp; with_reducible rfl
          try simp only [Act.put, List.setIfInBounds_toArray, List.set_cons_zero, List.set_cons_succ]
          refine' wpAnyH_take (i := 1) (oi := _) (v := _) ?hi10 (by kernel_rfl) (by kernel_rfl) (by kernel_rfl) ?hQ10 (Or.inl ⟨?hw10, ?hy10⟩) hS ?rest10
          case hi10 => simp only [List.getElem?_toArray, List.getElem?_cons_succ, List.getElem?_cons_zero]; rfl
          case hQ10 => exact fun _ _ _ h => h
          case hw10 => rfl
          case hy10 => intro W' hS'; go_simp; with_reducible rfl
          try simp only [Act.put, List.setIfInBounds_toArray, List.set_cons_zero, List.set_cons_succ]
          refine' wpAnyH_take (i := 2) (oi := _) (v := _) ?hi11 (by kernel_rfl) (by kernel_rfl) (by kernel_rfl) ?hQ11 (Or.inl ⟨?hw11, ?hy11⟩) hS ?rest11
          case hi11 => simp only [List.getElem?_toArray, List.getElem?_cons_succ, List.getElem?_cons_zero]; rfl
          case hQ11 => exact fun _ _ _ h => h
          case hw11 => rfl
          case hy11 => intro W' hS'; go_simp; with_reducible rfl
          try simp only [Act.put, List.setIfInBounds_toArray, List.set_cons_zero, List.set_cons_succ]
          refine' wpAnyH_take (i := 3) (oi := _) (v := sbv b sgn) ?hi12 (by kernel_rfl) (by kernel_rfl) (by kernel_rfl) ?hQ12 (Or.inl ⟨?hw12, ?hy12⟩) hS ?rest12
          case hi12 => simp only [List.getElem?_toArray, List.getElem?_cons_succ, List.getElem?_cons_zero]; rfl
          case hQ12 => exact fun _ _ _ h => h
          case hw12 => rfl
          case hy12 => exact fun W' hS' => exec_load 28 (.tmp 6) rfl _ W' (load_sb hS'.x)
          try simp only [Act.put, List.setIfInBounds_toArray, List.set_cons_zero, List.set_cons_succ]
          refine' wpAnyH_take (i := 4) (oi := _) (v := sbv b sgn) ?hi13 (by kernel_rfl) (by kernel_rfl) (by kernel_rfl) ?hQ13 (Or.inl ⟨?hw13, ?hy13⟩) hS ?rest13
          case hi13 => simp only [List.getElem?_toArray, List.getElem?_cons_succ, List.getElem?_cons_zero]; rfl
          case hQ13 => exact fun _ _ _ h => h
          case hw13 => rfl
          case hy13 => exact fun W' hS' => exec_load 28 (.tmp 9) rfl _ W' (load_sb hS'.p)
          try simp only [Act.put, List.setIfInBounds_toArray, List.set_cons_zero, List.set_cons_succ]
          refine' wpAnyH_take (i := 5) (oi := _) (v := _) ?hi14 (by kernel_rfl) (by kernel_rfl) (by kernel_rfl) ?hQ14 (Or.inl ⟨?hw14, ?hy14⟩) hS ?rest14
          case hi14 => simp only [List.getElem?_toArray, List.getElem?_cons_succ, List.getElem?_cons_zero]; rfl
          case hQ14 => exact fun _ _ _ h => h
          case hw14 => rfl
          case hy14 => intro W' hS'; have heq := eq_sb; go_simp; with_reducible rfl
          try simp only [Act.put, List.setIfInBounds_toArray, List.set_cons_zero, List.set_cons_succ]
          refine' wpAnyH_take (i := 6) (oi := _) (v := _) ?hi15 (by kernel_rfl) (by kernel_rfl) (by kernel_rfl) ?hQ15 (Or.inl ⟨?hw15, ?hy15⟩) hS ?rest15
          case hi15 => simp only [List.getElem?_toArray, List.getElem?_cons_succ, List.getElem?_cons_zero]; rfl
          case hQ15 => exact fun _ _ _ h => h
          case hw15 => rfl
          case hy15 => intro W' hS'; go_simp; with_reducible rfl
          try simp only [Act.put, List.setIfInBounds_toArray, List.set_cons_zero, List.set_cons_succ]
          refine' wpAnyH_take (i := 7) (oi := _) (v := _) ?hi16 (by kernel_rfl) (by kernel_rfl) (by kernel_rfl) ?hQ16 (Or.inl ⟨?hw16, ?hy16⟩) hS ?rest16
          case hi16 => simp only [List.getElem?_toArray, List.getElem?_cons_succ, List.getElem?_cons_zero]; rfl
          case hQ16 => exact fun _ _ _ h => h
          case hw16 => rfl
          case hy16 => intro W' hS'; go_simp; with_reducible rfl
          try simp only [Act.put, List.setIfInBounds_toArray, List.set_cons_zero, List.set_cons_succ]
          refine' wpAnyH_take (i := 8) (oi := _) (v := _) ?hi17 (by kernel_rfl) (by kernel_rfl) (by kernel_rfl) ?hQ17 (Or.inl ⟨?hw17, ?hy17⟩) hS ?rest17
          case hi17 => simp only [List.getElem?_toArray, List.getElem?_cons_succ, List.getElem?_cons_zero]; rfl
          case hQ17 => exact fun _ _ _ h => h
          case hw17 => rfl
          case hy17 => intro W' hS'; go_simp; with_reducible rfl
          try simp only [Act.put, List.setIfInBounds_toArray, List.set_cons_zero, List.set_cons_succ]
          refine' wpAnyH_take (i := 9) (oi := _) (v := _) ?hi18 (by kernel_rfl) (by kernel_rfl) (by kernel_rfl) ?hQ18 (Or.inl ⟨?hw18, ?hy18⟩) hS ?rest18
          case hi18 => simp only [List.getElem?_toArray, List.getElem?_cons_succ, List.getElem?_cons_zero]; rfl
          case hQ18 => exact fun _ _ _ h => h
          case hw18 => rfl
          case hy18 => intro W' hS'; obtain ⟨n0, n1⟩ := Blk.c2 hS'.n; go_simp; with_reducible rfl
          try simp only [Act.put, List.setIfInBounds_toArray, List.set_cons_zero, List.set_cons_succ]
          refine' wpAnyH_take (i := 10) (oi := _) (v := _) ?hi19 (by kernel_rfl) (by kernel_rfl) (by kernel_rfl) ?hQ19 (Or.inl ⟨?hw19, ?hy19⟩) hS ?rest19
          case hi19 => simp only [List.getElem?_toArray, List.getElem?_cons_succ, List.getElem?_cons_zero]; rfl
          case hQ19 => exact fun _ _ _ h => h
          case hw19 => rfl
          case hy19 => intro W' hS'; go_simp; with_reducible rfl
          try simp only [Act.put, List.setIfInBounds_toArray, List.set_cons_zero, List.set_cons_succ]
          refine' wpAnyH_take (i := 11) (oi := _) (v := _) ?hi20 (by kernel_rfl) (by kernel_rfl) (by kernel_rfl) ?hQ20 (Or.inl ⟨?hw20, ?hy20⟩) hS ?rest20
          case hi20 => simp only [List.getElem?_toArray, List.getElem?_cons_succ, List.getElem?_cons_zero]; rfl
          case hQ20 => exact fun _ _ _ h => h
          case hw20 => rfl
          case hy20 => intro W' hS'; have hwp := HWP.out; go_simp; with_reducible rfl
          try simp only [Act.put, List.setIfInBounds_toArray, List.set_cons_zero, List.set_cons_succ]
          refine' wpAnyH_take (i := 12) (oi := _) (v := _) ?hi21 (by kernel_rfl) (by kernel_rfl) (by kernel_rfl) ?hQ21 (Or.inl ⟨?hw21, ?hy21⟩) hS ?rest21
          case hi21 => simp only [List.getElem?_toArray, List.getElem?_cons_succ, List.getElem?_cons_zero]; rfl
          case hQ21 => exact fun _ _ _ h => h
          case hw21 => rfl
          case hy21 => intro W' hS'; go_simp; with_reducible rfl
          try simp only [Act.put, List.setIfInBounds_toArray, List.set_cons_zero, List.set_cons_succ]
          refine' wpAnyH_take (i := 13) (oi := _) (v := _) ?hi22 (by kernel_rfl) (by kernel_rfl) (by kernel_rfl) ?hQ22 (Or.inl ⟨?hw22, ?hy22⟩) hS ?rest22
          case hi22 => simp only [List.getElem?_toArray, List.getElem?_cons_succ, List.getElem?_cons_zero]; rfl
          case hQ22 => exact fun _ _ _ h => h
          case hw22 => rfl
          case hy22 => intro W' hS'; go_simp; with_reducible rfl
          try simp only [Act.put, List.setIfInBounds_toArray, List.set_cons_zero, List.set_cons_succ]
          refine' wpAnyH_take (i := 14) (oi := _) (v := _) ?hi23 (by kernel_rfl) (by kernel_rfl) (by kernel_rfl) ?hQ23 (Or.inl ⟨?hw23, ?hy23⟩) hS ?rest23
          case hi23 => simp only [List.getElem?_toArray, List.getElem?_cons_succ, List.getElem?_cons_zero]; rfl
          case hQ23 => exact fun _ _ _ h => h
          case hw23 => rfl
          case hy23 => intro W' hS'; go_simp; with_reducible rfl
          try simp only [Act.put, List.setIfInBounds_toArray, List.set_cons_zero, List.set_cons_succ]
          refine' wpAnyH_take (i := 15) (oi := _) (v := sbv b sgn) ?hi24 (by kernel_rfl) (by kernel_rfl) (by kernel_rfl) ?hQ24 (Or.inl ⟨?hw24, ?hy24⟩) hS ?rest24
          case hi24 => simp only [List.getElem?_toArray, List.getElem?_cons_succ, List.getElem?_cons_zero]; rfl
          case hQ24 => exact fun _ _ _ h => h
          case hw24 => rfl
          case hy24 => exact fun W' hS' => exec_load 28 (.tmp 6) rfl _ W' (load_sb hS'.x)
          try simp only [Act.put, List.setIfInBounds_toArray, List.set_cons_zero, List.set_cons_succ]
          refine' wpAnyH_take (i := 16) (oi := _) (v := _) ?hi25 (by kernel_rfl) (by kernel_rfl) (by kernel_rfl) ?hQ25 (Or.inl ⟨?hw25, ?hy25⟩) hS ?rest25
          case hi25 => simp only [List.getElem?_toArray, List.getElem?_cons_succ, List.getElem?_cons_zero]; rfl
          case hQ25 => exact fun _ _ _ h => h
          case hw25 => rfl
          case hy25 => intro W' hS'; go_simp; with_reducible rfl
          try simp only [Act.put, List.setIfInBounds_toArray, List.set_cons_zero, List.set_cons_succ]
          refine' wpAnyH_take (i := 17) (oi := _) (v := _) ?hi26 (by kernel_rfl) (by kernel_rfl) (by kernel_rfl) ?hQ26 (Or.inl ⟨?hw26, ?hy26⟩) hS ?rest26
          case hi26 => simp only [List.getElem?_toArray, List.getElem?_cons_succ, List.getElem?_cons_zero]; rfl
          case hQ26 => exact fun _ _ _ h => h
          case hw26 => rfl
          case hy26 => intro W' hS'; obtain ⟨k0, k1⟩ := Blk.c2 hS'.k; go_simp; with_reducible rfl
          try simp only [Act.put, List.setIfInBounds_toArray, List.set_cons_zero, List.set_cons_succ]
          refine wpAnyH_ready (rs := [18]) (by kernel_rfl) (by simp) ?_
          refine' AllReadyH.cons (o := _) ?ho27 (fun K hK => ?st27) AllReadyH.nil
          case ho27 => simp only [List.getElem?_toArray, List.getElem?_cons_succ, List.getElem?_cons_zero]; rfl
          case st27 =>
            go_simp
            refine (HRT.out _).mono ?_
            rintro e Y5 ⟨rfl, hb⟩
            refine hK.out _ _ (hS.below hb) (fun hS => ?_)
            clear hK K
            try simp only [Act.put, List.setIfInBounds_toArray, List.set_cons_zero, List.set_cons_succ]
            clear hb
            refine wpAnyH_ready (rs := [19]) (by kernel_rfl) (by simp) ?_
            refine' AllReadyH.cons (o := _) ?ho28 (fun K hK => ?st28) AllReadyH.nil
            case ho28 => simp only [List.getElem?_toArray, List.getElem?_cons_succ, List.getElem?_cons_zero]; rfl
            case st28 =>
              go_simp
              refine (HVD.out _).mono ?_
              rintro e Y6 ⟨rfl, hb⟩
              refine hK.out _ _ (hS.below hb) (fun hS => ?_)
              clear hK K
              try simp only [Act.put, List.setIfInBounds_toArray, List.set_cons_zero, List.set_cons_succ]
              clear hb
              refine' wpAnyH_take (i := 20) (oi := _) (v := _) ?hi29 (by kernel_rfl) (by kernel_rfl) (by kernel_rfl) ?hQ29 (Or.inl ⟨?hw29, ?hy29⟩) hS ?rest29
              case hi29 => simp only [List.getElem?_toArray, List.getElem?_cons_succ, List.getElem?_cons_zero]; rfl
              case hQ29 => exact fun _ _ _ h => h
              case hw29 => rfl
              case hy29 => intro W' hS'; go_simp; with_reducible rfl
              try simp only [Act.put, List.setIfInBounds_toArray, List.set_cons_zero, List.set_cons_succ]
              refine' wpAnyH_take (i := 21) (oi := _) (v := _) ?hi30 (by kernel_rfl) (by kernel_rfl) (by kernel_rfl) ?hQ30 (Or.inl ⟨?hw30, ?hy30⟩) hS ?rest30
              case hi30 => simp only [List.getElem?_toArray, List.getElem?_cons_succ, List.getElem?_cons_zero]; rfl
              case hQ30 => exact fun _ _ _ h => h
              case hw30 => rfl
              case hy30 => intro W' hS'; go_simp; with_reducible rfl
              try simp only [Act.put, List.setIfInBounds_toArray, List.set_cons_zero, List.set_cons_succ]
              refine' wpAnyH_take (i := 22) (oi := _) (v := _) ?hi31 (by kernel_rfl) (by kernel_rfl) (by kernel_rfl) ?hQ31 (Or.inl ⟨?hw31, ?hy31⟩) hS ?rest31
              case hi31 => simp only [List.getElem?_toArray, List.getElem?_cons_succ, List.getElem?_cons_zero]; rfl
              case hQ31 => exact fun _ _ _ h => h
              case hw31 => rfl
              case hy31 => intro W' hS'; go_simp; with_reducible rfl
              try simp only [Act.put, List.setIfInBounds_toArray, List.set_cons_zero, List.set_cons_succ]
              refine' wpAnyH_take (i := 23) (oi := _) (v := _) ?hi32 (by kernel_rfl) (by kernel_rfl) (by kernel_rfl) ?hQ32 (Or.inl ⟨?hw32, ?hy32⟩) hS ?rest32
              case hi32 => simp only [List.getElem?_toArray, List.getElem?_cons_succ, List.getElem?_cons_zero]; rfl
              case hQ32 => exact fun _ _ _ h => h
              case hw32 => rfl
              case hy32 => intro W' hS'; obtain ⟨k0, k1⟩ := Blk.c2 hS'.k; go_simp; with_reducible rfl
              try simp only [Act.put, List.setIfInBounds_toArray, List.set_cons_zero, List.set_cons_succ]
              refine' wpAnyH_take (i := 24) (oi := _) (v := _) ?hi33 (by kernel_rfl) (by kernel_rfl) (by kernel_rfl) ?hQ33 (Or.inl ⟨?hw33, ?hy33⟩) hS ?rest33
              case hi33 => simp only [List.getElem?_toArray, List.getElem?_cons_succ, List.getElem?_cons_zero]; rfl
              case hQ33 => exact fun _ _ _ h => h
              case hw33 => rfl
              case hy33 => intro W' hS'; go_simp; with_reducible rfl
              try simp only [Act.put, List.setIfInBounds_toArray, List.set_cons_zero, List.set_cons_succ]
              refine' wpAnyH_take (i := 25) (oi := _) (v := _) ?hi34 (by kernel_rfl) (by kernel_rfl) (by kernel_rfl) ?hQ34 (Or.inl ⟨?hw34, ?hy34⟩) hS ?rest34
              case hi34 => simp only [List.getElem?_toArray, List.getElem?_cons_succ, List.getElem?_cons_zero]; rfl
              case hQ34 => exact fun _ _ _ h => h
              case hw34 => rfl
              case hy34 => intro W' hS'; have i0 := (hS'.i.cell 0).trans rfl; go_simp; with_reducible rfl
              try simp only [Act.put, List.setIfInBounds_toArray, List.set_cons_zero, List.set_cons_succ]
              refine' wpAnyH_take (i := 26) (oi := _) (v := _) ?hi35 (by kernel_rfl) (by kernel_rfl) (by kernel_rfl) ?hQ35 (Or.inl ⟨?hw35, ?hy35⟩) hS ?rest35
              case hi35 => simp only [List.getElem?_toArray, List.getElem?_cons_succ, List.getElem?_cons_zero]; rfl
              case hQ35 => exact fun _ _ _ h => h
              case hw35 => rfl
              case hy35 => intro W' hS'; have hw8 := HW8.out; go_simp; with_reducible rfl
              try simp only [Act.put, List.setIfInBounds_toArray, List.set_cons_zero, List.set_cons_succ]
              refine wpAnyH_ready (rs := [27]) (by kernel_rfl) (by simp) ?_
              refine' AllReadyH.cons (o := _) ?ho36 (fun K hK => ?st36) AllReadyH.nil
              case ho36 => simp only [List.getElem?_toArray, List.getElem?_cons_succ, List.getElem?_cons_zero]; rfl
              case st36 =>
                go_simp
                refine hK.out _ _ (hS.below (chain0 Y6 _)) (fun hS => ?_)
                clear hK K
                try simp only [Act.put, List.setIfInBounds_toArray, List.set_cons_zero, List.set_cons_succ]
                refine wpAnyH_ready (rs := [28]) (by kernel_rfl) (by simp) ?_
                refine' AllReadyH.cons (o := _) ?ho37 (fun K hK => ?st37) AllReadyH.nil
                case ho37 => simp only [List.getElem?_toArray, List.getElem?_cons_succ, List.getElem?_cons_zero]; rfl
                case st37 =>
                  have hcv := one_conv Y6 r (by have := HR3.out; omega)
                  go_simp
                  refine hK.out _ _ hS (fun hS => ?_)
                  clear hK K
                  try simp only [Act.put, List.setIfInBounds_toArray, List.set_cons_zero, List.set_cons_succ]
                  refine' wpAnyH_take (i := 29) (oi := _) (v := _) ?hi38 (by kernel_rfl) (by kernel_rfl) (by kernel_rfl) ?hQ38 (Or.inl ⟨?hw38, ?hy38⟩) hS ?rest38
                  case hi38 => simp only [List.getElem?_toArray, List.getElem?_cons_succ, List.getElem?_cons_zero]; rfl
                  case hQ38 => exact fun _ _ _ h => h
                  case hw38 => rfl
                  case hy38 => intro W' hS'; have hsum := HSUM.out; have hsz : ¬ 9223372036854775807 < 6 + (oneB r).size := (by rw [oneB_size]; decide); go_simp; with_reducible rfl
                  try simp only [Act.put, List.setIfInBounds_toArray, List.set_cons_zero, List.set_cons_succ]
                  refine' wpAnyH_take (i := 30) (oi := _) (v := _) ?hi39 (by kernel_rfl) (by kernel_rfl) (by kernel_rfl) ?hQ39 (Or.inl ⟨?hw39, ?hy39⟩) hS ?rest39
                  case hi39 => simp only [List.getElem?_toArray, List.getElem?_cons_succ, List.getElem?_cons_zero]; rfl
                  case hQ39 => exact fun _ _ _ h => h
                  case hw39 => rfl
                  case hy39 => intro W' hS'; have s2 : (s.toList == s.toList) = true := (by simp); go_simp; with_reducible rfl
                  try simp only [Act.put, List.setIfInBounds_toArray, List.set_cons_zero, List.set_cons_succ]
                  refine' wpAnyH_take (i := 31) (oi := _) (v := _) ?hi40 (by kernel_rfl) (by kernel_rfl) (by kernel_rfl) ?hQ40 (Or.inl ⟨?hw40, ?hy40⟩) hS ?rest40
                  case hi40 => simp only [List.getElem?_toArray, List.getElem?_cons_succ, List.getElem?_cons_zero]; rfl
                  case hQ40 => exact fun _ _ _ h => h
                  case hw40 => rfl
                  case hy40 => intro W' hS'; go_simp; with_reducible rfl
                  try simp only [Act.put, List.setIfInBounds_toArray, List.set_cons_zero, List.set_cons_succ]
                  refine' wpAnyH_take (i := 32) (oi := _) (v := _) ?hi41 (by kernel_rfl) (by kernel_rfl) (by kernel_rfl) ?hQ41 (Or.inl ⟨?hw41, ?hy41⟩) hS ?rest41
                  case hi41 => simp only [List.getElem?_toArray, List.getElem?_cons_succ, List.getElem?_cons_zero]; rfl
                  case hQ41 => exact fun _ _ _ h => h
                  case hw41 => rfl
                  case hy41 => intro W' hS'; go_simp; with_reducible rfl
                  try simp only [Act.put, List.setIfInBounds_toArray, List.set_cons_zero, List.set_cons_succ]
                  refine wpAnyH_done (by kernel_rfl) ?_ _
                  go_wp2_with fail
                  go_ret
                  exact ⟨rfl, hS.w⟩

theorem bidBack_any (b : Bd) (hb4 : OkB b) (z : Int) (w : World) :
    Calls Tryz.prog 4 #[bdv b, .int .i64 z] w fun e W' => e = .returned (.bool true) ∧ Below w.heap.size w W' := by
  by_cases hm : maybeB (plainB b)
  · by_cases h0 : z < 0
    · exact back_low b hb4 z hm h0 w
    by_cases h8 : 8 < z
    · exact back_high b hb4 z hm h8 w
    by_cases h8e : z = 8
    · subst h8e
      exact back_full b hb4 hm w
    have hr : 2 ≤ b.ro ∧ b.ro ≤ 3 := hm.1
    obtain ⟨n, rfl⟩ : ∃ n : Nat, z = (n : Int) := ⟨z.toNat, by omega⟩
    exact back_good b hb4 b.ro.toNat n (by omega) (by omega) (by omega) hm w
  · exact back_check b hb4 z hm w
end Go.Proofs.YtiibeahgleaonaaGreat

namespace Go.Proofs.YtiibeahgleaonaaGreat
open Go.ChangeShapes Go.WideShapes Go.ChangeAt Go.RowKit Go.Deep
open Go.ChangeMaps (open_string)

set_option maxRecDepth 100000 in
theorem bidBack_lifted (os : Os) (started : os.Started) (H : Type) (enc : TypeId × Value → H) :
    ReturnsInHanded {} Tryz.checked os 4 .any (Rows.bidBackSpec.pre6 enc Tryz.prog Tryz.f4 Rows.bidBackRow.domain false) (Rows.bidBackSpec.post enc Tryz.prog Tryz.f4 false true false false) := by
  refine returnsInHanded_of_change_sized (C := Tryz.checked) Tryz.own started (by kernel_rfl) Tryz.func4
    (ChangeSpec.witness6 (enc := enc) (C := Tryz.checked) false ⟨#[], #[.agg #[.int .i64 0, .int .i64 0, .int .i64 0, .int .i64 0, .int .i64 0, .int .u64 0, .int .u64 0, .int .u64 0, .int .u64 0, .string ⟨#[]⟩, .int .u64 0, .int .u64 0, .int .u64 0, .int .u64 0, .int .i64 0, .string ⟨#[]⟩], .int .i64 0], []⟩ 8 (by kernel_rfl) (by kernel_rfl) (by kernel_rfl) (by kernel_rfl)) ?_
  intro W base args ds gs before hval0 hW hcnd hsz0 _
  have hval : ∀ (j : Nat) t v, Tryz.f4.params[j]? = some t → args[j]? = some v → Value.okWide Tryz.prog W .any base t v := hval0
  have hW' := hW
  obtain ⟨p, q, hA0, hV, rfl, hfz, hnd⟩ := hW
  have hA : DataW.TrodAll enc Tryz.prog W 0 (fun _ => true) true Tryz.f4.params.toList args.toList ds p := hA0
  have hsz : (DataW.weightsEach Tryz.prog (Tryz.f4.params.toList ++ Rows.bidBackSpec.plain.varTypes Tryz.prog) (ds ++ gs)).all (· ≤ reachBytes) = true := hsz0
  rw [Tryz.params4] at hA hval hsz
  obtain ⟨v0, v1, d0, d1, p0, p1, rfl, rfl, rfl, h0, h1⟩ := trodAll_two hA
  obtain ⟨rfl, rfl⟩ := trodVars_none hV
  have k0 := h0
  have k1 := h1
  have lt0 : ∀ x ∈ p0, x.block < W.heap.size := by obtain ⟨m, hm⟩ := k0; exact DataW.trod_lt m _ _ _ hm
  have lt1 : ∀ x ∈ p1, x.block < W.heap.size := by obtain ⟨m, hm⟩ := k1; exact DataW.trod_lt m _ _ _ hm
  obtain ⟨i0, rfl, hx0⟩ := open_bid (hval 0 28 v0 rfl rfl) h0
  obtain ⟨z1, rfl, _, _, wf1⟩ := open_int Tryz.underlying3 (hval 1 3 v1 rfl rfl) h1
  obtain ⟨zl1, zh1⟩ := wf_i64 wf1
  clear hA0 hval0
  refine (bidBack_any i0 hx0 z1 W).mono fun e W' ⟨he, bel⟩ => ?_
  subst he
  exact ⟨_, rfl, _, _, _, [], _, [], hW', trodAll_mk1 (shut_bool Tryz.underlying4 _), (trodAll_mk2 (Below.trod Tryz.laidOut (by kernel_rfl) (of_decide_eq_true (by kernel_rfl)) k0 bel lt0) (Below.trod Tryz.laidOut (by kernel_rfl) (of_decide_eq_true (by kernel_rfl)) k1 bel lt1)), rfl, bel.frame _, fun h => by cases h⟩

theorem bidBack_over : Rows.bidBackRow.holds Tryz.pinned (OpenSpec.ofChange Rows.bidBackSpec) :=
  OpenClaim.holds_of_wide 4 Tryz.f4 rfl rfl rfl rfl rfl rfl rfl ⟨rfl, rfl, rfl, rfl, rfl⟩ rfl rfl rfl rfl rfl (by kernel_rfl) Tryz.func4 (by kernel_rfl)
    (of_decide_eq_true (by kernel_rfl)) (by unfold Func.isWrapper; first | (rw [if_pos (by decide +kernel)]; kernel_rfl) | (rw [if_neg (by decide +kernel)]; exact ⟨rfl, rfl⟩))
    (fun os started H enc _ => bidBack_lifted os started H enc)

/-- The statement. -/
theorem bidBack_proved : Rows.BidBackSaid := bidBack_over
end Go.Proofs.YtiibeahgleaonaaGreat
