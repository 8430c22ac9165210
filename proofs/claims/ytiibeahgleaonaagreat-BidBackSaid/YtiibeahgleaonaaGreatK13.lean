/-
  A whole row is stored: what becomes of blocks.
  Whether a bid is valid: bid's Valid, and the reference's.
  Which bid is better: bid's Better.
  More than was asked for may not be.
  What all readings of arguments share.
  A slice of octets among the arguments.
  A wide number among the arguments is four words.
  An ask, and a bid, among the arguments.
  A bid is signed: bid's Sign.
-/
import Derived.Laws.Rows
import Derived.Laws.CopyOwn
import Derived.Outline
import Derived.Test.YtiibeahgleaonaaGreatRows
import Derived.ProofKit
import Derived.OpenShut
import Derived.Laws.IdiomArrays
import Derived.Lib.SmallJoins
import Derived.Below
import Derived.Deep.Slices
import Derived.SizedLaws
import Derived.Carry
import Derived.ChangeMaps5
import Derived.JoinedCond
import Derived.Deep.Fields
import Derived.Great.BuildSlice
import Derived.WalkSpells
import Derived.Deep.Cut
import Derived.Test.YtiibeahgleaonaaGreatK12
namespace Go.Proofs.YtiibeahgleaonaaGreat
open Go.RowKit Go.Shelf

theorem Blk.row {w : World} {g : Nat} {t : TypeId} {old : List Value} (hg : Blk w g t old) (vs : List Value) : Blk (w.setRow g vs.toArray) g t vs := setRow_heap w g _ _ t _ hg
theorem Blk.rowO {w : World} {B g : Nat} {t : TypeId} {vs : List Value} (h : Blk w B t vs) (cs : Array Value) (hne : B ≠ g) : Blk (w.setRow g cs) B t vs := (setRow_other w g B cs hne).trans h
/-- A load, carried out. -/
theorem exec_load {P : Program} {ρ : Operand → Value} {o : Oper} (ty : TypeId) (x : Operand) (ho : o.op = .load ty x) (v : Value) (w : World) (hrun : (Instr.loadAt ty (ρ x)).run P w = .ok v w) : (execOp ρ o).run P w = .ok (.value v) w := by
  unfold execOp
  simp only [ho, Sem.run_bind, hrun, Result.andThen_ok]
  rfl
end Go.Proofs.YtiibeahgleaonaaGreat

namespace Go.Proofs.YtiibeahgleaonaaGreat
open Go.RowKit Go.Shelf

def validB (b : Bd) (root : ByteArray) : Bool := decide (maybeB b) && verB root (textL b) b.sg

set_option maxRecDepth 100000 in
set_option maxHeartbeats 4000000 in
theorem valid8_any (b : Bd) (hb4 : OkB b) (root : ByteArray) (w : World) :
    Calls Tryz.prog 12 #[bdv b, .string root] w fun e W' => e = .returned (.bool (validB b root)) ∧ Below w.heap.size w W' := by
  have hmx : Tryz.prog.follows .mixedOrders = true := by kernel_rfl
  have HC := Lib.hid (check_any b hb4)
  have HT := Lib.hid (text8_any b hb4)
  have kB := Blk.new w 28 (bdc b)
  have hB := chain0 w (.cells (bdc b).toArray 28)
  by_cases hm : maybeB b
  · have HE := Lib.hid (errB_zero hm)
    have HV : Hid (validB b root = verB root (textL b) b.sg) := Lib.hid (by unfold validB; rw [decide_eq_true hm, Bool.true_and])
    have HL := Lib.hid (textL_len b)
    clear hm
    generalize textL b = tl at *
    have HR := Lib.hid (fun tx W (h : BSl 0 W.heap.size W tx tl) => verifyB_any root tl tx b.sg (by have := HL.out; omega) W h)
    generalize verB root tl b.sg = vb at *
    go_enter Tryz.func12, Tryz.ntmps12
    go_upto_region 3 with (first
      | (refine wpList_loadIf 28 (.tmp 2) rfl _ rfl rfl (bdv b) (load_bid kB) ?_)
      | (go_at_call 8; refine (HC.out _).mono ?_; rw [HE.out]; rintro e W1 ⟨rfl, hb1⟩; replace kB := kB.below hb1 kB.lt; replace hB := chain hB hb1; clear hb1))
    refine wp_region_held_drew (S := fun W => Blk W w.heap.size 28 (bdc b)) hmx kB ?_
    intro hS
    replace hB := hB.drew
    clear kB
    generalize World.drew _ = Y at *
    refine' wpAnyH_take (i := 0) (oi := _) (v := _) ?hi1 (by kernel_rfl) (by kernel_rfl) (by kernel_rfl) ?hQ1 (Or.inl ⟨?hw1, ?hy1⟩) hS ?rest1
    case hi1 => simp only [List.getElem?_toArray, List.getElem?_cons_zero]; rfl
    case hQ1 => exact fun _ _ _ h => h
    case hw1 => rfl
    case hy1 => intro W' hS'; go_simp; with_reducible rfl
    try simp only [Act.put, List.setIfInBounds_toArray, List.set_cons_zero, List.set_cons_succ]
    refine' wpAnyH_take (i := 1) (oi := _) (v := bdv b) ?hi2 (by kernel_rfl) (by kernel_rfl) (by kernel_rfl) ?hQ2 (Or.inl ⟨?hw2, ?hy2⟩) hS ?rest2
    case hi2 => simp only [List.getElem?_toArray, List.getElem?_cons_succ, List.getElem?_cons_zero]; rfl
    case hQ2 => exact fun _ _ _ h => h
    case hw2 => rfl
    case hy2 => exact fun W' hS' => exec_load 28 (.tmp 2) rfl _ W' (load_bid hS')
    try simp only [Act.put, List.setIfInBounds_toArray, List.set_cons_zero, List.set_cons_succ]
    refine' wpAnyH_take (i := 3) (oi := _) (v := _) ?hi3 (by kernel_rfl) (by kernel_rfl) (by kernel_rfl) ?hQ3 (Or.inl ⟨?hw3, ?hy3⟩) hS ?rest3
    case hi3 => simp only [List.getElem?_toArray, List.getElem?_cons_succ, List.getElem?_cons_zero]; rfl
    case hQ3 => exact fun _ _ _ h => h
    case hw3 => rfl
    case hy3 => intro W' hS'; go_simp; with_reducible rfl
    try simp only [Act.put, List.setIfInBounds_toArray, List.set_cons_zero, List.set_cons_succ]
    refine' wpAnyH_take (i := 4) (oi := _) (v := _) ?hi4 (by kernel_rfl) (by kernel_rfl) (by kernel_rfl) ?hQ4 (Or.inl ⟨?hw4, ?hy4⟩) hS ?rest4
    case hi4 => simp only [List.getElem?_toArray, List.getElem?_cons_succ, List.getElem?_cons_zero]; rfl
    case hQ4 => exact fun _ _ _ h => h
    case hw4 => rfl
    case hy4 => intro W' hS'; have c15 := (hS'.cell 15).trans rfl; go_simp; with_reducible rfl
    try simp only [Act.put, List.setIfInBounds_toArray, List.set_cons_zero, List.set_cons_succ]
    refine wpAnyH_ready (rs := [2]) (by kernel_rfl) (by simp) ?_
    refine' AllReadyH.cons (o := _) ?ho5 (fun K hK => ?st5) AllReadyH.nil
    case ho5 => simp only [List.getElem?_toArray, List.getElem?_cons_succ, List.getElem?_cons_zero]; rfl
    case st5 =>
      go_simp
      refine (HT.out _).mono ?_
      rintro e Y1 ⟨v1, rfl, hv1, hb⟩
      refine hK.out _ _ (hS.below hb hS.lt) (fun hS => ?_)
      clear hK K
      try simp only [Act.put, List.setIfInBounds_toArray, List.set_cons_zero, List.set_cons_succ]
      replace hB := chain hB hb
      clear hb
      refine wpAnyH_ready (rs := [5]) (by kernel_rfl) (by simp) ?_
      refine' AllReadyH.cons (o := _) ?ho6 (fun K hK => ?st6) AllReadyH.nil
      case ho6 => simp only [List.getElem?_toArray, List.getElem?_cons_succ, List.getElem?_cons_zero]; rfl
      case st6 =>
        go_simp
        refine (HR.out _ _ hv1).mono ?_
        rintro e Y2 ⟨n2, rfl, hb⟩
        refine hK.out _ _ (hS.below hb hS.lt) (fun hS => ?_)
        clear hK K
        try simp only [Act.put, List.setIfInBounds_toArray, List.set_cons_zero, List.set_cons_succ]
        replace hB := chain hB hb
        clear hb
        refine' wpAnyH_take (i := 6) (oi := _) (v := _) ?hi7 (by kernel_rfl) (by kernel_rfl) (by kernel_rfl) ?hQ7 (Or.inl ⟨?hw7, ?hy7⟩) hS ?rest7
        case hi7 => simp only [List.getElem?_toArray, List.getElem?_cons_succ, List.getElem?_cons_zero]; rfl
        case hQ7 => exact fun _ _ _ h => h
        case hw7 => rfl
        case hy7 => intro W' hS'; go_simp; with_reducible rfl
        try simp only [Act.put, List.setIfInBounds_toArray, List.set_cons_zero, List.set_cons_succ]
        refine' wpAnyH_take (i := 7) (oi := _) (v := _) ?hi8 (by kernel_rfl) (by kernel_rfl) (by kernel_rfl) ?hQ8 (Or.inl ⟨?hw8, ?hy8⟩) hS ?rest8
        case hi8 => simp only [List.getElem?_toArray, List.getElem?_cons_succ, List.getElem?_cons_zero]; rfl
        case hQ8 => exact fun _ _ _ h => h
        case hw8 => rfl
        case hy8 => intro W' hS'; go_simp; with_reducible rfl
        try simp only [Act.put, List.setIfInBounds_toArray, List.set_cons_zero, List.set_cons_succ]
        refine' wpAnyH_take (i := 8) (oi := _) (v := _) ?hi9 (by kernel_rfl) (by kernel_rfl) (by kernel_rfl) ?hQ9 (Or.inl ⟨?hw9, ?hy9⟩) hS ?rest9
        case hi9 => simp only [List.getElem?_toArray, List.getElem?_cons_succ, List.getElem?_cons_zero]; rfl
        case hQ9 => exact fun _ _ _ h => h
        case hw9 => rfl
        case hy9 => intro W' hS'; go_simp; with_reducible rfl
        try simp only [Act.put, List.setIfInBounds_toArray, List.set_cons_zero, List.set_cons_succ]
        refine' wpAnyH_take (i := 9) (oi := _) (v := _) ?hi10 (by kernel_rfl) (by kernel_rfl) (by kernel_rfl) ?hQ10 (Or.inl ⟨?hw10, ?hy10⟩) hS ?rest10
        case hi10 => simp only [List.getElem?_toArray, List.getElem?_cons_succ, List.getElem?_cons_zero]; rfl
        case hQ10 => exact fun _ _ _ h => h
        case hw10 => rfl
        case hy10 => intro W' hS'; go_simp; with_reducible rfl
        try simp only [Act.put, List.setIfInBounds_toArray, List.set_cons_zero, List.set_cons_succ]
        refine' wpAnyH_take (i := 10) (oi := _) (v := _) ?hi11 (by kernel_rfl) (by kernel_rfl) (by kernel_rfl) ?hQ11 (Or.inl ⟨?hw11, ?hy11⟩) hS ?rest11
        case hi11 => simp only [List.getElem?_toArray, List.getElem?_cons_succ, List.getElem?_cons_zero]; rfl
        case hQ11 => exact fun _ _ _ h => h
        case hw11 => rfl
        case hy11 => intro W' hS'; go_simp; with_reducible rfl
        try simp only [Act.put, List.setIfInBounds_toArray, List.set_cons_zero, List.set_cons_succ]
        refine wpAnyH_done (by kernel_rfl) ?_ _
        go_wp2_with fail
        go_ret
        exact ⟨by rw [HV.out]; rfl, hB⟩
  · have HE := Lib.hid (errB_bad hm)
    have HV : Hid (validB b root = false) := Lib.hid (by unfold validB; rw [decide_eq_false hm, Bool.false_and])
    clear hm HT
    go_enter Tryz.func12, Tryz.ntmps12
    go_wp2_with (first
      | (refine wpList_loadIf 28 (.tmp 2) rfl _ rfl rfl (bdv b) (load_bid kB) ?_)
      | (go_at_call 8; refine (HC.out _).mono ?_; rw [HE.out]; rintro e W1 ⟨rfl, hb1⟩; replace hB := chain hB hb1))
    go_ret
    exact ⟨by rw [HV.out]; rfl, hB⟩

set_option maxRecDepth 100000 in
set_option maxHeartbeats 4000000 in
theorem refValid8_any (b : Bd) (hb4 : OkB b) (root : ByteArray) (w : World) :
    Calls Tryz.prog 13 #[bdv b, .string root] w fun e W' => e = .returned (.bool (validB b root)) ∧ Below w.heap.size w W' := by
  have hmx : Tryz.prog.follows .mixedOrders = true := by kernel_rfl
  have HC := Lib.hid (refBid_any b hb4)
  have HT := Lib.hid (refText8_any b hb4)
  have kB := Blk.new w 28 (bdc b)
  have hB := chain0 w (.cells (bdc b).toArray 28)
  by_cases hm : maybeB b
  · have HE := Lib.hid (errB_zero hm)
    have HV : Hid (validB b root = verB root (textL b) b.sg) := Lib.hid (by unfold validB; rw [decide_eq_true hm, Bool.true_and])
    have HL := Lib.hid (textL_len b)
    clear hm
    generalize textL b = tl at *
    have HR := Lib.hid (fun tx W (h : BSl 0 W.heap.size W tx tl) => refVerifyB_any root tl tx b.sg (by have := HL.out; omega) W h)
    generalize verB root tl b.sg = vb at *
    go_enter Tryz.func13, Tryz.ntmps13
    go_upto_region 3 with (first
      | (refine wpList_loadIf 28 (.tmp 2) rfl _ rfl rfl (bdv b) (load_bid kB) ?_)
      | (go_at_call 9; refine (HC.out _).mono ?_; rw [HE.out]; rintro e W1 ⟨rfl, hb1⟩; replace kB := kB.below hb1 kB.lt; replace hB := chain hB hb1; clear hb1))
    refine wp_region_held_drew (S := fun W => Blk W w.heap.size 28 (bdc b)) hmx kB ?_
    intro hS
    replace hB := hB.drew
    clear kB
    generalize World.drew _ = Y at *
    refine' wpAnyH_take (i := 0) (oi := _) (v := _) ?hi12 (by kernel_rfl) (by kernel_rfl) (by kernel_rfl) ?hQ12 (Or.inl ⟨?hw12, ?hy12⟩) hS ?rest12
    case hi12 => simp only [List.getElem?_toArray, List.getElem?_cons_zero]; rfl
    case hQ12 => exact fun _ _ _ h => h
    case hw12 => rfl
    case hy12 => intro W' hS'; go_simp; with_reducible rfl
    try simp only [Act.put, List.setIfInBounds_toArray, List.set_cons_zero, List.set_cons_succ]
    refine' wpAnyH_take (i := 1) (oi := _) (v := bdv b) ?hi13 (by kernel_rfl) (by kernel_rfl) (by kernel_rfl) ?hQ13 (Or.inl ⟨?hw13, ?hy13⟩) hS ?rest13
    case hi13 => simp only [List.getElem?_toArray, List.getElem?_cons_succ, List.getElem?_cons_zero]; rfl
    case hQ13 => exact fun _ _ _ h => h
    case hw13 => rfl
    case hy13 => exact fun W' hS' => exec_load 28 (.tmp 2) rfl _ W' (load_bid hS')
    try simp only [Act.put, List.setIfInBounds_toArray, List.set_cons_zero, List.set_cons_succ]
    refine' wpAnyH_take (i := 3) (oi := _) (v := _) ?hi14 (by kernel_rfl) (by kernel_rfl) (by kernel_rfl) ?hQ14 (Or.inl ⟨?hw14, ?hy14⟩) hS ?rest14
    case hi14 => simp only [List.getElem?_toArray, List.getElem?_cons_succ, List.getElem?_cons_zero]; rfl
    case hQ14 => exact fun _ _ _ h => h
    case hw14 => rfl
    case hy14 => intro W' hS'; go_simp; with_reducible rfl
    try simp only [Act.put, List.setIfInBounds_toArray, List.set_cons_zero, List.set_cons_succ]
    refine' wpAnyH_take (i := 4) (oi := _) (v := _) ?hi15 (by kernel_rfl) (by kernel_rfl) (by kernel_rfl) ?hQ15 (Or.inl ⟨?hw15, ?hy15⟩) hS ?rest15
    case hi15 => simp only [List.getElem?_toArray, List.getElem?_cons_succ, List.getElem?_cons_zero]; rfl
    case hQ15 => exact fun _ _ _ h => h
    case hw15 => rfl
    case hy15 => intro W' hS'; have c15 := (hS'.cell 15).trans rfl; go_simp; with_reducible rfl
    try simp only [Act.put, List.setIfInBounds_toArray, List.set_cons_zero, List.set_cons_succ]
    refine wpAnyH_ready (rs := [2]) (by kernel_rfl) (by simp) ?_
    refine' AllReadyH.cons (o := _) ?ho16 (fun K hK => ?st16) AllReadyH.nil
    case ho16 => simp only [List.getElem?_toArray, List.getElem?_cons_succ, List.getElem?_cons_zero]; rfl
    case st16 =>
      go_simp
      refine (HT.out _).mono ?_
      rintro e Y1 ⟨v1, rfl, hv1, hb⟩
      refine hK.out _ _ (hS.below hb hS.lt) (fun hS => ?_)
      clear hK K
      try simp only [Act.put, List.setIfInBounds_toArray, List.set_cons_zero, List.set_cons_succ]
      replace hB := chain hB hb
      clear hb
      refine wpAnyH_ready (rs := [5]) (by kernel_rfl) (by simp) ?_
      refine' AllReadyH.cons (o := _) ?ho17 (fun K hK => ?st17) AllReadyH.nil
      case ho17 => simp only [List.getElem?_toArray, List.getElem?_cons_succ, List.getElem?_cons_zero]; rfl
      case st17 =>
        go_simp
        refine (HR.out _ _ hv1).mono ?_
        rintro e Y2 ⟨n2, rfl, hb⟩
        refine hK.out _ _ (hS.below hb hS.lt) (fun hS => ?_)
        clear hK K
        try simp only [Act.put, List.setIfInBounds_toArray, List.set_cons_zero, List.set_cons_succ]
        replace hB := chain hB hb
        clear hb
        refine' wpAnyH_take (i := 6) (oi := _) (v := _) ?hi18 (by kernel_rfl) (by kernel_rfl) (by kernel_rfl) ?hQ18 (Or.inl ⟨?hw18, ?hy18⟩) hS ?rest18
        case hi18 => simp only [List.getElem?_toArray, List.getElem?_cons_succ, List.getElem?_cons_zero]; rfl
        case hQ18 => exact fun _ _ _ h => h
        case hw18 => rfl
        case hy18 => intro W' hS'; go_simp; with_reducible rfl
        try simp only [Act.put, List.setIfInBounds_toArray, List.set_cons_zero, List.set_cons_succ]
        refine' wpAnyH_take (i := 7) (oi := _) (v := _) ?hi19 (by kernel_rfl) (by kernel_rfl) (by kernel_rfl) ?hQ19 (Or.inl ⟨?hw19, ?hy19⟩) hS ?rest19
        case hi19 => simp only [List.getElem?_toArray, List.getElem?_cons_succ, List.getElem?_cons_zero]; rfl
        case hQ19 => exact fun _ _ _ h => h
        case hw19 => rfl
        case hy19 => intro W' hS'; go_simp; with_reducible rfl
        try simp only [Act.put, List.setIfInBounds_toArray, List.set_cons_zero, List.set_cons_succ]
        refine' wpAnyH_take (i := 8) (oi := _) (v := _) ?hi20 (by kernel_rfl) (by kernel_rfl) (by kernel_rfl) ?hQ20 (Or.inl ⟨?hw20, ?hy20⟩) hS ?rest20
        case hi20 => simp only [List.getElem?_toArray, List.getElem?_cons_succ, List.getElem?_cons_zero]; rfl
        case hQ20 => exact fun _ _ _ h => h
        case hw20 => rfl
        case hy20 => intro W' hS'; go_simp; with_reducible rfl
        try simp only [Act.put, List.setIfInBounds_toArray, List.set_cons_zero, List.set_cons_succ]
        refine' wpAnyH_take (i := 9) (oi := _) (v := _) ?hi21 (by kernel_rfl) (by kernel_rfl) (by kernel_rfl) ?hQ21 (Or.inl ⟨?hw21, ?hy21⟩) hS ?rest21
        case hi21 => simp only [List.getElem?_toArray, List.getElem?_cons_succ, List.getElem?_cons_zero]; rfl
        case hQ21 => exact fun _ _ _ h => h
        case hw21 => rfl
        case hy21 => intro W' hS'; go_simp; with_reducible rfl
        try simp only [Act.put, List.setIfInBounds_toArray, List.set_cons_zero, List.set_cons_succ]
        refine' wpAnyH_take (i := 10) (oi := _) (v := _) ?hi22 (by kernel_rfl) (by kernel_rfl) (by kernel_rfl) ?hQ22 (Or.inl ⟨?hw22, ?hy22⟩) hS ?rest22
        case hi22 => simp only [List.getElem?_toArray, List.getElem?_cons_succ, List.getElem?_cons_zero]; rfl
        case hQ22 => exact fun _ _ _ h => h
        case hw22 => rfl
        case hy22 => intro W' hS'; go_simp; with_reducible rfl
        try simp only [Act.put, List.setIfInBounds_toArray, List.set_cons_zero, List.set_cons_succ]
        refine wpAnyH_done (by kernel_rfl) ?_ _
        go_wp2_with fail
        go_ret
        exact ⟨by rw [HV.out]; rfl, hB⟩
  · have HE := Lib.hid (errB_bad hm)
    have HV : Hid (validB b root = false) := Lib.hid (by unfold validB; rw [decide_eq_false hm, Bool.false_and])
    clear hm HT
    go_enter Tryz.func13, Tryz.ntmps13
    go_wp2_with (first
      | (refine wpList_loadIf 28 (.tmp 2) rfl _ rfl rfl (bdv b) (load_bid kB) ?_)
      | (go_at_call 9; refine (HC.out _).mono ?_; rw [HE.out]; rintro e W1 ⟨rfl, hb1⟩; replace hB := chain hB hb1))
    go_ret
    exact ⟨by rw [HV.out]; rfl, hB⟩
end Go.Proofs.YtiibeahgleaonaaGreat

namespace Go.Proofs.YtiibeahgleaonaaGreat
open Go.RowKit Go.Shelf

set_option maxRecDepth 100000 in
set_option maxHeartbeats 2000000 in
theorem better_any (a b : Bd) (ha : OkB a) (hb : OkB b) (w : World) :
    Calls Tryz.prog 14 #[bdv a, bdv b] w fun e W' => e = .returned (.bool (betB a b)) ∧ Below w.heap.size w W' := by
  have HV := Lib.hid (fun W => cmp_any ha.b hb.b W)
  have kA := (Blk.new w 28 (bdc a)).alloc (.cells (bdc b).toArray 28)
  have kB : Blk ((w.alloc (.cells (bdc a).toArray 28)).alloc (.cells (bdc b).toArray 28)) (w.heap.size + 1) 28 (bdc b) := Blk.new' (by simp)
  have hB := chainA (chain0 w (.cells (bdc a).toArray 28)) (.cells (bdc b).toArray 28)
  rcases Nat.lt_trichotomy (val a.b0 a.b1 a.b2 a.b3) (val b.b0 b.b1 b.b2 b.b3) with h | h | h
  · have hc : cmpN (val a.b0 a.b1 a.b2 a.b3) (val b.b0 b.b1 b.b2 b.b3) = -1 := if_pos h
    have HX : Hid (betB a b = false) := Lib.hid (decide_eq_false (by omega))
    rw [hc] at HV
    clear h hc
    go_enter Tryz.func14, Tryz.ntmps14
    go_wp2_with (go_at_call 24; refine (HV.out _).mono ?_; rintro e W1 ⟨rfl, hb1⟩; replace hB := chain hB hb1)
    go_ret
    exact ⟨by rw [HX.out]; rfl, hB⟩
  · have hc : cmpN (val a.b0 a.b1 a.b2 a.b3) (val b.b0 b.b1 b.b2 b.b3) = 0 := by unfold cmpN; rw [if_neg (by omega), if_neg (by omega)]
    rw [hc] at HV
    by_cases hr : a.ro < b.ro
    · have HX : Hid (betB a b = true) := Lib.hid (decide_eq_true (Or.inr ⟨h, hr⟩))
      clear h hc
      go_enter Tryz.func14, Tryz.ntmps14
      go_wp2_with (go_at_call 24; refine (HV.out _).mono ?_; rintro e W1 ⟨rfl, hb1⟩; replace hB := chain hB hb1; replace kA := kA.below hb1 kA.lt; replace kB := kB.below hb1 kB.lt; have ca := (kA.cell 0).trans rfl; have cb := (kB.cell 0).trans rfl)
      go_ret
      exact ⟨by rw [HX.out]; rfl, hB⟩
    · have HX : Hid (betB a b = false) := Lib.hid (decide_eq_false (by omega))
      have hd : decide (a.ro < b.ro) = false := by simpa using hr
      clear h hc
      go_enter Tryz.func14, Tryz.ntmps14
      go_wp2_with (go_at_call 24; refine (HV.out _).mono ?_; rintro e W1 ⟨rfl, hb1⟩; replace hB := chain hB hb1; replace kA := kA.below hb1 kA.lt; replace kB := kB.below hb1 kB.lt; have ca := (kA.cell 0).trans rfl; have cb := (kB.cell 0).trans rfl)
      go_ret
      exact ⟨by rw [HX.out]; rfl, hB⟩
  · have hc : cmpN (val a.b0 a.b1 a.b2 a.b3) (val b.b0 b.b1 b.b2 b.b3) = 1 := by unfold cmpN; rw [if_neg (by omega), if_pos h]
    have HX : Hid (betB a b = true) := Lib.hid (decide_eq_true (Or.inl h))
    rw [hc] at HV
    clear h hc
    go_enter Tryz.func14, Tryz.ntmps14
    go_wp2_with (go_at_call 24; refine (HV.out _).mono ?_; rintro e W1 ⟨rfl, hb1⟩; replace hB := chain hB hb1)
    go_ret
    exact ⟨by rw [HX.out]; rfl, hB⟩
end Go.Proofs.YtiibeahgleaonaaGreat

namespace Go.Proofs.YtiibeahgleaonaaGreat
open Go.RowKit Go.Shelf

theorem num8_any (x : Int) (w : World) : Calls Tryz.prog 5 #[.int .i64 x] w fun e W' => e = .returned (.int .i64 x) ∧ w = W' := by
  go_enter Tryz.func5, Tryz.ntmps5
  go_wp2
  go_ret
  exact ⟨rfl, rfl⟩
def liveA : Ak := ⟨0, 0, 0, 0, 5, 0, 0, 0, ⟨#[120]⟩⟩
def liveB : Bd := ⟨2, liveA, 6, 0, 0, 0, 0, ⟨#[]⟩⟩
theorem liveA_may : maybeA liveA := ⟨⟨by decide, by decide⟩, ⟨by decide, by decide⟩, ⟨by decide, by decide⟩, ⟨by decide, by decide⟩, by decide, by decide, by decide⟩
theorem liveB_not : ¬ maybeB liveB := fun h => absurd h.2.2.2.1 (by simp [liveB, liveA, val])
theorem ok4_little {n : Nat} (h : n < 100) : Ok4 n 0 0 0 := ⟨by unfold M; omega, by unfold M; omega, by unfold M; omega, by unfold M; omega⟩

set_option maxRecDepth 100000 in
set_option maxHeartbeats 2000000 in
theorem alive8_any (w : World) : Calls Tryz.prog 15 #[] w fun e W' => e = .returned (.bool true) ∧ Below w.heap.size w W' := by
  have H0 : Hid (∀ W, Calls Tryz.prog 6 #[akv liveA] W fun e W' => e = .returned (.int .i64 0) ∧ Below W.heap.size W W') := Lib.hid fun W => by
    have := checkAsk_any liveA W
    rw [errA_zero liveA_may] at this
    exact this
  have H1 : Hid (∀ W, Calls Tryz.prog 8 #[bdv liveB] W fun e W' => e = .returned (.int .i64 39) ∧ Below W.heap.size W W') := Lib.hid fun W => by
    have := check_any liveB ⟨ok4_little (by decide), ok4_little (by decide)⟩ W
    rw [errB_bad liveB_not] at this
    exact this
  have kB := Blk.new w 26 [.int .i64 0, .int .i64 0, .int .i64 0, .int .i64 0, .int .u64 5, .int .u64 0, .int .u64 0, .int .u64 0, .string ⟨#[120]⟩]
  have hB := chain0 w (.cells #[.int .i64 0, .int .i64 0, .int .i64 0, .int .i64 0, .int .u64 5, .int .u64 0, .int .u64 0, .int .u64 0, .string ⟨#[120]⟩] 26)
  go_enter Tryz.func15, Tryz.ntmps15
  go_wp2_with (first
    | (go_at_call 6; refine (H0.out _).mono ?_; rintro e W1 ⟨rfl, hb⟩; replace kB := kB.below hb kB.lt; replace hB := chain hB hb; obtain ⟨c0, c1, c2, c3, c4, c5, c6, c7, c8⟩ := Blk.c9 kB; clear hb)
    | (go_at_call 8; refine (H1.out _).mono ?_; rintro e W2 ⟨rfl, hb2⟩; replace hB := chain hB hb2))
  go_ret
  exact ⟨rfl, hB⟩
end Go.Proofs.YtiibeahgleaonaaGreat

namespace Go.Proofs.YtiibeahgleaonaaGreat
open Go.ChangeShapes Go.WideShapes Go.ChangeAt Go.RowKit

theorem Tryz.own : ownKnob Tryz.prog.godebug = none := by kernel_rfl
theorem Tryz.laidOut : laidOutB Tryz.prog = true := by kernel_rfl
theorem wf_i64 {x : Int} (h : (Lit.int .i64 x).wf = true) : -9223372036854775808 ≤ x ∧ x ≤ 9223372036854775807 := by
  simp [Lit.wf, IntKind.min, IntKind.max, IntKind.bits, IntKind.signed] at h
  omega

theorem list_of {α : Type} {Q : Nat → α → Prop} : ∀ {n : Nat}, (∀ i, i < n → ∃ x, Q i x) → ∃ l : List α, l.length = n ∧ ∀ k x, l[k]? = some x → Q k x
  | 0, _ => ⟨[], rfl, fun k x h => by simp at h⟩
  | n + 1, h => by
    obtain ⟨l, hl, hq⟩ := list_of (n := n) (fun i hi => h i (by omega))
    obtain ⟨y, hy⟩ := h n (by omega)
    refine ⟨l ++ [y], by simp [hl], fun k x hx => ?_⟩
    by_cases hk : k < n
    · rw [List.getElem?_append_left (by omega)] at hx
      exact hq k x hx
    · rw [List.getElem?_append_right (by omega)] at hx
      have : k = n := by
        have := (List.getElem?_eq_some_iff.1 hx).1
        simp at this
        omega
      subst this
      simp [hl] at hx
      rw [← hx]; exact hy

theorem add_plain (b off q : Nat) : (⟨b, off, none⟩ : Addr).add q = ⟨b, off + q, none⟩ := by cases q <;> simp [Addr.add]

end Go.Proofs.YtiibeahgleaonaaGreat

namespace Go.Proofs.YtiibeahgleaonaaGreat
open Go.ChangeShapes Go.WideShapes Go.ChangeAt Go.RowKit Go.Deep

theorem Tryz.bytes8 : Tryz.prog.bytesOf 5 = 1 := by kernel_rfl
theorem Tryz.cells8 : Tryz.prog.cellsOf 5 = 1 := by kernel_rfl

theorem wf_u8 {x : Int} (h : (Lit.int .u8 x).wf = true) : ∃ b : UInt8, x = (b.toNat : Int) := by
  have h' : 0 ≤ x ∧ x < 256 := by
    simp [Lit.wf, IntKind.min, IntKind.max, IntKind.bits, IntKind.signed] at h
    omega
  refine ⟨UInt8.ofNat x.toNat, ?_⟩
  rw [UInt8.toNat_ofNat']
  omega

theorem open_bytes {H : Type} {enc : TypeId × Value → H} {W : World} {base : Nat} {spare : Nat → Bool} {held : Bool} {a : Option Addr} {len cap : Nat} {d : DataW H} {p : List MemPlace}
    (h : DataW.Trod enc Tryz.prog W base spare held 35 (.slice a len cap) d p) : ∃ zs : List UInt8, len = zs.length ∧ BSl 0 W.heap.size W (.slice a len cap) zs ∧ (zs = [] ∨ ∃ el sp, d = .slice el sp ∧ el.length = zs.length) := by
  obtain ⟨fuel, hf⟩ := h
  rcases open_slice1 Tryz.underlying35 Tryz.cells8 hf with h0 | ⟨ad, l, c, m, n, V, D, Pl, hcs, hb, hl, hm, hmm, hx, hi⟩
  · obtain ⟨hcs, _⟩ := h0
    simp [Value.cells] at hcs
    obtain ⟨rfl, rfl, rfl⟩ := hcs
    exact ⟨[], rfl, ⟨none, 0, rfl, Nat.le_refl _, .inl rfl⟩, .inl rfl⟩
  · simp [Value.cells] at hcs
    obtain ⟨rfl, rfl, rfl⟩ := hcs
    have hlm : len ≤ m := by rw [hmm]; split <;> omega
    have key : ∀ i, i < len → ∃ x : UInt8, W.cell? (ad.add i) = some (bv x) := fun i hil => by
      obtain ⟨hc, ht⟩ := hi i (by omega)
      obtain ⟨x, e, _, w0⟩ := DataW.trod_int Tryz.underlying5 ht
      simp at e
      obtain ⟨b, rfl⟩ := wf_u8 w0
      exact ⟨b, by rw [hc, e]⟩
    obtain ⟨zs, hz, hq⟩ := list_of key
    refine ⟨zs, hz.symm, ⟨some ad, cap, by rw [hz], by rw [hz]; exact hl, ?_⟩, .inr ⟨_, _, (Prod.mk.inj hx).1, by simp [hz]⟩⟩
    by_cases hlen : len = 0
    · exact .inl (List.length_eq_zero_iff.1 (by omega))
    · obtain ⟨x, h0⟩ := key 0 (by omega)
      obtain ⟨b, off, sp⟩ := ad
      have hsp : sp = none := by
        cases sp with
        | none => rfl
        | some _ => simp [Addr.add, World.cell?] at h0; split at h0 <;> simp at h0
      subst hsp
      refine .inr ⟨b, off, rfl, Nat.zero_le _, World.block_lt_of_cell? W _ h0, fun k x hx => ?_⟩
      have := hq k x hx
      rwa [add_plain] at this

end Go.Proofs.YtiibeahgleaonaaGreat

namespace Go.Proofs.YtiibeahgleaonaaGreat
open Go.ChangeShapes Go.WideShapes Go.ChangeAt Go.RowKit

theorem Tryz.cells24 : Tryz.prog.cellsOf 24 = 4 := by kernel_rfl
theorem Tryz.cells22 : Tryz.prog.cellsOf 22 = 1 := by kernel_rfl

theorem wf_u64 {x : Int} (h : (Lit.int .u64 x).wf = true) : ∃ n : Nat, x = (n : Int) ∧ n < M := by
  have h' : 0 ≤ x ∧ x < 18446744073709551616 := by
    simp [Lit.wf, IntKind.min, IntKind.max, IntKind.bits, IntKind.signed] at h
    omega
  obtain ⟨n, rfl⟩ := Int.eq_ofNat_of_zero_le h'.1
  exact ⟨n, rfl, by unfold M; omega⟩

set_option maxRecDepth 100000 in
theorem open_wide {H : Type} {enc : TypeId × Value → H} {r : Reach} {w : World} {b0 base : Nat} {spare : Nat → Bool} {held : Bool} {v : Value} {d : DataW H} {p : List MemPlace}
    (hv : Value.okWide Tryz.prog w r b0 24 v) (h : DataW.Trod enc Tryz.prog w base spare held 24 v d p) : ∃ a0 a1 a2 a3 : Nat, Ok4 a0 a1 a2 a3 ∧ v = wv a0 a1 a2 a3 := by
  obtain ⟨cs, rfl, hsz, _⟩ : ∃ cs, v = .agg cs ∧ cs.size = Tryz.prog.cellsOf 24 ∧ Row.okWide Tryz.prog w r b0 24 cs := by
    simpa [Value.okWide, Tryz.underlying24] using hv
  rw [Tryz.cells24] at hsz
  obtain ⟨c0, c1, c2, c3, rfl⟩ := Joins.array4 hsz
  obtain ⟨fuel, hf⟩ := h
  obtain ⟨y0, y1, y2, y3, m, hx, hy0, hy1, hy2, hy3⟩ := trod_array4 Tryz.underlying24 Tryz.cells22 hf
  obtain ⟨x0, e0, rfl, w0⟩ := DataW.trod_int Tryz.underlying22 hy0
  obtain ⟨x1, e1, rfl, w1⟩ := DataW.trod_int Tryz.underlying22 hy1
  obtain ⟨x2, e2, rfl, w2⟩ := DataW.trod_int Tryz.underlying22 hy2
  obtain ⟨x3, e3, rfl, w3⟩ := DataW.trod_int Tryz.underlying22 hy3
  simp at e0 e1 e2 e3
  subst e0 e1 e2 e3
  obtain ⟨a0, rfl, l0⟩ := wf_u64 w0
  obtain ⟨a1, rfl, l1⟩ := wf_u64 w1
  obtain ⟨a2, rfl, l2⟩ := wf_u64 w2
  obtain ⟨a3, rfl, l3⟩ := wf_u64 w3
  exact ⟨a0, a1, a2, a3, ⟨l0, l1, l2, l3⟩, rfl⟩

end Go.Proofs.YtiibeahgleaonaaGreat

namespace Go.Proofs.YtiibeahgleaonaaGreat
open Go.ChangeShapes Go.WideShapes Go.ChangeAt Go.RowKit Go.Deep

theorem Tryz.cellsAsk : Tryz.prog.cellsOf 26 = 9 := by kernel_rfl
theorem Tryz.cellsBid : Tryz.prog.cellsOf 28 = 16 := by kernel_rfl
theorem Tryz.cellsInt : Tryz.prog.cellsOf 3 = 1 := by kernel_rfl
theorem Tryz.cellsStr : Tryz.prog.cellsOf 9 = 1 := by kernel_rfl
theorem trod_wide {H : Type} {enc : TypeId × Value → H} {w : World} {base : Nat} {spare : Nat → Bool} {held : Bool} {fuel : Nat} {c0 c1 c2 c3 : Value} {x : DataW H × List MemPlace}
    (h : DataW.trod enc Tryz.prog w base spare held fuel 24 [c0, c1, c2, c3] = some x) :
    ∃ a0 a1 a2 a3 : Nat, c0 = .int .u64 (a0 : Int) ∧ c1 = .int .u64 (a1 : Int) ∧ c2 = .int .u64 (a2 : Int) ∧ c3 = .int .u64 (a3 : Int) ∧ Ok4 a0 a1 a2 a3 := by
  obtain ⟨u0, u1, u2, u3, m, hx3, g0, g1, g2, g3⟩ := trod_array4 Tryz.underlying24 Tryz.cells22 h
  obtain ⟨v0, k0, _, wg0⟩ := DataW.trod_int Tryz.underlying22 g0
  obtain ⟨v1, k1, _, wg1⟩ := DataW.trod_int Tryz.underlying22 g1
  obtain ⟨v2, k2, _, wg2⟩ := DataW.trod_int Tryz.underlying22 g2
  obtain ⟨v3, k3, _, wg3⟩ := DataW.trod_int Tryz.underlying22 g3
  obtain ⟨a0, rfl, q0⟩ := wf_u64 wg0
  obtain ⟨a1, rfl, q1⟩ := wf_u64 wg1
  obtain ⟨a2, rfl, q2⟩ := wf_u64 wg2
  obtain ⟨a3, rfl, q3⟩ := wf_u64 wg3
  simp at k0 k1 k2 k3
  exact ⟨a0, a1, a2, a3, k0, k1, k2, k3, ⟨q0, q1, q2, q3⟩⟩
set_option maxRecDepth 100000 in
theorem trod_ask {H : Type} {enc : TypeId × Value → H} {w : World} {base : Nat} {spare : Nat → Bool} {held : Bool} {fuel : Nat} {cs : List Value} {x : DataW H × List MemPlace}
    (h : DataW.trod enc Tryz.prog w base spare held fuel 26 cs = some x) :
    ∃ a : Ak, cs = akc a ∧ OkA a := by
  obtain ⟨xs, n, _, hx, hcl, hlen, hg⟩ := DataW.trod_struct Tryz.underlying26 h
  rw [Tryz.cellsAsk] at hcl
  match cs, hcl with
  | [c0, c1, c2, c3, c4, c5, c6, c7, c8], _ =>
  match xs, hlen with
  | [y0, y1, y2, y3, y4, y5], _ =>
  have h0 := hg 0 ⟨ "User", 3, 0, false, "", "", 0⟩ rfl
  have h1 := hg 1 ⟨ "Send", 3, 1, false, "", "", 8⟩ rfl
  have h2 := hg 2 ⟨ "Recv", 3, 2, false, "", "", 16⟩ rfl
  have h3 := hg 3 ⟨ "To", 3, 3, false, "", "", 24⟩ rfl
  have h4 := hg 4 ⟨ "Amount", 24, 4, false, "", "", 32⟩ rfl
  have h5 := hg 5 ⟨ "Id", 9, 8, false, "", "", 64⟩ rfl
  dsimp only at h0 h1 h2 h3 h4 h5
  rw [Tryz.cellsInt] at h0 h1 h2 h3
  rw [Tryz.cells24] at h4
  rw [Tryz.cellsStr] at h5
  simp only [List.drop_succ_cons, List.drop_zero, List.take_succ_cons, List.take_zero, List.getElem?_cons_zero, List.getElem?_cons_succ] at h0 h1 h2 h3 h4 h5
  obtain ⟨z0, e0, _, _⟩ := DataW.trod_int Tryz.underlying3 h0
  obtain ⟨z1, e1, _, _⟩ := DataW.trod_int Tryz.underlying3 h1
  obtain ⟨z2, e2, _, _⟩ := DataW.trod_int Tryz.underlying3 h2
  obtain ⟨z3, e3, _, _⟩ := DataW.trod_int Tryz.underlying3 h3
  obtain ⟨a0, a1, a2, a3, f0, f1, f2, f3, hk⟩ := trod_wide h4
  obtain ⟨s5, e5, _, _⟩ := DataW.trod_string Tryz.underlying9 h5
  simp at e0 e1 e2 e3 e5
  subst e0 e1 e2 e3 f0 f1 f2 f3 e5
  exact ⟨⟨z0, z1, z2, z3, a0, a1, a2, a3, s5⟩, rfl, ⟨hk⟩⟩
set_option maxRecDepth 100000 in
theorem trod_bid {H : Type} {enc : TypeId × Value → H} {w : World} {base : Nat} {spare : Nat → Bool} {held : Bool} {fuel : Nat} {cs : List Value} {x : DataW H × List MemPlace}
    (h : DataW.trod enc Tryz.prog w base spare held fuel 28 cs = some x) :
    ∃ b : Bd, cs = bdc b ∧ OkB b := by
  obtain ⟨xs, n, _, hx, hcl, hlen, hg⟩ := DataW.trod_struct Tryz.underlying28 h
  rw [Tryz.cellsBid] at hcl
  match cs, hcl with
  | [c0, c1, c2, c3, c4, c5, c6, c7, c8, c9, c10, c11, c12, c13, c14, c15], _ =>
  match xs, hlen with
  | [y0, y1, y2, y3, y4], _ =>
  have h0 := hg 0 ⟨ "Router", 3, 0, false, "", "", 0⟩ rfl
  have h1 := hg 1 ⟨ "Ask", 26, 1, false, "", "", 8⟩ rfl
  have h2 := hg 2 ⟨ "Amount", 24, 10, false, "", "", 88⟩ rfl
  have h3 := hg 3 ⟨ "Until", 3, 14, false, "", "", 120⟩ rfl
  have h4 := hg 4 ⟨ "Sig", 9, 15, false, "", "", 128⟩ rfl
  dsimp only at h0 h1 h2 h3 h4
  rw [Tryz.cellsInt] at h0 h3
  rw [Tryz.cellsAsk] at h1
  rw [Tryz.cells24] at h2
  rw [Tryz.cellsStr] at h4
  simp only [List.drop_succ_cons, List.drop_zero, List.take_succ_cons, List.take_zero, List.getElem?_cons_zero, List.getElem?_cons_succ] at h0 h1 h2 h3 h4
  obtain ⟨z0, e0, _, _⟩ := DataW.trod_int Tryz.underlying3 h0
  obtain ⟨a, ha, hk⟩ := trod_ask h1
  obtain ⟨b0, b1, b2, b3, f0, f1, f2, f3, hk2⟩ := trod_wide h2
  obtain ⟨z3, e3, _, _⟩ := DataW.trod_int Tryz.underlying3 h3
  obtain ⟨s4, e4, _, _⟩ := DataW.trod_string Tryz.underlying9 h4
  simp at e0 e3 e4
  simp only [akc, List.cons.injEq, and_true] at ha
  obtain ⟨q0, q1, q2, q3, q4, q5, q6, q7, q8⟩ := ha
  subst e0 e3 e4 f0 f1 f2 f3 q0 q1 q2 q3 q4 q5 q6 q7 q8
  exact ⟨⟨z0, a, b0, b1, b2, b3, z3, s4⟩, rfl, ⟨hk.k, hk2⟩⟩

set_option maxRecDepth 100000 in
theorem agg8_of {v : Value} {w : World} {r : Reach} {b0 t : Nat} {fs : Array Field} (hu : Tryz.prog.underlying t = some (.struct fs)) (hv : Value.okWide Tryz.prog w r b0 t v) : ∃ cs, v = .agg cs := by
  obtain ⟨cs, rfl, _⟩ : ∃ cs, v = .agg cs ∧ cs.size = Tryz.prog.cellsOf t ∧ Row.okWide Tryz.prog w r b0 t cs := by
    simpa [Value.okWide, hu] using hv
  exact ⟨cs, rfl⟩
set_option maxRecDepth 100000 in
theorem open_ask {H : Type} {enc : TypeId × Value → H} {r : Reach} {w : World} {b0 base : Nat} {spare : Nat → Bool} {held : Bool} {v : Value} {d : DataW H} {p : List MemPlace}
    (hv : Value.okWide Tryz.prog w r b0 26 v) (h : DataW.Trod enc Tryz.prog w base spare held 26 v d p) :
    ∃ a : Ak, v = akv a ∧ OkA a := by
  obtain ⟨cs, rfl⟩ := agg8_of Tryz.underlying26 hv
  obtain ⟨fuel, hf⟩ := h
  obtain ⟨a, hc, h1⟩ := trod_ask hf
  refine ⟨a, ?_, h1⟩
  have : cs.toList = akc a := hc
  rw [show cs = (akc a).toArray from by rw [← this]]
set_option maxRecDepth 100000 in
theorem open_bid {H : Type} {enc : TypeId × Value → H} {r : Reach} {w : World} {b0 base : Nat} {spare : Nat → Bool} {held : Bool} {v : Value} {d : DataW H} {p : List MemPlace}
    (hv : Value.okWide Tryz.prog w r b0 28 v) (h : DataW.Trod enc Tryz.prog w base spare held 28 v d p) :
    ∃ b : Bd, v = bdv b ∧ OkB b := by
  obtain ⟨cs, rfl⟩ := agg8_of Tryz.underlying28 hv
  obtain ⟨fuel, hf⟩ := h
  obtain ⟨b, hc, h1⟩ := trod_bid hf
  refine ⟨b, ?_, h1⟩
  have : cs.toList = bdc b := hc
  rw [show cs = (bdc b).toArray from by rw [← this]]
end Go.Proofs.YtiibeahgleaonaaGreat

namespace Go.Proofs.YtiibeahgleaonaaGreat
open Go.RowKit Go.Shelf

/-- A bid without its signature; with one. -/
def plainB (b : Bd) : Bd := ⟨b.ro, b.k, b.b0, b.b1, b.b2, b.b3, b.un, ⟨#[]⟩⟩
def signedB (b : Bd) (g : ByteArray) : Bd := ⟨b.ro, b.k, b.b0, b.b1, b.b2, b.b3, b.un, g⟩
theorem okB_plain {b : Bd} (h : OkB b) : OkB (plainB b) := ⟨h.k, h.b⟩
/-- The blocks of the call: the key, the bid, the two results. -/
structure SgW (s : ByteArray) (z : Int) (b p : Bd) (w Y : World) : Prop where
  k : Blk Y w.heap.size 43 [.string s, .int .i64 z]
  b : Blk Y (w.heap.size + 1) 28 (bdc b)
  p : Blk Y (w.heap.size + 1 + 1) 28 (bdc p)
  q : Blk Y (w.heap.size + 1 + 1 + 1) 43 [.string ⟨#[]⟩, .int .i64 0]
  w : Below w.heap.size w Y
theorem SgW.below {s : ByteArray} {z : Int} {b p : Bd} {w Y Y' : World} (h : SgW s z b p w Y) (hb : Below Y.heap.size Y Y') : SgW s z b p w Y' :=
  ⟨h.k.below hb h.k.lt, h.b.below hb h.b.lt, h.p.below hb h.p.lt, h.q.below hb h.q.lt, chain h.w hb⟩
theorem SgW.cell {s : ByteArray} {z : Int} {b p : Bd} {w Y : World} (h : SgW s z b p w Y) {N : Nat} (hN : w.heap.size + 1 + 1 + 1 < N) (i : Nat) (v : Value) : SgW s z b p w (Y.setCell ⟨N, i, none⟩ v) :=
  ⟨h.k.other i v (by omega), h.b.other i v (by omega), h.p.other i v (by omega), h.q.other i v (by omega), h.w.setCell (p := ⟨N, i, none⟩) (by simp; omega) _⟩
theorem SgW.set {s : ByteArray} {z : Int} {b p : Bd} {w Y : World} (h : SgW s z b p w Y) (g : ByteArray) : SgW s z (signedB b g) p w (Y.setCell ⟨w.heap.size + 1, 15, none⟩ (.string g)) :=
  ⟨h.k.other 15 _ (by omega), h.b.set 15 _, h.p.other 15 _ (by omega), h.q.other 15 _ (by omega), h.w.setCell (p := ⟨w.heap.size + 1, 15, none⟩) (Nat.le_succ _) _⟩
theorem SgW.row {s : ByteArray} {z : Int} {b p : Bd} {w Y : World} (h : SgW s z b p w Y) (p' : Bd) : SgW s z b p' w (Y.setRow (w.heap.size + 1 + 1) (bdc p').toArray) :=
  ⟨h.k.rowO _ (by omega), h.b.rowO _ (by omega), h.p.row _, h.q.rowO _ (by omega), below_setRow h.w (by omega) _⟩
theorem one_bdc (b : Bd) : (bdc b).toArray.all (·.oneCell') = true := by simp [Value.oneCell']
theorem load_bid' {W : World} {B : Nat} {b : Bd} (h : Blk W B 28 (bdc b)) : (loadVar 28 ⟨B, 0, none⟩).run Tryz.prog W = .ok (bdv b) W :=
  run_loadVar_row W B _ 28 (bdc b).toArray (0, 0) _ h Tryz.underlying28 rfl (by kernel_rfl)
theorem load_key' {W : World} {B : Nat} {s : ByteArray} {z : Int} (h : Blk W B 43 [.string s, .int .i64 z]) : (loadVar 43 ⟨B, 0, none⟩).run Tryz.prog W = .ok (.agg #[.string s, .int .i64 z]) W :=
  run_loadVar_row W B _ 43 #[.string s, .int .i64 z] (0, 0) _ h Tryz.underlying43 rfl (by kernel_rfl)
theorem wp_store_bid {o : Oper} {a : Act} {w : World} {K : Act → World → Prop} {Q : Exit → Act → World → Prop} (x y : Operand) (p p' : Bd) (g : Nat) (hg : Blk w g 28 (bdc p)) (ho : o.op = .store 28 x y) (hd : o.dst = none)
    (hx : a.eval x = .pointer (some ⟨g, 0, none⟩)) (hy : a.eval y = bdv p') (h : K a (w.setRow g (bdc p').toArray)) : o.wp Tryz.prog a w K Q :=
  wp_store_row 28 x y ho g (bdc p').toArray hx hy 28 (bdc p).toArray hg (by kernel_rfl) rfl (one_bdc p') (by rw [hd]; exact h)
theorem wpList_store_bid {ops : Array Oper} {rest : List Oper} {o : Oper} {a : Act} {w : World} {Q : Exit → Act → World → Prop} (x y : Operand) (p p' : Bd) (g : Nat) (hg : Blk w g 28 (bdc p)) (ho : o.op = .store 28 x y) (hd : o.dst = none) (hgd : o.guard = none)
    (hx : a.eval x = .pointer (some ⟨g, 0, none⟩)) (hy : a.eval y = bdv p') (h : wpList Tryz.prog ops Q rest a (w.setRow g (bdc p').toArray)) : wpList Tryz.prog ops Q (o :: rest) a w :=
  wpList_plain hgd fun _ hK => wp_store_bid x y p p' g hg ho hd hx hy (hK _ _ h)
theorem fin_sign {p : Bd} {w Y : World} (hp : Blk Y (w.heap.size + 1 + 1) 28 (bdc p)) (hq : Blk Y (w.heap.size + 1 + 1 + 1) 43 [.string ⟨#[]⟩, .int .i64 0]) (hB : Below w.heap.size w Y) (ks : ByteArray) (kn : Int) :
    (loadVar 28 ⟨w.heap.size + 1 + 1, 0, none⟩).run Tryz.prog ((Y.setCell ⟨w.heap.size + 1 + 1 + 1, 0, none⟩ (.string ks)).setCell ⟨w.heap.size + 1 + 1 + 1, 1, none⟩ (.int .i64 kn)) = .ok (bdv p) ((Y.setCell ⟨w.heap.size + 1 + 1 + 1, 0, none⟩ (.string ks)).setCell ⟨w.heap.size + 1 + 1 + 1, 1, none⟩ (.int .i64 kn)) ∧
    (loadVar 43 ⟨w.heap.size + 1 + 1 + 1, 0, none⟩).run Tryz.prog ((Y.setCell ⟨w.heap.size + 1 + 1 + 1, 0, none⟩ (.string ks)).setCell ⟨w.heap.size + 1 + 1 + 1, 1, none⟩ (.int .i64 kn)) = .ok (.agg #[.string ks, .int .i64 kn]) ((Y.setCell ⟨w.heap.size + 1 + 1 + 1, 0, none⟩ (.string ks)).setCell ⟨w.heap.size + 1 + 1 + 1, 1, none⟩ (.int .i64 kn)) ∧ Below w.heap.size w ((Y.setCell ⟨w.heap.size + 1 + 1 + 1, 0, none⟩ (.string ks)).setCell ⟨w.heap.size + 1 + 1 + 1, 1, none⟩ (.int .i64 kn)) := by
  have k1 := (hp.other (B' := w.heap.size + 1 + 1 + 1) 0 (.string ks) (by omega)).other (B' := w.heap.size + 1 + 1 + 1) 1 (.int .i64 kn) (by omega)
  have k2 := (hq.set 0 (.string ks)).set 1 (.int .i64 kn)
  exact ⟨load_bid' k1, load_key' k2, (hB.setCell (p := ⟨w.heap.size + 1 + 1 + 1, 0, none⟩) (by simp; omega) _).setCell (p := ⟨w.heap.size + 1 + 1 + 1, 1, none⟩) (by simp; omega) _⟩
theorem SgW.drew {s : ByteArray} {z : Int} {b p : Bd} {w Y : World} (h : SgW s z b p w Y) : SgW s z b p w Y.drew := ⟨h.k, h.b, h.p, h.q, h.w.drew⟩
theorem bslUp {l : List UInt8} {W W' : World} {sv : Value} (h : BSl 0 W.heap.size W sv l) (hb : Below W.heap.size W W') : BSl 0 W'.heap.size W' sv l := (h.below hb (Nat.le_refl _)).mono (Nat.le_refl _) hb.size
/-- What Sign hands back. -/
def retS (b : Bd) (s : ByteArray) (z c : Int) : Value := .tuple #[bdv b, .agg #[.string s, .int .i64 z], .int .i64 c]

set_option maxRecDepth 100000 in
set_option maxHeartbeats 4000000 in
theorem sign_check (s : ByteArray) (z : Int) (b : Bd) (hb4 : OkB b) (hm : ¬ maybeB (plainB b)) (w : World) :
    Calls Tryz.prog 17 #[.agg #[.string s, .int .i64 z], bdv b] w fun e W' => e = .returned (retS noB ⟨#[]⟩ 0 39) ∧ Below w.heap.size w W' := by
  have HC := Lib.hid (check_any (plainB b) (okB_plain hb4))
  have HE := Lib.hid (errB_bad hm)
  clear hm
  go_enter Tryz.func17, Tryz.ntmps17
  go_upto_region 2 with fail
  generalize hW0 : World.alloc _ _ = W0
  have hP : SgW s z (plainB b) noB w W0 := by
    have b3 := chainA (chainA (chainA (chain0 w (.cells #[.string s, .int .i64 z] 43)) (.cells (bdc (plainB b)).toArray 28)) (.cells (bdc noB).toArray 28)) (.cells #[.string ⟨#[]⟩, .int .i64 0] 43)
    rw [← hW0]
    exact ⟨(((Blk.new w _ [_, _]).alloc _).alloc _).alloc _, ((Blk.new' (vs := bdc (plainB b)) (by simp)).alloc _).alloc _, (Blk.new' (vs := bdc noB) (by simp)).alloc _, Blk.new' (vs := [_, _]) (by simp), b3⟩
  clear hW0
  go_upto_region 4 with (first
    | (refine wpList_loadIf 28 (.tmp 3) rfl _ rfl rfl (bdv (plainB b)) (load_bid hP.b) ?_)
    | (go_at_call 8; refine (HC.out _).mono ?_; rw [HE.out]; rintro e W1 ⟨rfl, hb1⟩; replace hP := hP.below hb1; clear hb1))
  go_wp2_with ((refine wpList_store_bid (.tmp 4) (.tmp 16) noB noB (w.heap.size + 1 + 1) hP.p ?_ ?_ ?_ ?_ ?_ ?_); (· rfl); (· rfl); (· rfl); (· rfl); (· rfl); replace hP := hP.row noB; obtain ⟨q0, q1⟩ := Blk.c2 hP.q; have fq := hP.q.frozen)
  obtain ⟨l0, l1, hB⟩ := fin_sign hP.p hP.q hP.w ⟨#[]⟩ 0
  exact bodyPost_ret (v := retS noB ⟨#[]⟩ 0 39) (by simp [results, Tryz.results17, asAddr, retS]; rw [l0]; simp only [Result.andThen_ok]; rw [l1]; rfl) rfl ⟨rfl, hB⟩
set_option maxRecDepth 100000 in
set_option maxHeartbeats 4000000 in
theorem sign_bad (s : ByteArray) (z : Int) (b : Bd) (hb4 : OkB b) (hm : maybeB (plainB b)) (c : Int) (hc : c ≠ 0) (HS0 : ∀ tx W, BSl 0 W.heap.size W tx (textL (plainB b)) → Calls Tryz.prog 39 #[.agg #[.string s, .int .i64 z], tx] W (fun e W' => e = .returned (.tuple #[.string ⟨#[]⟩, .agg #[.string ⟨#[]⟩, .int .i64 0], .int .i64 c]) ∧ Below W.heap.size W W')) (w : World) :
    Calls Tryz.prog 17 #[.agg #[.string s, .int .i64 z], bdv b] w fun e W' => e = .returned (retS noB ⟨#[]⟩ 0 c) ∧ Below w.heap.size w W' := by
  have hmx : Tryz.prog.follows .mixedOrders = true := by kernel_rfl
  have HC := Lib.hid (check_any (plainB b) (okB_plain hb4))
  have HT := Lib.hid (text8_any (plainB b) (okB_plain hb4))
  have HE := Lib.hid (errB_zero hm)
  have HS := Lib.hid HS0
  clear hm HS0
  have q1 : (c == 0) = false := by simpa using hc
  have q2 : (c != 0) = true := by simpa using hc
  clear hc
  generalize textL (plainB b) = tl at *
  go_enter Tryz.func17, Tryz.ntmps17
  go_upto_region 2 with fail
  generalize hW0 : World.alloc _ _ = W0
  have hP : SgW s z (plainB b) noB w W0 := by
    have b3 := chainA (chainA (chainA (chain0 w (.cells #[.string s, .int .i64 z] 43)) (.cells (bdc (plainB b)).toArray 28)) (.cells (bdc noB).toArray 28)) (.cells #[.string ⟨#[]⟩, .int .i64 0] 43)
    rw [← hW0]
    exact ⟨(((Blk.new w _ [_, _]).alloc _).alloc _).alloc _, ((Blk.new' (vs := bdc (plainB b)) (by simp)).alloc _).alloc _, (Blk.new' (vs := bdc noB) (by simp)).alloc _, Blk.new' (vs := [_, _]) (by simp), b3⟩
  clear hW0
  go_upto_region 5 with (first
    | (refine wpList_loadIf 28 (.tmp 3) rfl _ rfl rfl (bdv (plainB b)) (load_bid hP.b) ?_)
    | (go_at_call 8; refine (HC.out _).mono ?_; rw [HE.out]; rintro e W1 ⟨rfl, hb1⟩; replace hP := hP.below hb1; clear hb1))
  refine wp_region_held_drew (S := fun W => SgW s z (plainB b) noB w W) hmx hP.drew ?_
  intro hS
  clear hP
  generalize World.drew _ = Y at *
  refine' wpAnyH_take (i := 0) (oi := _) (v := _) ?hi1 (by kernel_rfl) (by kernel_rfl) (by kernel_rfl) ?hQ1 (Or.inl ⟨?hw1, ?hy1⟩) hS ?rest1
  case hi1 => simp only [List.getElem?_toArray, List.getElem?_cons_zero]; rfl
  case hQ1 => exact fun _ _ _ h => h
  case hw1 => rfl
  case hy1 => intro W' hS'; obtain ⟨a0, a1⟩ := Blk.c2 hS'.k; go_simp; with_reducible rfl
  try simp only [Act.put, List.setIfInBounds_toArray, List.set_cons_zero, List.set_cons_succ]
  refine' wpAnyH_take (i := 1) (oi := _) (v := bdv (plainB b)) ?hi2 (by kernel_rfl) (by kernel_rfl) (by kernel_rfl) ?hQ2 (Or.inl ⟨?hw2, ?hy2⟩) hS ?rest2
  case hi2 => simp only [List.getElem?_toArray, List.getElem?_cons_succ, List.getElem?_cons_zero]; rfl
  case hQ2 => exact fun _ _ _ h => h
  case hw2 => rfl
  case hy2 => exact fun W' hS' => exec_load 28 (.tmp 3) rfl _ W' (load_bid hS'.b)
  try simp only [Act.put, List.setIfInBounds_toArray, List.set_cons_zero, List.set_cons_succ]
  refine wpAnyH_ready (rs := [2, 8]) (by kernel_rfl) (by simp) ?_
  refine' AllReadyH.cons (o := _) ?ho3 (fun K hK => ?st3) (AllReadyH.cons (o := _) ?ho4 (fun K hK => ?st4) AllReadyH.nil)
  case ho3 => simp only [List.getElem?_toArray, List.getElem?_cons_succ, List.getElem?_cons_zero]; rfl
  case ho4 => simp only [List.getElem?_toArray, List.getElem?_cons_succ, List.getElem?_cons_zero]; rfl
  case st3 =>
    go_simp
    refine (HT.out _).mono ?_
    rintro e Y1 ⟨v1, rfl, hv1, hb⟩
    refine hK.out _ _ (hS.below hb) (fun hS => ?_)
    clear hK K
    try simp only [Act.put, List.setIfInBounds_toArray, List.set_cons_zero, List.set_cons_succ]
    clear hb
    refine wpAnyH_ready (rs := [3, 8]) (by kernel_rfl) (by simp) ?_
    refine' AllReadyH.cons (o := _) ?ho5 (fun K hK => ?st5) (AllReadyH.cons (o := _) ?ho6 (fun K hK => ?st6) AllReadyH.nil)
    case ho5 => simp only [List.getElem?_toArray, List.getElem?_cons_succ, List.getElem?_cons_zero]; rfl
    case ho6 => simp only [List.getElem?_toArray, List.getElem?_cons_succ, List.getElem?_cons_zero]; rfl
    case st5 =>
      go_simp
      refine (HS.out _ _ hv1).mono ?_
      rintro e Y2 ⟨rfl, hb⟩
      refine hK.out _ _ (hS.below hb) (fun hS => ?_)
      clear hK K
      try simp only [Act.put, List.setIfInBounds_toArray, List.set_cons_zero, List.set_cons_succ]
      clear hb hv1
      refine' wpAnyH_take (i := 4) (oi := _) (v := _) ?hi7 (by kernel_rfl) (by kernel_rfl) (by kernel_rfl) ?hQ7 (Or.inl ⟨?hw7, ?hy7⟩) hS ?rest7
      case hi7 => simp only [List.getElem?_toArray, List.getElem?_cons_succ, List.getElem?_cons_zero]; rfl
      case hQ7 => exact fun _ _ _ h => h
      case hw7 => rfl
      case hy7 => intro W' hS'; go_simp; with_reducible rfl
      try simp only [Act.put, List.setIfInBounds_toArray, List.set_cons_zero, List.set_cons_succ]
      refine' wpAnyH_take (i := 5) (oi := _) (v := _) ?hi8 (by kernel_rfl) (by kernel_rfl) (by kernel_rfl) ?hQ8 (Or.inl ⟨?hw8, ?hy8⟩) hS ?rest8
      case hi8 => simp only [List.getElem?_toArray, List.getElem?_cons_succ, List.getElem?_cons_zero]; rfl
      case hQ8 => exact fun _ _ _ h => h
      case hw8 => rfl
      case hy8 => intro W' hS'; go_simp; with_reducible rfl
      try simp only [Act.put, List.setIfInBounds_toArray, List.set_cons_zero, List.set_cons_succ]
      refine' wpAnyH_take (i := 6) (oi := _) (v := _) ?hi9 (by kernel_rfl) (by kernel_rfl) (by kernel_rfl) ?hQ9 (Or.inl ⟨?hw9, ?hy9⟩) hS ?rest9
      case hi9 => simp only [List.getElem?_toArray, List.getElem?_cons_succ, List.getElem?_cons_zero]; rfl
      case hQ9 => exact fun _ _ _ h => h
      case hw9 => rfl
      case hy9 => intro W' hS'; go_simp; with_reducible rfl
      try simp only [Act.put, List.setIfInBounds_toArray, List.set_cons_zero, List.set_cons_succ]
      refine' wpAnyH_take (i := 7) (oi := _) (v := _) ?hi10 (by kernel_rfl) (by kernel_rfl) (by kernel_rfl) ?hQ10 (Or.inl ⟨?hw10, ?hy10⟩) hS ?rest10
      case hi10 => simp only [List.getElem?_toArray, List.getElem?_cons_succ, List.getElem?_cons_zero]; rfl
      case hQ10 => exact fun _ _ _ h => h
      case hw10 => rfl
      case hy10 => intro W' hS'; go_simp; with_reducible rfl
      try simp only [Act.put, List.setIfInBounds_toArray, List.set_cons_zero, List.set_cons_succ]
      refine wpAnyH_ready (rs := [8]) (by kernel_rfl) (by simp) ?_
      refine' AllReadyH.cons (o := _) ?ho11 (fun K hK => ?st11) AllReadyH.nil
      case ho11 => simp only [List.getElem?_toArray, List.getElem?_cons_succ, List.getElem?_cons_zero]; rfl
      case st11 =>
        have hNl := hS.q.lt
        go_simp
        refine hK.out _ _ (hS.below (chain0 Y2 _)) (fun hS => ?_)
        clear hK K
        try simp only [Act.put, List.setIfInBounds_toArray, List.set_cons_zero, List.set_cons_succ]
        have hb := chain0 Y2 (.cells #[.string ⟨#[]⟩, .int .i64 0] 43)
        have kN := Blk.new Y2 43 [.string ⟨#[]⟩, .int .i64 0]
        clear hb
        generalize hX : Y2.heap.size = N at *
        generalize hY : Y2.alloc _ = U at *
        clear hX hY
        refine wpAnyH_ready (rs := [9]) (by kernel_rfl) (by simp) ?_
        refine' AllReadyH.cons (o := _) ?ho12 (fun K hK => ?st12) AllReadyH.nil
        case ho12 => simp only [List.getElem?_toArray, List.getElem?_cons_succ, List.getElem?_cons_zero]; rfl
        case st12 =>
          go_simp
          refine hK.out _ _ hS (fun hS => ?_)
          clear hK K
          try simp only [Act.put, List.setIfInBounds_toArray, List.set_cons_zero, List.set_cons_succ]
          refine wpAnyH_ready (rs := [10]) (by kernel_rfl) (by simp) ?_
          refine' AllReadyH.cons (o := _) ?ho13 (fun K hK => ?st13) AllReadyH.nil
          case ho13 => simp only [List.getElem?_toArray, List.getElem?_cons_succ, List.getElem?_cons_zero]; rfl
          case st13 =>
            obtain ⟨n0, n1⟩ := Blk.c2 kN
            have fn := kN.frozen
            go_simp
            refine hK.out _ _ ((hS.cell hNl 0 _).cell hNl 1 _) (fun hS => ?_)
            clear hK K
            try simp only [Act.put, List.setIfInBounds_toArray, List.set_cons_zero, List.set_cons_succ]
            have kM := (kN.set 0 (.string ⟨#[]⟩)).set 1 (.int .i64 0)
            clear kN n0 n1 fn
            generalize World.setCell (World.setCell _ _ _) _ _ = V at *
            replace kM : Blk V N 43 [.string ⟨#[]⟩, .int .i64 0] := kM
            refine wpAnyH_ready (rs := [11]) (by kernel_rfl) (by simp) ?_
            refine' AllReadyH.cons (o := _) ?ho14 (fun K hK => ?st14) AllReadyH.nil
            case ho14 => simp only [List.getElem?_toArray, List.getElem?_cons_succ, List.getElem?_cons_zero]; rfl
            case st14 =>
              go_simp
              refine hK.out _ _ hS (fun hS => ?_)
              clear hK K
              try simp only [Act.put, List.setIfInBounds_toArray, List.set_cons_zero, List.set_cons_succ]
              refine wpAnyH_done (by kernel_rfl) ?_ _
              have hP := hS
              clear hS kM
              go_wp2_with ((refine wpList_store_bid (.tmp 4) (.tmp 29) noB noB (w.heap.size + 1 + 1) hP.p ?_ ?_ ?_ ?_ ?_ ?_); (· rfl); (· rfl); (· rfl); (· rfl); (· rfl); replace hP := hP.row noB; obtain ⟨q0, q1⟩ := Blk.c2 hP.q; have fq := hP.q.frozen)
              obtain ⟨l0, l1, hB⟩ := fin_sign hP.p hP.q hP.w ⟨#[]⟩ 0
              exact bodyPost_ret (v := retS noB ⟨#[]⟩ 0 c) (by simp [results, Tryz.results17, asAddr, retS]; rw [l0]; simp only [Result.andThen_ok]; rw [l1]; rfl) rfl ⟨rfl, hB⟩
    case st6 =>
      have hNl := hS.q.lt
      go_simp
      refine hK.out _ _ (hS.below (chain0 Y1 _)) (fun hS => ?_)
      clear hK K
      try simp only [Act.put, List.setIfInBounds_toArray, List.set_cons_zero, List.set_cons_succ]
      have hb := chain0 Y1 (.cells #[.string ⟨#[]⟩, .int .i64 0] 43)
      have kN := Blk.new Y1 43 [.string ⟨#[]⟩, .int .i64 0]
      replace hv1 := bslUp hv1 hb
      clear hb
      generalize hX : Y1.heap.size = N at *
      generalize hY : Y1.alloc _ = U at *
      clear hX hY
      refine wpAnyH_ready (rs := [3]) (by kernel_rfl) (by simp) ?_
      refine' AllReadyH.cons (o := _) ?ho15 (fun K hK => ?st15) AllReadyH.nil
      case ho15 => simp only [List.getElem?_toArray, List.getElem?_cons_succ, List.getElem?_cons_zero]; rfl
      case st15 =>
        go_simp
        refine (HS.out _ _ hv1).mono ?_
        rintro e Y2 ⟨rfl, hb⟩
        refine hK.out _ _ (hS.below hb) (fun hS => ?_)
        clear hK K
        try simp only [Act.put, List.setIfInBounds_toArray, List.set_cons_zero, List.set_cons_succ]
        replace kN := kN.below hb kN.lt
        clear hb hv1
        refine' wpAnyH_take (i := 4) (oi := _) (v := _) ?hi16 (by kernel_rfl) (by kernel_rfl) (by kernel_rfl) ?hQ16 (Or.inl ⟨?hw16, ?hy16⟩) hS ?rest16
        case hi16 => simp only [List.getElem?_toArray, List.getElem?_cons_succ, List.getElem?_cons_zero]; rfl
        case hQ16 => exact fun _ _ _ h => h
        case hw16 => rfl
        case hy16 => intro W' hS'; go_simp; with_reducible rfl
        try simp only [Act.put, List.setIfInBounds_toArray, List.set_cons_zero, List.set_cons_succ]
        refine' wpAnyH_take (i := 5) (oi := _) (v := _) ?hi17 (by kernel_rfl) (by kernel_rfl) (by kernel_rfl) ?hQ17 (Or.inl ⟨?hw17, ?hy17⟩) hS ?rest17
        case hi17 => simp only [List.getElem?_toArray, List.getElem?_cons_succ, List.getElem?_cons_zero]; rfl
        case hQ17 => exact fun _ _ _ h => h
        case hw17 => rfl
        case hy17 => intro W' hS'; go_simp; with_reducible rfl
        try simp only [Act.put, List.setIfInBounds_toArray, List.set_cons_zero, List.set_cons_succ]
        refine' wpAnyH_take (i := 6) (oi := _) (v := _) ?hi18 (by kernel_rfl) (by kernel_rfl) (by kernel_rfl) ?hQ18 (Or.inl ⟨?hw18, ?hy18⟩) hS ?rest18
        case hi18 => simp only [List.getElem?_toArray, List.getElem?_cons_succ, List.getElem?_cons_zero]; rfl
        case hQ18 => exact fun _ _ _ h => h
        case hw18 => rfl
        case hy18 => intro W' hS'; go_simp; with_reducible rfl
        try simp only [Act.put, List.setIfInBounds_toArray, List.set_cons_zero, List.set_cons_succ]
        refine' wpAnyH_take (i := 7) (oi := _) (v := _) ?hi19 (by kernel_rfl) (by kernel_rfl) (by kernel_rfl) ?hQ19 (Or.inl ⟨?hw19, ?hy19⟩) hS ?rest19
        case hi19 => simp only [List.getElem?_toArray, List.getElem?_cons_succ, List.getElem?_cons_zero]; rfl
        case hQ19 => exact fun _ _ _ h => h
        case hw19 => rfl
        case hy19 => intro W' hS'; go_simp; with_reducible rfl
        try simp only [Act.put, List.setIfInBounds_toArray, List.set_cons_zero, List.set_cons_succ]
        refine wpAnyH_ready (rs := [9]) (by kernel_rfl) (by simp) ?_
        refine' AllReadyH.cons (o := _) ?ho20 (fun K hK => ?st20) AllReadyH.nil
        case ho20 => simp only [List.getElem?_toArray, List.getElem?_cons_succ, List.getElem?_cons_zero]; rfl
        case st20 =>
          go_simp
          refine hK.out _ _ hS (fun hS => ?_)
          clear hK K
          try simp only [Act.put, List.setIfInBounds_toArray, List.set_cons_zero, List.set_cons_succ]
          refine wpAnyH_ready (rs := [10]) (by kernel_rfl) (by simp) ?_
          refine' AllReadyH.cons (o := _) ?ho21 (fun K hK => ?st21) AllReadyH.nil
          case ho21 => simp only [List.getElem?_toArray, List.getElem?_cons_succ, List.getElem?_cons_zero]; rfl
          case st21 =>
            obtain ⟨n0, n1⟩ := Blk.c2 kN
            have fn := kN.frozen
            go_simp
            refine hK.out _ _ ((hS.cell hNl 0 _).cell hNl 1 _) (fun hS => ?_)
            clear hK K
            try simp only [Act.put, List.setIfInBounds_toArray, List.set_cons_zero, List.set_cons_succ]
            have kM := (kN.set 0 (.string ⟨#[]⟩)).set 1 (.int .i64 0)
            clear kN n0 n1 fn
            generalize World.setCell (World.setCell _ _ _) _ _ = V at *
            replace kM : Blk V N 43 [.string ⟨#[]⟩, .int .i64 0] := kM
            refine wpAnyH_ready (rs := [11]) (by kernel_rfl) (by simp) ?_
            refine' AllReadyH.cons (o := _) ?ho22 (fun K hK => ?st22) AllReadyH.nil
            case ho22 => simp only [List.getElem?_toArray, List.getElem?_cons_succ, List.getElem?_cons_zero]; rfl
            case st22 =>
              go_simp
              refine hK.out _ _ hS (fun hS => ?_)
              clear hK K
              try simp only [Act.put, List.setIfInBounds_toArray, List.set_cons_zero, List.set_cons_succ]
              refine wpAnyH_done (by kernel_rfl) ?_ _
              have hP := hS
              clear hS kM
              go_wp2_with ((refine wpList_store_bid (.tmp 4) (.tmp 29) noB noB (w.heap.size + 1 + 1) hP.p ?_ ?_ ?_ ?_ ?_ ?_); (· rfl); (· rfl); (· rfl); (· rfl); (· rfl); replace hP := hP.row noB; obtain ⟨q0, q1⟩ := Blk.c2 hP.q; have fq := hP.q.frozen)
              obtain ⟨l0, l1, hB⟩ := fin_sign hP.p hP.q hP.w ⟨#[]⟩ 0
              exact bodyPost_ret (v := retS noB ⟨#[]⟩ 0 c) (by simp [results, Tryz.results17, asAddr, retS]; rw [l0]; simp only [Result.andThen_ok]; rw [l1]; rfl) rfl ⟨rfl, hB⟩
  case st4 =>
    have hNl := hS.q.lt
    go_simp
    refine hK.out _ _ (hS.below (chain0 Y _)) (fun hS => ?_)
    clear hK K
    try simp only [Act.put, List.setIfInBounds_toArray, List.set_cons_zero, List.set_cons_succ]
    have hb := chain0 Y (.cells #[.string ⟨#[]⟩, .int .i64 0] 43)
    have kN := Blk.new Y 43 [.string ⟨#[]⟩, .int .i64 0]
    clear hb
    generalize hX : Y.heap.size = N at *
    generalize hY : Y.alloc _ = U at *
    clear hX hY
    refine wpAnyH_ready (rs := [2]) (by kernel_rfl) (by simp) ?_
    refine' AllReadyH.cons (o := _) ?ho23 (fun K hK => ?st23) AllReadyH.nil
    case ho23 => simp only [List.getElem?_toArray, List.getElem?_cons_succ, List.getElem?_cons_zero]; rfl
    case st23 =>
      go_simp
      refine (HT.out _).mono ?_
      rintro e Y1 ⟨v1, rfl, hv1, hb⟩
      refine hK.out _ _ (hS.below hb) (fun hS => ?_)
      clear hK K
      try simp only [Act.put, List.setIfInBounds_toArray, List.set_cons_zero, List.set_cons_succ]
      replace kN := kN.below hb kN.lt
      clear hb
      refine wpAnyH_ready (rs := [3]) (by kernel_rfl) (by simp) ?_
      refine' AllReadyH.cons (o := _) ?ho24 (fun K hK => ?st24) AllReadyH.nil
      case ho24 => simp only [List.getElem?_toArray, List.getElem?_cons_succ, List.getElem?_cons_zero]; rfl
      case st24 =>
        go_simp
        refine (HS.out _ _ hv1).mono ?_
        rintro e Y2 ⟨rfl, hb⟩
        refine hK.out _ _ (hS.below hb) (fun hS => ?_)
        clear hK K
        try simp only [Act.put, List.setIfInBounds_toArray, List.set_cons_zero, List.set_cons_succ]
        replace kN := kN.below hb kN.lt
        clear hb hv1
        refine' wpAnyH_take (i := 4) (oi := _) (v := _) ?hi25 (by kernel_rfl) (by kernel_rfl) (by kernel_rfl) ?hQ25 (Or.inl ⟨?hw25, ?hy25⟩) hS ?rest25
        case hi25 => simp only [List.getElem?_toArray, List.getElem?_cons_succ, List.getElem?_cons_zero]; rfl
        case hQ25 => exact fun _ _ _ h => h
        case hw25 => rfl
        case hy25 => intro W' hS'; go_simp; with_reducible rfl
        try simp only [Act.put, List.setIfInBounds_toArray, List.set_cons_zero, List.set_cons_succ]
        refine' wpAnyH_take (i := 5) (oi := _) (v := _) ?hi26 (by kernel_rfl) (by kernel_rfl) (by kernel_rfl) ?hQ26 (Or.inl ⟨?hw26, ?hy26⟩) hS ?rest26
        case hi26 => simp only [List.getElem?_toArray, List.getElem?_cons_succ, List.getElem?_cons_zero]; rfl
        case hQ26 => exact fun _ _ _ h => h
        case hw26 => rfl
        case hy26 => intro W' hS'; go_simp; with_reducible rfl
        try simp only [Act.put, List.setIfInBounds_toArray, List.set_cons_zero, List.set_cons_succ]
        refine' wpAnyH_take (i := 6) (oi := _) (v := _) ?hi27 (by kernel_rfl) (by kernel_rfl) (by kernel_rfl) ?hQ27 (Or.inl ⟨?hw27, ?hy27⟩) hS ?rest27
        case hi27 => simp only [List.getElem?_toArray, List.getElem?_cons_succ, List.getElem?_cons_zero]; rfl
        case hQ27 => exact fun _ _ _ h => h
        case hw27 => rfl
        case hy27 => intro W' hS'; go_simp; with_reducible rfl
        try simp only [Act.put, List.setIfInBounds_toArray, List.set_cons_zero, List.set_cons_succ]
        refine' wpAnyH_take (i := 7) (oi := _) (v := _) ?hi28 (by kernel_rfl) (by kernel_rfl) (by kernel_rfl) ?hQ28 (Or.inl ⟨?hw28, ?hy28⟩) hS ?rest28
        case hi28 => simp only [List.getElem?_toArray, List.getElem?_cons_succ, List.getElem?_cons_zero]; rfl
        case hQ28 => exact fun _ _ _ h => h
        case hw28 => rfl
        case hy28 => intro W' hS'; go_simp; with_reducible rfl
        try simp only [Act.put, List.setIfInBounds_toArray, List.set_cons_zero, List.set_cons_succ]
        refine wpAnyH_ready (rs := [9]) (by kernel_rfl) (by simp) ?_
        refine' AllReadyH.cons (o := _) ?ho29 (fun K hK => ?st29) AllReadyH.nil
        case ho29 => simp only [List.getElem?_toArray, List.getElem?_cons_succ, List.getElem?_cons_zero]; rfl
        case st29 =>
          go_simp
          refine hK.out _ _ hS (fun hS => ?_)
          clear hK K
          try simp only [Act.put, List.setIfInBounds_toArray, List.set_cons_zero, List.set_cons_succ]
          refine wpAnyH_ready (rs := [10]) (by kernel_rfl) (by simp) ?_
          refine' AllReadyH.cons (o := _) ?ho30 (fun K hK => ?st30) AllReadyH.nil
          case ho30 => simp only [List.getElem?_toArray, List.getElem?_cons_succ, List.getElem?_cons_zero]; rfl
          case st30 =>
            obtain ⟨n0, n1⟩ := Blk.c2 kN
            have fn := kN.frozen
            go_simp
            refine hK.out _ _ ((hS.cell hNl 0 _).cell hNl 1 _) (fun hS => ?_)
            clear hK K
            try simp only [Act.put, List.setIfInBounds_toArray, List.set_cons_zero, List.set_cons_succ]
            have kM := (kN.set 0 (.string ⟨#[]⟩)).set 1 (.int .i64 0)
            clear kN n0 n1 fn
            generalize World.setCell (World.setCell _ _ _) _ _ = V at *
            replace kM : Blk V N 43 [.string ⟨#[]⟩, .int .i64 0] := kM
            refine wpAnyH_ready (rs := [11]) (by kernel_rfl) (by simp) ?_
            refine' AllReadyH.cons (o := _) ?ho31 (fun K hK => ?st31) AllReadyH.nil
            case ho31 => simp only [List.getElem?_toArray, List.getElem?_cons_succ, List.getElem?_cons_zero]; rfl
            case st31 =>
              go_simp
              refine hK.out _ _ hS (fun hS => ?_)
              clear hK K
              try simp only [Act.put, List.setIfInBounds_toArray, List.set_cons_zero, List.set_cons_succ]
              refine wpAnyH_done (by kernel_rfl) ?_ _
              have hP := hS
              clear hS kM
              go_wp2_with ((refine wpList_store_bid (.tmp 4) (.tmp 29) noB noB (w.heap.size + 1 + 1) hP.p ?_ ?_ ?_ ?_ ?_ ?_); (· rfl); (· rfl); (· rfl); (· rfl); (· rfl); replace hP := hP.row noB; obtain ⟨q0, q1⟩ := Blk.c2 hP.q; have fq := hP.q.frozen)
              obtain ⟨l0, l1, hB⟩ := fin_sign hP.p hP.q hP.w ⟨#[]⟩ 0
              exact bodyPost_ret (v := retS noB ⟨#[]⟩ 0 c) (by simp [results, Tryz.results17, asAddr, retS]; rw [l0]; simp only [Result.andThen_ok]; rw [l1]; rfl) rfl ⟨rfl, hB⟩

set_option maxRecDepth 100000 in
set_option maxHeartbeats 4000000 in
theorem sign_ok (s : ByteArray) (z : Int) (b : Bd) (hb4 : OkB b) (hm : maybeB (plainB b)) (sg ks : ByteArray) (kn : Int) (HS0 : ∀ tx W, BSl 0 W.heap.size W tx (textL (plainB b)) → Calls Tryz.prog 39 #[.agg #[.string s, .int .i64 z], tx] W (fun e W' => e = .returned (.tuple #[.string sg, .agg #[.string ks, .int .i64 kn], .int .i64 0]) ∧ Below W.heap.size W W')) (w : World) :
    Calls Tryz.prog 17 #[.agg #[.string s, .int .i64 z], bdv b] w fun e W' => e = .returned (retS (signedB b sg) ks kn 0) ∧ Below w.heap.size w W' := by
  have hmx : Tryz.prog.follows .mixedOrders = true := by kernel_rfl
  have HC := Lib.hid (check_any (plainB b) (okB_plain hb4))
  have HT := Lib.hid (text8_any (plainB b) (okB_plain hb4))
  have HE := Lib.hid (errB_zero hm)
  have HS := Lib.hid HS0
  clear hm HS0
  generalize textL (plainB b) = tl at *
  go_enter Tryz.func17, Tryz.ntmps17
  go_upto_region 2 with fail
  generalize hW0 : World.alloc _ _ = W0
  have hP : SgW s z (plainB b) noB w W0 := by
    have b3 := chainA (chainA (chainA (chain0 w (.cells #[.string s, .int .i64 z] 43)) (.cells (bdc (plainB b)).toArray 28)) (.cells (bdc noB).toArray 28)) (.cells #[.string ⟨#[]⟩, .int .i64 0] 43)
    rw [← hW0]
    exact ⟨(((Blk.new w _ [_, _]).alloc _).alloc _).alloc _, ((Blk.new' (vs := bdc (plainB b)) (by simp)).alloc _).alloc _, (Blk.new' (vs := bdc noB) (by simp)).alloc _, Blk.new' (vs := [_, _]) (by simp), b3⟩
  clear hW0
  go_upto_region 5 with (first
    | (refine wpList_loadIf 28 (.tmp 3) rfl _ rfl rfl (bdv (plainB b)) (load_bid hP.b) ?_)
    | (go_at_call 8; refine (HC.out _).mono ?_; rw [HE.out]; rintro e W1 ⟨rfl, hb1⟩; replace hP := hP.below hb1; clear hb1))
  refine wp_region_held_drew (S := fun W => SgW s z (plainB b) noB w W) hmx hP.drew ?_
  intro hS
  clear hP
  generalize World.drew _ = Y at *
  refine' wpAnyH_take (i := 0) (oi := _) (v := _) ?hi32 (by kernel_rfl) (by kernel_rfl) (by kernel_rfl) ?hQ32 (Or.inl ⟨?hw32, ?hy32⟩) hS ?rest32
  case hi32 => simp only [List.getElem?_toArray, List.getElem?_cons_zero]; rfl
  case hQ32 => exact fun _ _ _ h => h
  case hw32 => rfl
  case hy32 => intro W' hS'; obtain ⟨a0, a1⟩ := Blk.c2 hS'.k; go_simp; with_reducible rfl
  try simp only [Act.put, List.setIfInBounds_toArray, List.set_cons_zero, List.set_cons_succ]
  refine' wpAnyH_take (i := 1) (oi := _) (v := bdv (plainB b)) ?hi33 (by kernel_rfl) (by kernel_rfl) (by kernel_rfl) ?hQ33 (Or.inl ⟨?hw33, ?hy33⟩) hS ?rest33
  case hi33 => simp only [List.getElem?_toArray, List.getElem?_cons_succ, List.getElem?_cons_zero]; rfl
  case hQ33 => exact fun _ _ _ h => h
  case hw33 => rfl
  case hy33 => exact fun W' hS' => exec_load 28 (.tmp 3) rfl _ W' (load_bid hS'.b)
  try simp only [Act.put, List.setIfInBounds_toArray, List.set_cons_zero, List.set_cons_succ]
  refine wpAnyH_ready (rs := [2, 8]) (by kernel_rfl) (by simp) ?_
  refine' AllReadyH.cons (o := _) ?ho34 (fun K hK => ?st34) (AllReadyH.cons (o := _) ?ho35 (fun K hK => ?st35) AllReadyH.nil)
  case ho34 => simp only [List.getElem?_toArray, List.getElem?_cons_succ, List.getElem?_cons_zero]; rfl
  case ho35 => simp only [List.getElem?_toArray, List.getElem?_cons_succ, List.getElem?_cons_zero]; rfl
  case st34 =>
    go_simp
    refine (HT.out _).mono ?_
    rintro e Y1 ⟨v1, rfl, hv1, hb⟩
    refine hK.out _ _ (hS.below hb) (fun hS => ?_)
    clear hK K
    try simp only [Act.put, List.setIfInBounds_toArray, List.set_cons_zero, List.set_cons_succ]
    clear hb
    refine wpAnyH_ready (rs := [3, 8]) (by kernel_rfl) (by simp) ?_
    refine' AllReadyH.cons (o := _) ?ho36 (fun K hK => ?st36) (AllReadyH.cons (o := _) ?ho37 (fun K hK => ?st37) AllReadyH.nil)
    case ho36 => simp only [List.getElem?_toArray, List.getElem?_cons_succ, List.getElem?_cons_zero]; rfl
    case ho37 => simp only [List.getElem?_toArray, List.getElem?_cons_succ, List.getElem?_cons_zero]; rfl
    case st36 =>
      go_simp
      refine (HS.out _ _ hv1).mono ?_
      rintro e Y2 ⟨rfl, hb⟩
      refine hK.out _ _ (hS.below hb) (fun hS => ?_)
      clear hK K
      try simp only [Act.put, List.setIfInBounds_toArray, List.set_cons_zero, List.set_cons_succ]
      clear hb hv1
      refine' wpAnyH_take (i := 4) (oi := _) (v := _) ?hi38 (by kernel_rfl) (by kernel_rfl) (by kernel_rfl) ?hQ38 (Or.inl ⟨?hw38, ?hy38⟩) hS ?rest38
      case hi38 => simp only [List.getElem?_toArray, List.getElem?_cons_succ, List.getElem?_cons_zero]; rfl
      case hQ38 => exact fun _ _ _ h => h
      case hw38 => rfl
      case hy38 => intro W' hS'; go_simp; with_reducible rfl
      try simp only [Act.put, List.setIfInBounds_toArray, List.set_cons_zero, List.set_cons_succ]
      refine' wpAnyH_take (i := 5) (oi := _) (v := _) ?hi39 (by kernel_rfl) (by kernel_rfl) (by kernel_rfl) ?hQ39 (Or.inl ⟨?hw39, ?hy39⟩) hS ?rest39
      case hi39 => simp only [List.getElem?_toArray, List.getElem?_cons_succ, List.getElem?_cons_zero]; rfl
      case hQ39 => exact fun _ _ _ h => h
      case hw39 => rfl
      case hy39 => intro W' hS'; go_simp; with_reducible rfl
      try simp only [Act.put, List.setIfInBounds_toArray, List.set_cons_zero, List.set_cons_succ]
      refine' wpAnyH_take (i := 6) (oi := _) (v := _) ?hi40 (by kernel_rfl) (by kernel_rfl) (by kernel_rfl) ?hQ40 (Or.inl ⟨?hw40, ?hy40⟩) hS ?rest40
      case hi40 => simp only [List.getElem?_toArray, List.getElem?_cons_succ, List.getElem?_cons_zero]; rfl
      case hQ40 => exact fun _ _ _ h => h
      case hw40 => rfl
      case hy40 => intro W' hS'; go_simp; with_reducible rfl
      try simp only [Act.put, List.setIfInBounds_toArray, List.set_cons_zero, List.set_cons_succ]
      refine' wpAnyH_take (i := 7) (oi := _) (v := _) ?hi41 (by kernel_rfl) (by kernel_rfl) (by kernel_rfl) ?hQ41 (Or.inl ⟨?hw41, ?hy41⟩) hS ?rest41
      case hi41 => simp only [List.getElem?_toArray, List.getElem?_cons_succ, List.getElem?_cons_zero]; rfl
      case hQ41 => exact fun _ _ _ h => h
      case hw41 => rfl
      case hy41 => intro W' hS'; go_simp; with_reducible rfl
      try simp only [Act.put, List.setIfInBounds_toArray, List.set_cons_zero, List.set_cons_succ]
      refine wpAnyH_ready (rs := [8]) (by kernel_rfl) (by simp) ?_
      refine' AllReadyH.cons (o := _) ?ho42 (fun K hK => ?st42) AllReadyH.nil
      case ho42 => simp only [List.getElem?_toArray, List.getElem?_cons_succ, List.getElem?_cons_zero]; rfl
      case st42 =>
        have hNl := hS.q.lt
        go_simp
        refine hK.out _ _ (hS.below (chain0 Y2 _)) (fun hS => ?_)
        clear hK K
        try simp only [Act.put, List.setIfInBounds_toArray, List.set_cons_zero, List.set_cons_succ]
        have hb := chain0 Y2 (.cells #[.string ⟨#[]⟩, .int .i64 0] 43)
        have kN := Blk.new Y2 43 [.string ⟨#[]⟩, .int .i64 0]
        clear hb
        generalize hX : Y2.heap.size = N at *
        generalize hY : Y2.alloc _ = U at *
        clear hX hY
        refine wpAnyH_ready (rs := [9]) (by kernel_rfl) (by simp) ?_
        refine' AllReadyH.cons (o := _) ?ho43 (fun K hK => ?st43) AllReadyH.nil
        case ho43 => simp only [List.getElem?_toArray, List.getElem?_cons_succ, List.getElem?_cons_zero]; rfl
        case st43 =>
          go_simp
          refine hK.out _ _ hS (fun hS => ?_)
          clear hK K
          try simp only [Act.put, List.setIfInBounds_toArray, List.set_cons_zero, List.set_cons_succ]
          refine wpAnyH_ready (rs := [10]) (by kernel_rfl) (by simp) ?_
          refine' AllReadyH.cons (o := _) ?ho44 (fun K hK => ?st44) AllReadyH.nil
          case ho44 => simp only [List.getElem?_toArray, List.getElem?_cons_succ, List.getElem?_cons_zero]; rfl
          case st44 =>
            obtain ⟨n0, n1⟩ := Blk.c2 kN
            have fn := kN.frozen
            go_simp
            refine hK.out _ _ ((hS.cell hNl 0 _).cell hNl 1 _) (fun hS => ?_)
            clear hK K
            try simp only [Act.put, List.setIfInBounds_toArray, List.set_cons_zero, List.set_cons_succ]
            have kM := (kN.set 0 (.string ks)).set 1 (.int .i64 kn)
            clear kN n0 n1 fn
            generalize World.setCell (World.setCell _ _ _) _ _ = V at *
            replace kM : Blk V N 43 [.string ks, .int .i64 kn] := kM
            refine wpAnyH_ready (rs := [11]) (by kernel_rfl) (by simp) ?_
            refine' AllReadyH.cons (o := _) ?ho45 (fun K hK => ?st45) AllReadyH.nil
            case ho45 => simp only [List.getElem?_toArray, List.getElem?_cons_succ, List.getElem?_cons_zero]; rfl
            case st45 =>
              go_simp
              refine hK.out _ _ hS (fun hS => ?_)
              clear hK K
              try simp only [Act.put, List.setIfInBounds_toArray, List.set_cons_zero, List.set_cons_succ]
              refine wpAnyH_done (by kernel_rfl) ?_ _
              have z15 := (hS.b.cell 15).trans rfl
              have f15 := hS.b.frozen 15
              go_upto_region 9 with fail
              have hP := hS.set sg
              replace kM := kM.other (B' := w.heap.size + 1) 15 (.string sg) (by omega)
              clear hS z15 f15
              generalize World.setCell _ _ _ = V2 at *
              refine wp_region_held_drew (S := fun W => Blk W (w.heap.size + 1) 28 (bdc (signedB b sg)) ∧ Blk W N 43 [.string ks, .int .i64 kn]) hmx ⟨hP.b, kM⟩ ?_
              intro hS
              have hp : Blk V2.drew (w.heap.size + 1 + 1) 28 (bdc noB) := hP.p
              have hq : Blk V2.drew (w.heap.size + 1 + 1 + 1) 43 [.string ⟨#[]⟩, .int .i64 0] := hP.q
              have hB := hP.w.drew
              clear hP kM
              generalize V2.drew = Y5 at *
              refine' wpAnyH_take (i := 0) (oi := _) (v := bdv (signedB b sg)) ?hi46 (by kernel_rfl) (by kernel_rfl) (by kernel_rfl) ?hQ46 (Or.inl ⟨?hw46, ?hy46⟩) hS ?rest46
              case hi46 => simp only [List.getElem?_toArray, List.getElem?_cons_zero]; rfl
              case hQ46 => exact fun _ _ _ h => h
              case hw46 => rfl
              case hy46 => exact fun W' hS' => exec_load 28 (.tmp 3) rfl _ W' (load_bid hS'.1)
              try simp only [Act.put, List.setIfInBounds_toArray, List.set_cons_zero, List.set_cons_succ]
              refine' wpAnyH_take (i := 1) (oi := _) (v := _) ?hi47 (by kernel_rfl) (by kernel_rfl) (by kernel_rfl) ?hQ47 (Or.inl ⟨?hw47, ?hy47⟩) hS ?rest47
              case hi47 => simp only [List.getElem?_toArray, List.getElem?_cons_succ, List.getElem?_cons_zero]; rfl
              case hQ47 => exact fun _ _ _ h => h
              case hw47 => rfl
              case hy47 => intro W' hS'; obtain ⟨a0, a1⟩ := Blk.c2 hS'.2; go_simp; with_reducible rfl
              try simp only [Act.put, List.setIfInBounds_toArray, List.set_cons_zero, List.set_cons_succ]
              refine wpAnyH_ready (rs := [2]) (by kernel_rfl) (by simp) ?_
              refine' AllReadyH.cons (o := _) ?ho48 (fun K hK => ?st48) AllReadyH.nil
              case ho48 => simp only [List.getElem?_toArray, List.getElem?_cons_succ, List.getElem?_cons_zero]; rfl
              case st48 =>
                refine wp_store_bid (.tmp 4) (.tmp 34) noB (signedB b sg) (w.heap.size + 1 + 1) hp ?_ ?_ ?_ ?_ ?_
                · rfl
                · rfl
                · rfl
                · rfl
                refine hK.out _ _ ⟨hS.1.rowO _ (by omega), hS.2.rowO _ (by omega)⟩ (fun hS => ?_)
                clear hK K
                try simp only [Act.put, List.setIfInBounds_toArray, List.set_cons_zero, List.set_cons_succ]
                replace hp := hp.row (bdc (signedB b sg))
                replace hq := hq.rowO (g := w.heap.size + 1 + 1) (bdc (signedB b sg)).toArray (by omega)
                replace hB := below_setRow hB (by omega : w.heap.size ≤ w.heap.size + 1 + 1) (bdc (signedB b sg)).toArray
                generalize World.setRow _ _ _ = Y6 at *
                refine wpAnyH_ready (rs := [3]) (by kernel_rfl) (by simp) ?_
                refine' AllReadyH.cons (o := _) ?ho49 (fun K hK => ?st49) AllReadyH.nil
                case ho49 => simp only [List.getElem?_toArray, List.getElem?_cons_succ, List.getElem?_cons_zero]; rfl
                case st49 =>
                  obtain ⟨q0, q1⟩ := Blk.c2 hq
                  have fq := hq.frozen
                  go_simp
                  refine hK.out _ _ ⟨(hS.1.other 0 _ (by omega)).other 1 _ (by omega), (hS.2.other 0 _ (by omega)).other 1 _ (by omega)⟩ (fun hS => ?_)
                  clear hK K
                  try simp only [Act.put, List.setIfInBounds_toArray, List.set_cons_zero, List.set_cons_succ]
                  refine wpAnyH_ready (rs := [4]) (by kernel_rfl) (by simp) ?_
                  refine' AllReadyH.cons (o := _) ?ho50 (fun K hK => ?st50) AllReadyH.nil
                  case ho50 => simp only [List.getElem?_toArray, List.getElem?_cons_succ, List.getElem?_cons_zero]; rfl
                  case st50 =>
                    go_simp
                    refine hK.out _ _ hS (fun hS => ?_)
                    clear hK K
                    try simp only [Act.put, List.setIfInBounds_toArray, List.set_cons_zero, List.set_cons_succ]
                    refine wpAnyH_done (by kernel_rfl) ?_ _
                    go_wp2_with fail
                    obtain ⟨l0, l1, hB⟩ := fin_sign hp hq hB ks kn
                    exact bodyPost_ret (v := retS (signedB b sg) ks kn 0) (by simp [results, Tryz.results17, asAddr, retS]; rw [l0]; simp only [Result.andThen_ok]; rw [l1]; rfl) rfl ⟨rfl, hB⟩
    case st37 =>
      have hNl := hS.q.lt
      go_simp
      refine hK.out _ _ (hS.below (chain0 Y1 _)) (fun hS => ?_)
      clear hK K
      try simp only [Act.put, List.setIfInBounds_toArray, List.set_cons_zero, List.set_cons_succ]
      have hb := chain0 Y1 (.cells #[.string ⟨#[]⟩, .int .i64 0] 43)
      have kN := Blk.new Y1 43 [.string ⟨#[]⟩, .int .i64 0]
      replace hv1 := bslUp hv1 hb
      clear hb
      generalize hX : Y1.heap.size = N at *
      generalize hY : Y1.alloc _ = U at *
      clear hX hY
      refine wpAnyH_ready (rs := [3]) (by kernel_rfl) (by simp) ?_
      refine' AllReadyH.cons (o := _) ?ho51 (fun K hK => ?st51) AllReadyH.nil
      case ho51 => simp only [List.getElem?_toArray, List.getElem?_cons_succ, List.getElem?_cons_zero]; rfl
      case st51 =>
        go_simp
        refine (HS.out _ _ hv1).mono ?_
        rintro e Y2 ⟨rfl, hb⟩
        refine hK.out _ _ (hS.below hb) (fun hS => ?_)
        clear hK K
        try simp only [Act.put, List.setIfInBounds_toArray, List.set_cons_zero, List.set_cons_succ]
        replace kN := kN.below hb kN.lt
        clear hb hv1
        refine' wpAnyH_take (i := 4) (oi := _) (v := _) ?hi52 (by kernel_rfl) (by kernel_rfl) (by kernel_rfl) ?hQ52 (Or.inl ⟨?hw52, ?hy52⟩) hS ?rest52
        case hi52 => simp only [List.getElem?_toArray, List.getElem?_cons_succ, List.getElem?_cons_zero]; rfl
        case hQ52 => exact fun _ _ _ h => h
        case hw52 => rfl
        case hy52 => intro W' hS'; go_simp; with_reducible rfl
        try simp only [Act.put, List.setIfInBounds_toArray, List.set_cons_zero, List.set_cons_succ]
        refine' wpAnyH_take (i := 5) (oi := _) (v := _) ?hi53 (by kernel_rfl) (by kernel_rfl) (by kernel_rfl) ?hQ53 (Or.inl ⟨?hw53, ?hy53⟩) hS ?rest53
        case hi53 => simp only [List.getElem?_toArray, List.getElem?_cons_succ, List.getElem?_cons_zero]; rfl
        case hQ53 => exact fun _ _ _ h => h
        case hw53 => rfl
        case hy53 => intro W' hS'; go_simp; with_reducible rfl
        try simp only [Act.put, List.setIfInBounds_toArray, List.set_cons_zero, List.set_cons_succ]
        refine' wpAnyH_take (i := 6) (oi := _) (v := _) ?hi54 (by kernel_rfl) (by kernel_rfl) (by kernel_rfl) ?hQ54 (Or.inl ⟨?hw54, ?hy54⟩) hS ?rest54
        case hi54 => simp only [List.getElem?_toArray, List.getElem?_cons_succ, List.getElem?_cons_zero]; rfl
        case hQ54 => exact fun _ _ _ h => h
        case hw54 => rfl
        case hy54 => intro W' hS'; go_simp; with_reducible rfl
        try simp only [Act.put, List.setIfInBounds_toArray, List.set_cons_zero, List.set_cons_succ]
        refine' wpAnyH_take (i := 7) (oi := _) (v := _) ?hi55 (by kernel_rfl) (by kernel_rfl) (by kernel_rfl) ?hQ55 (Or.inl ⟨?hw55, ?hy55⟩) hS ?rest55
        case hi55 => simp only [List.getElem?_toArray, List.getElem?_cons_succ, List.getElem?_cons_zero]; rfl
        case hQ55 => exact fun _ _ _ h => h
        case hw55 => rfl
        case hy55 => intro W' hS'; go_simp; with_reducible rfl
        try simp only [Act.put, List.setIfInBounds_toArray, List.set_cons_zero, List.set_cons_succ]
        refine wpAnyH_ready (rs := [9]) (by kernel_rfl) (by simp) ?_
        refine' AllReadyH.cons (o := _) ?ho56 (fun K hK => ?st56) AllReadyH.nil
        case ho56 => simp only [List.getElem?_toArray, List.getElem?_cons_succ, List.getElem?_cons_zero]; rfl
        case st56 =>
          go_simp
          refine hK.out _ _ hS (fun hS => ?_)
          clear hK K
          try simp only [Act.put, List.setIfInBounds_toArray, List.set_cons_zero, List.set_cons_succ]
          refine wpAnyH_ready (rs := [10]) (by kernel_rfl) (by simp) ?_
          refine' AllReadyH.cons (o := _) ?ho57 (fun K hK => ?st57) AllReadyH.nil
          case ho57 => simp only [List.getElem?_toArray, List.getElem?_cons_succ, List.getElem?_cons_zero]; rfl
          case st57 =>
            obtain ⟨n0, n1⟩ := Blk.c2 kN
            have fn := kN.frozen
            go_simp
            refine hK.out _ _ ((hS.cell hNl 0 _).cell hNl 1 _) (fun hS => ?_)
            clear hK K
            try simp only [Act.put, List.setIfInBounds_toArray, List.set_cons_zero, List.set_cons_succ]
            have kM := (kN.set 0 (.string ks)).set 1 (.int .i64 kn)
            clear kN n0 n1 fn
            generalize World.setCell (World.setCell _ _ _) _ _ = V at *
            replace kM : Blk V N 43 [.string ks, .int .i64 kn] := kM
            refine wpAnyH_ready (rs := [11]) (by kernel_rfl) (by simp) ?_
            refine' AllReadyH.cons (o := _) ?ho58 (fun K hK => ?st58) AllReadyH.nil
            case ho58 => simp only [List.getElem?_toArray, List.getElem?_cons_succ, List.getElem?_cons_zero]; rfl
            case st58 =>
              go_simp
              refine hK.out _ _ hS (fun hS => ?_)
              clear hK K
              try simp only [Act.put, List.setIfInBounds_toArray, List.set_cons_zero, List.set_cons_succ]
              refine wpAnyH_done (by kernel_rfl) ?_ _
              have z15 := (hS.b.cell 15).trans rfl
              have f15 := hS.b.frozen 15
              go_upto_region 9 with fail
              have hP := hS.set sg
              replace kM := kM.other (B' := w.heap.size + 1) 15 (.string sg) (by omega)
              clear hS z15 f15
              generalize World.setCell _ _ _ = V2 at *
              refine wp_region_held_drew (S := fun W => Blk W (w.heap.size + 1) 28 (bdc (signedB b sg)) ∧ Blk W N 43 [.string ks, .int .i64 kn]) hmx ⟨hP.b, kM⟩ ?_
              intro hS
              have hp : Blk V2.drew (w.heap.size + 1 + 1) 28 (bdc noB) := hP.p
              have hq : Blk V2.drew (w.heap.size + 1 + 1 + 1) 43 [.string ⟨#[]⟩, .int .i64 0] := hP.q
              have hB := hP.w.drew
              clear hP kM
              generalize V2.drew = Y5 at *
              refine' wpAnyH_take (i := 0) (oi := _) (v := bdv (signedB b sg)) ?hi59 (by kernel_rfl) (by kernel_rfl) (by kernel_rfl) ?hQ59 (Or.inl ⟨?hw59, ?hy59⟩) hS ?rest59
              case hi59 => simp only [List.getElem?_toArray, List.getElem?_cons_zero]; rfl
              case hQ59 => exact fun _ _ _ h => h
              case hw59 => rfl
              case hy59 => exact fun W' hS' => exec_load 28 (.tmp 3) rfl _ W' (load_bid hS'.1)
              try simp only [Act.put, List.setIfInBounds_toArray, List.set_cons_zero, List.set_cons_succ]
              refine' wpAnyH_take (i := 1) (oi := _) (v := _) ?hi60 (by kernel_rfl) (by kernel_rfl) (by kernel_rfl) ?hQ60 (Or.inl ⟨?hw60, ?hy60⟩) hS ?rest60
              case hi60 => simp only [List.getElem?_toArray, List.getElem?_cons_succ, List.getElem?_cons_zero]; rfl
              case hQ60 => exact fun _ _ _ h => h
              case hw60 => rfl
              case hy60 => intro W' hS'; obtain ⟨a0, a1⟩ := Blk.c2 hS'.2; go_simp; with_reducible rfl
              try simp only [Act.put, List.setIfInBounds_toArray, List.set_cons_zero, List.set_cons_succ]
              refine wpAnyH_ready (rs := [2]) (by kernel_rfl) (by simp) ?_
              refine' AllReadyH.cons (o := _) ?ho61 (fun K hK => ?st61) AllReadyH.nil
              case ho61 => simp only [List.getElem?_toArray, List.getElem?_cons_succ, List.getElem?_cons_zero]; rfl
              case st61 =>
                refine wp_store_bid (.tmp 4) (.tmp 34) noB (signedB b sg) (w.heap.size + 1 + 1) hp ?_ ?_ ?_ ?_ ?_
                · rfl
                · rfl
                · rfl
                · rfl
                refine hK.out _ _ ⟨hS.1.rowO _ (by omega), hS.2.rowO _ (by omega)⟩ (fun hS => ?_)
                clear hK K
                try simp only [Act.put, List.setIfInBounds_toArray, List.set_cons_zero, List.set_cons_succ]
                replace hp := hp.row (bdc (signedB b sg))
                replace hq := hq.rowO (g := w.heap.size + 1 + 1) (bdc (signedB b sg)).toArray (by omega)
                replace hB := below_setRow hB (by omega : w.heap.size ≤ w.heap.size + 1 + 1) (bdc (signedB b sg)).toArray
                generalize World.setRow _ _ _ = Y6 at *
                refine wpAnyH_ready (rs := [3]) (by kernel_rfl) (by simp) ?_
                refine' AllReadyH.cons (o := _) ?ho62 (fun K hK => ?st62) AllReadyH.nil
                case ho62 => simp only [List.getElem?_toArray, List.getElem?_cons_succ, List.getElem?_cons_zero]; rfl
                case st62 =>
                  obtain ⟨q0, q1⟩ := Blk.c2 hq
                  have fq := hq.frozen
                  go_simp
                  refine hK.out _ _ ⟨(hS.1.other 0 _ (by omega)).other 1 _ (by omega), (hS.2.other 0 _ (by omega)).other 1 _ (by omega)⟩ (fun hS => ?_)
                  clear hK K
                  try simp only [Act.put, List.setIfInBounds_toArray, List.set_cons_zero, List.set_cons_succ]
                  refine wpAnyH_ready (rs := [4]) (by kernel_rfl) (by simp) ?_
                  refine' AllReadyH.cons (o := _) ?ho63 (fun K hK => ?st63) AllReadyH.nil
                  case ho63 => simp only [List.getElem?_toArray, List.getElem?_cons_succ, List.getElem?_cons_zero]; rfl
                  case st63 =>
                    go_simp
                    refine hK.out _ _ hS (fun hS => ?_)
                    clear hK K
                    try simp only [Act.put, List.setIfInBounds_toArray, List.set_cons_zero, List.set_cons_succ]
                    refine wpAnyH_done (by kernel_rfl) ?_ _
                    go_wp2_with fail
                    obtain ⟨l0, l1, hB⟩ := fin_sign hp hq hB ks kn
                    exact bodyPost_ret (v := retS (signedB b sg) ks kn 0) (by simp [results, Tryz.results17, asAddr, retS]; rw [l0]; simp only [Result.andThen_ok]; rw [l1]; rfl) rfl ⟨rfl, hB⟩
  case st35 =>
    have hNl := hS.q.lt
    go_simp
    refine hK.out _ _ (hS.below (chain0 Y _)) (fun hS => ?_)
    clear hK K
    try simp only [Act.put, List.setIfInBounds_toArray, List.set_cons_zero, List.set_cons_succ]
    have hb := chain0 Y (.cells #[.string ⟨#[]⟩, .int .i64 0] 43)
    have kN := Blk.new Y 43 [.string ⟨#[]⟩, .int .i64 0]
    clear hb
    generalize hX : Y.heap.size = N at *
    generalize hY : Y.alloc _ = U at *
    clear hX hY
    refine wpAnyH_ready (rs := [2]) (by kernel_rfl) (by simp) ?_
    refine' AllReadyH.cons (o := _) ?ho64 (fun K hK => ?st64) AllReadyH.nil
    case ho64 => simp only [List.getElem?_toArray, List.getElem?_cons_succ, List.getElem?_cons_zero]; rfl
    case st64 =>
      go_simp
      refine (HT.out _).mono ?_
      rintro e Y1 ⟨v1, rfl, hv1, hb⟩
      refine hK.out _ _ (hS.below hb) (fun hS => ?_)
      clear hK K
      try simp only [Act.put, List.setIfInBounds_toArray, List.set_cons_zero, List.set_cons_succ]
      replace kN := kN.below hb kN.lt
      clear hb
      refine wpAnyH_ready (rs := [3]) (by kernel_rfl) (by simp) ?_
      refine' AllReadyH.cons (o := _) ?ho65 (fun K hK => ?st65) AllReadyH.nil
      case ho65 => simp only [List.getElem?_toArray, List.getElem?_cons_succ, List.getElem?_cons_zero]; rfl
      case st65 =>
        go_simp
        refine (HS.out _ _ hv1).mono ?_
        rintro e Y2 ⟨rfl, hb⟩
        refine hK.out _ _ (hS.below hb) (fun hS => ?_)
        clear hK K
        try simp only [Act.put, List.setIfInBounds_toArray, List.set_cons_zero, List.set_cons_succ]
        replace kN := kN.below hb kN.lt
        clear hb hv1
        refine' wpAnyH_take (i := 4) (oi := _) (v := _) ?hi66 (by kernel_rfl) (by kernel_rfl) (by kernel_rfl) ?hQ66 (Or.inl ⟨?hw66, ?hy66⟩) hS ?rest66
        case hi66 => simp only [List.getElem?_toArray, List.getElem?_cons_succ, List.getElem?_cons_zero]; rfl
        case hQ66 => exact fun _ _ _ h => h
        case hw66 => rfl
        case hy66 => intro W' hS'; go_simp; with_reducible rfl
        try simp only [Act.put, List.setIfInBounds_toArray, List.set_cons_zero, List.set_cons_succ]
        refine' wpAnyH_take (i := 5) (oi := _) (v := _) ?hi67 (by kernel_rfl) (by kernel_rfl) (by kernel_rfl) ?hQ67 (Or.inl ⟨?hw67, ?hy67⟩) hS ?rest67
        case hi67 => simp only [List.getElem?_toArray, List.getElem?_cons_succ, List.getElem?_cons_zero]; rfl
        case hQ67 => exact fun _ _ _ h => h
        case hw67 => rfl
        case hy67 => intro W' hS'; go_simp; with_reducible rfl
        try simp only [Act.put, List.setIfInBounds_toArray, List.set_cons_zero, List.set_cons_succ]
        refine' wpAnyH_take (i := 6) (oi := _) (v := _) ?hi68 (by kernel_rfl) (by kernel_rfl) (by kernel_rfl) ?hQ68 (Or.inl ⟨?hw68, ?hy68⟩) hS ?rest68
        case hi68 => simp only [List.getElem?_toArray, List.getElem?_cons_succ, List.getElem?_cons_zero]; rfl
        case hQ68 => exact fun _ _ _ h => h
        case hw68 => rfl
        case hy68 => intro W' hS'; go_simp; with_reducible rfl
        try simp only [Act.put, List.setIfInBounds_toArray, List.set_cons_zero, List.set_cons_succ]
        refine' wpAnyH_take (i := 7) (oi := _) (v := _) ?hi69 (by kernel_rfl) (by kernel_rfl) (by kernel_rfl) ?hQ69 (Or.inl ⟨?hw69, ?hy69⟩) hS ?rest69
        case hi69 => simp only [List.getElem?_toArray, List.getElem?_cons_succ, List.getElem?_cons_zero]; rfl
        case hQ69 => exact fun _ _ _ h => h
        case hw69 => rfl
        case hy69 => intro W' hS'; go_simp; with_reducible rfl
        try simp only [Act.put, List.setIfInBounds_toArray, List.set_cons_zero, List.set_cons_succ]
        refine wpAnyH_ready (rs := [9]) (by kernel_rfl) (by simp) ?_
        refine' AllReadyH.cons (o := _) ?ho70 (fun K hK => ?st70) AllReadyH.nil
        case ho70 => simp only [List.getElem?_toArray, List.getElem?_cons_succ, List.getElem?_cons_zero]; rfl
        case st70 =>
          go_simp
          refine hK.out _ _ hS (fun hS => ?_)
          clear hK K
          try simp only [Act.put, List.setIfInBounds_toArray, List.set_cons_zero, List.set_cons_succ]
          refine wpAnyH_ready (rs := [10]) (by kernel_rfl) (by simp) ?_
          refine' AllReadyH.cons (o := _) ?ho71 (fun K hK => ?st71) AllReadyH.nil
          case ho71 => simp only [List.getElem?_toArray, List.getElem?_cons_succ, List.getElem?_cons_zero]; rfl
          case st71 =>
            obtain ⟨n0, n1⟩ := Blk.c2 kN
            have fn := kN.frozen
            go_simp
            refine hK.out _ _ ((hS.cell hNl 0 _).cell hNl 1 _) (fun hS => ?_)
            clear hK K
            try simp only [Act.put, List.setIfInBounds_toArray, List.set_cons_zero, List.set_cons_succ]
            have kM := (kN.set 0 (.string ks)).set 1 (.int .i64 kn)
            clear kN n0 n1 fn
            generalize World.setCell (World.setCell _ _ _) _ _ = V at *
            replace kM : Blk V N 43 [.string ks, .int .i64 kn] := kM
            refine wpAnyH_ready (rs := [11]) (by kernel_rfl) (by simp) ?_
            refine' AllReadyH.cons (o := _) ?ho72 (fun K hK => ?st72) AllReadyH.nil
            case ho72 => simp only [List.getElem?_toArray, List.getElem?_cons_succ, List.getElem?_cons_zero]; rfl
            case st72 =>
              go_simp
              refine hK.out _ _ hS (fun hS => ?_)
              clear hK K
              try simp only [Act.put, List.setIfInBounds_toArray, List.set_cons_zero, List.set_cons_succ]
              refine wpAnyH_done (by kernel_rfl) ?_ _
              have z15 := (hS.b.cell 15).trans rfl
              have f15 := hS.b.frozen 15
              go_upto_region 9 with fail
              have hP := hS.set sg
              replace kM := kM.other (B' := w.heap.size + 1) 15 (.string sg) (by omega)
              clear hS z15 f15
              generalize World.setCell _ _ _ = V2 at *
              refine wp_region_held_drew (S := fun W => Blk W (w.heap.size + 1) 28 (bdc (signedB b sg)) ∧ Blk W N 43 [.string ks, .int .i64 kn]) hmx ⟨hP.b, kM⟩ ?_
              intro hS
              have hp : Blk V2.drew (w.heap.size + 1 + 1) 28 (bdc noB) := hP.p
              have hq : Blk V2.drew (w.heap.size + 1 + 1 + 1) 43 [.string ⟨#[]⟩, .int .i64 0] := hP.q
              have hB := hP.w.drew
              clear hP kM
              generalize V2.drew = Y5 at *
              refine' wpAnyH_take (i := 0) (oi := _) (v := bdv (signedB b sg)) ?hi73 (by kernel_rfl) (by kernel_rfl) (by kernel_rfl) ?hQ73 (Or.inl ⟨?hw73, ?hy73⟩) hS ?rest73
              case hi73 => simp only [List.getElem?_toArray, List.getElem?_cons_zero]; rfl
              case hQ73 => exact fun _ _ _ h => h
              case hw73 => rfl
              case hy73 => exact fun W' hS' => exec_load 28 (.tmp 3) rfl _ W' (load_bid hS'.1)
              try simp only [Act.put, List.setIfInBounds_toArray, List.set_cons_zero, List.set_cons_succ]
              refine' wpAnyH_take (i := 1) (oi := _) (v := _) ?hi74 (by kernel_rfl) (by kernel_rfl) (by kernel_rfl) ?hQ74 (Or.inl ⟨?hw74, ?hy74⟩) hS ?rest74
              case hi74 => simp only [List.getElem?_toArray, List.getElem?_cons_succ, List.getElem?_cons_zero]; rfl
              case hQ74 => exact fun _ _ _ h => h
              case hw74 => rfl
              case hy74 => intro W' hS'; obtain ⟨a0, a1⟩ := Blk.c2 hS'.2; go_simp; with_reducible rfl
              try simp only [Act.put, List.setIfInBounds_toArray, List.set_cons_zero, List.set_cons_succ]
              refine wpAnyH_ready (rs := [2]) (by kernel_rfl) (by simp) ?_
              refine' AllReadyH.cons (o := _) ?ho75 (fun K hK => ?st75) AllReadyH.nil
              case ho75 => simp only [List.getElem?_toArray, List.getElem?_cons_succ, List.getElem?_cons_zero]; rfl
              case st75 =>
                refine wp_store_bid (.tmp 4) (.tmp 34) noB (signedB b sg) (w.heap.size + 1 + 1) hp ?_ ?_ ?_ ?_ ?_
                · rfl
                · rfl
                · rfl
                · rfl
                refine hK.out _ _ ⟨hS.1.rowO _ (by omega), hS.2.rowO _ (by omega)⟩ (fun hS => ?_)
                clear hK K
                try simp only [Act.put, List.setIfInBounds_toArray, List.set_cons_zero, List.set_cons_succ]
                replace hp := hp.row (bdc (signedB b sg))
                replace hq := hq.rowO (g := w.heap.size + 1 + 1) (bdc (signedB b sg)).toArray (by omega)
                replace hB := below_setRow hB (by omega : w.heap.size ≤ w.heap.size + 1 + 1) (bdc (signedB b sg)).toArray
                generalize World.setRow _ _ _ = Y6 at *
                refine wpAnyH_ready (rs := [3]) (by kernel_rfl) (by simp) ?_
                refine' AllReadyH.cons (o := _) ?ho76 (fun K hK => ?st76) AllReadyH.nil
                case ho76 => simp only [List.getElem?_toArray, List.getElem?_cons_succ, List.getElem?_cons_zero]; rfl
                case st76 =>
                  obtain ⟨q0, q1⟩ := Blk.c2 hq
                  have fq := hq.frozen
                  go_simp
                  refine hK.out _ _ ⟨(hS.1.other 0 _ (by omega)).other 1 _ (by omega), (hS.2.other 0 _ (by omega)).other 1 _ (by omega)⟩ (fun hS => ?_)
                  clear hK K
                  try simp only [Act.put, List.setIfInBounds_toArray, List.set_cons_zero, List.set_cons_succ]
                  refine wpAnyH_ready (rs := [4]) (by kernel_rfl) (by simp) ?_
                  refine' AllReadyH.cons (o := _) ?ho77 (fun K hK => ?st77) AllReadyH.nil
                  case ho77 => simp only [List.getElem?_toArray, List.getElem?_cons_succ, List.getElem?_cons_zero]; rfl
                  case st77 =>
                    go_simp
                    refine hK.out _ _ hS (fun hS => ?_)
                    clear hK K
                    try simp only [Act.put, List.setIfInBounds_toArray, List.set_cons_zero, List.set_cons_succ]
                    refine wpAnyH_done (by kernel_rfl) ?_ _
                    go_wp2_with fail
                    obtain ⟨l0, l1, hB⟩ := fin_sign hp hq hB ks kn
                    exact bodyPost_ret (v := retS (signedB b sg) ks kn 0) (by simp [results, Tryz.results17, asAddr, retS]; rw [l0]; simp only [Result.andThen_ok]; rw [l1]; rfl) rfl ⟨rfl, hB⟩
end Go.Proofs.YtiibeahgleaonaaGreat
