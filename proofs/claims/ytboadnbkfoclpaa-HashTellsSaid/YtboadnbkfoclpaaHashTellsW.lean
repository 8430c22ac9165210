/-
  The walk of HashTells: it answers true at every text.
-/
import Derived.Test.YtboadnbkfoclpaaHashAlive
import Derived.Test.YtboadnbkfoclpaaRefSum
import Derived.Test.YtboadnbkfoclpaaRefRoots
import Derived.Test.YtboadnbkfoclpaaHeldMono
import Derived.Outline
namespace Go.Proofs.Ytboadnbkfoclpaa
open Go.RowKit Go.Shelf

theorem exec_load_us {ty n : Nat} (hT : ArrT ty n) {o : Oper} {a : Act} {w : World} (x : Operand) (ho : o.op = .load ty x)
    (g : Nat) (hx : a.eval x = .pointer (some ⟨g, 0, none⟩)) (t : TypeId) (f : Nat → Int) (hg : Blk w g t (us f n)) : (execOp a.eval o).run Try.prog w = .ok (.value (uv f n)) w := by
  unfold execOp
  simp only [ho, hx, Instr.loadAt, Instr.sureAddr, Sem.run_bind, Sem.run_pure, Result.andThen_ok, run_load_us hT w g t f hg]
theorem blk8_in2 (w : World) (t : TypeId) (o : Obj) : Blk ((w.alloc (.cells #[.int .u32 0, .int .u32 0, .int .u32 0, .int .u32 0, .int .u32 0, .int .u32 0, .int .u32 0, .int .u32 0] t)).alloc o) w.heap.size t (us (fun _ => 0) 8) := (blk_zero8 w t).alloc o
theorem blk64_in2 (w : World) (t : TypeId) (o : Obj) : Blk ((w.alloc o).alloc (.cells #[.int .u32 0, .int .u32 0, .int .u32 0, .int .u32 0, .int .u32 0, .int .u32 0, .int .u32 0, .int .u32 0, .int .u32 0, .int .u32 0, .int .u32 0, .int .u32 0, .int .u32 0, .int .u32 0, .int .u32 0, .int .u32 0, .int .u32 0, .int .u32 0, .int .u32 0, .int .u32 0, .int .u32 0, .int .u32 0, .int .u32 0, .int .u32 0, .int .u32 0, .int .u32 0, .int .u32 0, .int .u32 0, .int .u32 0, .int .u32 0, .int .u32 0, .int .u32 0, .int .u32 0, .int .u32 0, .int .u32 0, .int .u32 0, .int .u32 0, .int .u32 0, .int .u32 0, .int .u32 0, .int .u32 0, .int .u32 0, .int .u32 0, .int .u32 0, .int .u32 0, .int .u32 0, .int .u32 0, .int .u32 0, .int .u32 0, .int .u32 0, .int .u32 0, .int .u32 0, .int .u32 0, .int .u32 0, .int .u32 0, .int .u32 0, .int .u32 0, .int .u32 0, .int .u32 0, .int .u32 0, .int .u32 0, .int .u32 0, .int .u32 0, .int .u32 0] t)) (w.heap.size + 1) t (us (fun _ => 0) 64) := by rw [us0_64]; exact Blk.new' (by simp)

set_option maxRecDepth 100000 in
set_option maxHeartbeats 40000000 in
theorem hashTells_any (a : Option Addr) (cap : Nat) (l : List UInt8) (hreach : l.length ≤ 140737488351232) (w : World) (hsb : BSl 0 w.heap.size w (.slice a l.length cap) l) :
    Calls Try.prog 3 #[.slice a l.length cap] w fun e W' => e = .returned (.bool true) ∧ Below w.heap.size w W' := by
  have hmx : Try.prog.follows .mixedOrders = true := by kernel_rfl
  go_enter Try.func3, Try.ntmps3
  go_wp2_with fail
  refine (hashAlive_any _).mono ?_
  rintro e w1 ⟨rfl, hb1⟩
  by_cases hbig : 300 < l.length
  · have hbig' : (300 : Int) < (l.length : Int) := by omega
    go_wp2_with fail
    go_ret
    exact ⟨rfl, hb1⟩
  have hbig' : ¬ (300 : Int) < (l.length : Int) := by omega
  have hlr : l.length ≤ 300 := by omega
  clear hbig
  generalize hL : l.length = L at *
  have HL := Lib.hid hL
  clear hL
  go_wp2_with fail
  refine (roots_any _).mono ?_
  rintro e w2 ⟨rfl, hb2⟩
  have hB2 := chain hb1 hb2
  clear hb1 hb2
  go_wp2_with (first
    | (with_reducible refine arr_store arr8 rfl (.tmp 3) (.tmp 12) rfl w2.heap.size rfl sq rfl 25 (fun _ => 0) (blk8_in2 w2 _ _) ?_; intro W5 kA hgA; have kB := (blk64_in2 w2 26 _).kept hgA (by simp))
    | (with_reducible refine arr_store arr64 rfl (.tmp 4) (.tmp 13) rfl (w2.heap.size + 1) rfl cb rfl 26 (fun _ => 0) kB ?_; intro W6 kB6 hgB; have kA6 := kA.kept hgB (by simp)))
  have hsz2 := hB2.size
  have hB5 : Below w.heap.size w W5 := (chainA (chainA hB2 _) _).grown hgA (by simp; omega) (fun k e => by have : w2.heap.size = k := Option.some.inj e; omega)
  have hB6 : Below w.heap.size w W6 := hB5.grown hgB hB5.size (fun k e => by have : w2.heap.size + 1 = k := Option.some.inj e; omega)
  clear hgA hgB hB5 hB2 kA kB
  replace hsb := hsb.below hB6 (Nat.le_refl _)
  have hsz := hB6.size
  refine wp_region_held_drew (S := fun W => Below W6.heap.size W6 W) hmx (Below.refl _ W6).drew ?_
  intro hS
  replace hsb : BSl 0 w.heap.size W6.drew (.slice a L cap) l := hsb
  replace hsz : w.heap.size ≤ W6.drew.heap.size := hsz
  replace kA6 : Blk W6.drew w2.heap.size 25 (us sq 8) := kA6
  replace kB6 : Blk W6.drew (w2.heap.size + 1) 26 (us cb 64) := kB6
  replace hB6 : Below w.heap.size w W6.drew := hB6.drew
  refine wpAnyH_mono (S' := fun W => Below W6.drew.heap.size W6.drew W) (fun W h => (Below.refl _ W6).drew.trans h) _ _ _ _ ?_
  replace hS : Below W6.drew.heap.size W6.drew W6.drew := Below.refl _ _
  generalize W6.drew = w3 at *
  refine' wpAnyH_take (i := 0) (oi := _) (v := _) ?hi0 (by kernel_rfl) (by kernel_rfl) (by kernel_rfl) ?hQ0 (Or.inl ⟨?hw0, ?hy0⟩) hS ?rest0
  case hi0 => simp only [List.getElem?_toArray, List.getElem?_cons_zero]; rfl
  case hQ0 => exact fun _ _ _ h => h
  case hw0 => rfl
  case hy0 => intro W' hS'; go_simp; with_reducible rfl
  try simp only [Act.put, List.setIfInBounds_toArray, List.set_cons_zero, List.set_cons_succ]
  refine' wpAnyH_take (i := 3) (oi := _) (v := _) ?hi3 (by kernel_rfl) (by kernel_rfl) (by kernel_rfl) ?hQ3 (Or.inl ⟨?hw3, ?hy3⟩) hS ?rest3
  case hi3 => simp only [List.getElem?_toArray, List.getElem?_cons_succ, List.getElem?_cons_zero]; rfl
  case hQ3 => exact fun _ _ _ h => h
  case hw3 => rfl
  case hy3 => intro W' hS'; go_simp; with_reducible rfl
  try simp only [Act.put, List.setIfInBounds_toArray, List.set_cons_zero, List.set_cons_succ]
  refine' wpAnyH_take (i := 4) (oi := _) (v := uv sq 8) ?hi4 (by kernel_rfl) (by kernel_rfl) (by kernel_rfl) ?hQ4 (Or.inl ⟨?hw4, ?hy4⟩) hS ?rest4
  case hi4 => simp only [List.getElem?_toArray, List.getElem?_cons_succ, List.getElem?_cons_zero]; rfl
  case hQ4 => exact fun _ _ _ h => h
  case hw4 => rfl
  case hy4 => intro W' hS'; refine exec_load_us arr8 (.tmp 3) ?_ w2.heap.size ?_ 25 sq (kA6.below hS' kA6.lt) <;> rfl
  try simp only [Act.put, List.setIfInBounds_toArray, List.set_cons_zero, List.set_cons_succ]
  refine' wpAnyH_take (i := 5) (oi := _) (v := uv cb 64) ?hi5 (by kernel_rfl) (by kernel_rfl) (by kernel_rfl) ?hQ5 (Or.inl ⟨?hw5, ?hy5⟩) hS ?rest5
  case hi5 => simp only [List.getElem?_toArray, List.getElem?_cons_succ, List.getElem?_cons_zero]; rfl
  case hQ5 => exact fun _ _ _ h => h
  case hw5 => rfl
  case hy5 => intro W' hS'; refine exec_load_us arr64 (.tmp 4) ?_ (w2.heap.size + 1) ?_ 26 cb (kB6.below hS' kB6.lt) <;> rfl
  try simp only [Act.put, List.setIfInBounds_toArray, List.set_cons_zero, List.set_cons_succ]
  refine wpAnyH_ready (rs := [1]) (by kernel_rfl) (by simp) ?_
  refine' AllReadyH.cons (o := _) ?ho1 (fun K hK => ?st1) AllReadyH.nil
  case ho1 => simp only [List.getElem?_toArray, List.getElem?_cons_succ, List.getElem?_cons_zero]; rfl
  go_simp
  refine (sum_any l _ _ (by rw [HL.out]; omega) (hsb.mono (Nat.le_refl _) hsz)).mono ?_
  rintro e w4 ⟨rv, rfl, hown2, hb⟩
  refine hK.out _ _ hb (fun hS2 => ?_)
  clear hK K hS2
  try simp only [Act.put, List.setIfInBounds_toArray, List.set_cons_zero, List.set_cons_succ]
  refine wpAnyH_mono (S' := fun W => Below w4.heap.size w4 W) (fun W h => chain hb h) _ _ _ _ ?_
  replace hS : Below w4.heap.size w4 w4 := Below.refl _ _
  have hq1 := BSl.of_own hown2
  replace hB6 := hB6.trans (hb.mono hsz)
  replace hsb := hsb.below hb hsz
  replace hsz := Nat.le_trans hsz hb.size
  clear hown2
  clear hb
  refine' wpAnyH_take (i := 2) (oi := _) (v := _) ?hi2 (by kernel_rfl) (by kernel_rfl) (by kernel_rfl) ?hQ2 (Or.inl ⟨?hw2, ?hy2⟩) hS ?rest2
  case hi2 => simp only [List.getElem?_toArray, List.getElem?_cons_succ, List.getElem?_cons_zero]; rfl
  case hQ2 => exact fun _ _ _ h => h
  case hw2 => rfl
  case hy2 => intro W' hS'; have hcv := run_string (P := Try.prog) 22 5 9 Try.underlying22 Try.underlying5 Try.underlying9 W' (hq1.below hS' (Nat.le_refl _)); go_simp; with_reducible rfl
  try simp only [Act.put, List.setIfInBounds_toArray, List.set_cons_zero, List.set_cons_succ]
  clear hq1
  refine wpAnyH_ready (rs := [6]) (by kernel_rfl) (by simp) ?_
  refine' AllReadyH.cons (o := _) ?ho6 (fun K hK => ?st6) AllReadyH.nil
  case ho6 => simp only [List.getElem?_toArray, List.getElem?_cons_succ, List.getElem?_cons_zero]; rfl
  go_simp
  refine (refOver_any l _ sq cb _ (by rw [HL.out]; omega) (hsb.mono (Nat.le_refl _) hsz)).mono ?_
  rintro e w5 ⟨rv, rfl, hown2, hb⟩
  refine hK.out _ _ hb (fun hS2 => ?_)
  clear hK K hS2
  try simp only [Act.put, List.setIfInBounds_toArray, List.set_cons_zero, List.set_cons_succ]
  refine wpAnyH_mono (S' := fun W => Below w5.heap.size w5 W) (fun W h => chain hb h) _ _ _ _ ?_
  replace hS : Below w5.heap.size w5 w5 := Below.refl _ _
  have hq2 := BSl.of_own hown2
  replace hB6 := hB6.trans (hb.mono hsz)
  replace hsb := hsb.below hb hsz
  replace hsz := Nat.le_trans hsz hb.size
  clear hown2
  clear hb
  refine' wpAnyH_take (i := 7) (oi := _) (v := _) ?hi7 (by kernel_rfl) (by kernel_rfl) (by kernel_rfl) ?hQ7 (Or.inl ⟨?hw7, ?hy7⟩) hS ?rest7
  case hi7 => simp only [List.getElem?_toArray, List.getElem?_cons_succ, List.getElem?_cons_zero]; rfl
  case hQ7 => exact fun _ _ _ h => h
  case hw7 => rfl
  case hy7 => intro W' hS'; have hcv := run_string (P := Try.prog) 22 5 9 Try.underlying22 Try.underlying5 Try.underlying9 W' (hq2.below hS' (Nat.le_refl _)); go_simp; with_reducible rfl
  try simp only [Act.put, List.setIfInBounds_toArray, List.set_cons_zero, List.set_cons_succ]
  clear hq2
  refine' wpAnyH_take (i := 8) (oi := _) (v := _) ?hi8 (by kernel_rfl) (by kernel_rfl) (by kernel_rfl) ?hQ8 (Or.inl ⟨?hw8, ?hy8⟩) hS ?rest8
  case hi8 => simp only [List.getElem?_toArray, List.getElem?_cons_succ, List.getElem?_cons_zero]; rfl
  case hQ8 => exact fun _ _ _ h => h
  case hw8 => rfl
  case hy8 => intro W' hS'; go_simp; with_reducible rfl
  try simp only [Act.put, List.setIfInBounds_toArray, List.set_cons_zero, List.set_cons_succ]
  refine' wpAnyH_take (i := 9) (oi := _) (v := _) ?hi9 (by kernel_rfl) (by kernel_rfl) (by kernel_rfl) ?hQ9 (Or.inl ⟨?hw9, ?hy9⟩) hS ?rest9
  case hi9 => simp only [List.getElem?_toArray, List.getElem?_cons_succ, List.getElem?_cons_zero]; rfl
  case hQ9 => exact fun _ _ _ h => h
  case hw9 => rfl
  case hy9 => intro W' hS'; go_simp; with_reducible rfl
  try simp only [Act.put, List.setIfInBounds_toArray, List.set_cons_zero, List.set_cons_succ]
  refine' wpAnyH_take (i := 10) (oi := _) (v := _) ?hi10 (by kernel_rfl) (by kernel_rfl) (by kernel_rfl) ?hQ10 (Or.inl ⟨?hw10, ?hy10⟩) hS ?rest10
  case hi10 => simp only [List.getElem?_toArray, List.getElem?_cons_succ, List.getElem?_cons_zero]; rfl
  case hQ10 => exact fun _ _ _ h => h
  case hw10 => rfl
  case hy10 => intro W' hS'; go_simp; with_reducible rfl
  try simp only [Act.put, List.setIfInBounds_toArray, List.set_cons_zero, List.set_cons_succ]
  refine' wpAnyH_take (i := 13) (oi := _) (v := _) ?hi13 (by kernel_rfl) (by kernel_rfl) (by kernel_rfl) ?hQ13 (Or.inl ⟨?hw13, ?hy13⟩) hS ?rest13
  case hi13 => simp only [List.getElem?_toArray, List.getElem?_cons_succ, List.getElem?_cons_zero]; rfl
  case hQ13 => exact fun _ _ _ h => h
  case hw13 => rfl
  case hy13 => intro W' hS'; go_simp; with_reducible rfl
  try simp only [Act.put, List.setIfInBounds_toArray, List.set_cons_zero, List.set_cons_succ]
  refine wpAnyH_ready (rs := [11]) (by kernel_rfl) (by simp) ?_
  refine' AllReadyH.cons (o := _) ?ho11 (fun K hK => ?st11) AllReadyH.nil
  case ho11 => simp only [List.getElem?_toArray, List.getElem?_cons_succ, List.getElem?_cons_zero]; rfl
  go_simp
  refine (sum_any l _ _ (by rw [HL.out]; omega) (hsb.mono (Nat.le_refl _) hsz)).mono ?_
  rintro e w6 ⟨rv, rfl, hown2, hb⟩
  refine hK.out _ _ hb (fun hS2 => ?_)
  clear hK K hS2
  try simp only [Act.put, List.setIfInBounds_toArray, List.set_cons_zero, List.set_cons_succ]
  refine wpAnyH_mono (S' := fun W => Below w6.heap.size w6 W) (fun W h => chain hb h) _ _ _ _ ?_
  replace hS : Below w6.heap.size w6 w6 := Below.refl _ _
  have hq3 := BSl.of_own hown2
  replace hB6 := hB6.trans (hb.mono hsz)
  replace hsb := hsb.below hb hsz
  replace hsz := Nat.le_trans hsz hb.size
  clear hown2
  clear hb
  refine' wpAnyH_take (i := 12) (oi := _) (v := _) ?hi12 (by kernel_rfl) (by kernel_rfl) (by kernel_rfl) ?hQ12 (Or.inl ⟨?hw12, ?hy12⟩) hS ?rest12
  case hi12 => simp only [List.getElem?_toArray, List.getElem?_cons_succ, List.getElem?_cons_zero]; rfl
  case hQ12 => exact fun _ _ _ h => h
  case hw12 => rfl
  case hy12 => intro W' hS'; have hcv := run_string (P := Try.prog) 22 5 9 Try.underlying22 Try.underlying5 Try.underlying9 W' (hq3.below hS' (Nat.le_refl _)); go_simp; with_reducible rfl
  try simp only [Act.put, List.setIfInBounds_toArray, List.set_cons_zero, List.set_cons_succ]
  clear hq3
  refine wpAnyH_ready (rs := [14]) (by kernel_rfl) (by simp) ?_
  refine' AllReadyH.cons (o := _) ?ho14 (fun K hK => ?st14) AllReadyH.nil
  case ho14 => simp only [List.getElem?_toArray, List.getElem?_cons_succ, List.getElem?_cons_zero]; rfl
  go_simp
  refine (refSum_any l _ _ (by rw [HL.out]; omega) (hsb.mono (Nat.le_refl _) hsz)).mono ?_
  rintro e w7 ⟨rv, rfl, hown2, hb⟩
  refine hK.out _ _ hb (fun hS2 => ?_)
  clear hK K hS2
  try simp only [Act.put, List.setIfInBounds_toArray, List.set_cons_zero, List.set_cons_succ]
  refine wpAnyH_mono (S' := fun W => Below w7.heap.size w7 W) (fun W h => chain hb h) _ _ _ _ ?_
  replace hS : Below w7.heap.size w7 w7 := Below.refl _ _
  have hq4 := BSl.of_own hown2
  replace hB6 := hB6.trans (hb.mono hsz)
  replace hsb := hsb.below hb hsz
  replace hsz := Nat.le_trans hsz hb.size
  clear hown2
  clear hb
  refine' wpAnyH_take (i := 15) (oi := _) (v := _) ?hi15 (by kernel_rfl) (by kernel_rfl) (by kernel_rfl) ?hQ15 (Or.inl ⟨?hw15, ?hy15⟩) hS ?rest15
  case hi15 => simp only [List.getElem?_toArray, List.getElem?_cons_succ, List.getElem?_cons_zero]; rfl
  case hQ15 => exact fun _ _ _ h => h
  case hw15 => rfl
  case hy15 => intro W' hS'; have hcv := run_string (P := Try.prog) 22 5 9 Try.underlying22 Try.underlying5 Try.underlying9 W' (hq4.below hS' (Nat.le_refl _)); go_simp; with_reducible rfl
  try simp only [Act.put, List.setIfInBounds_toArray, List.set_cons_zero, List.set_cons_succ]
  refine' wpAnyH_take (i := 16) (oi := _) (v := _) ?hi16 (by kernel_rfl) (by kernel_rfl) (by kernel_rfl) ?hQ16 (Or.inl ⟨?hw16, ?hy16⟩) hS ?rest16
  case hi16 => simp only [List.getElem?_toArray, List.getElem?_cons_succ, List.getElem?_cons_zero]; rfl
  case hQ16 => exact fun _ _ _ h => h
  case hw16 => rfl
  case hy16 => intro W' hS'; go_simp; with_reducible rfl
  try simp only [Act.put, List.setIfInBounds_toArray, List.set_cons_zero, List.set_cons_succ]
  refine' wpAnyH_take (i := 17) (oi := _) (v := _) ?hi17 (by kernel_rfl) (by kernel_rfl) (by kernel_rfl) ?hQ17 (Or.inl ⟨?hw17, ?hy17⟩) hS ?rest17
  case hi17 => simp only [List.getElem?_toArray, List.getElem?_cons_succ, List.getElem?_cons_zero]; rfl
  case hQ17 => exact fun _ _ _ h => h
  case hw17 => rfl
  case hy17 => intro W' hS'; go_simp; with_reducible rfl
  try simp only [Act.put, List.setIfInBounds_toArray, List.set_cons_zero, List.set_cons_succ]
  refine' wpAnyH_take (i := 18) (oi := _) (v := _) ?hi18 (by kernel_rfl) (by kernel_rfl) (by kernel_rfl) ?hQ18 (Or.inl ⟨?hw18, ?hy18⟩) hS ?rest18
  case hi18 => simp only [List.getElem?_toArray, List.getElem?_cons_succ, List.getElem?_cons_zero]; rfl
  case hQ18 => exact fun _ _ _ h => h
  case hw18 => rfl
  case hy18 => intro W' hS'; go_simp; with_reducible rfl
  try simp only [Act.put, List.setIfInBounds_toArray, List.set_cons_zero, List.set_cons_succ]
  refine wpAnyH_done (by kernel_rfl) ?_ _
  go_wp2
  go_ret
  exact ⟨rfl, hB6⟩
end Go.Proofs.Ytboadnbkfoclpaa
