/-
  Numbers as octets, octets as numbers, three slices of octets put together; Octets of the call's own, many: rows of single octets, parts of them; Scripts as a plain thing: steps, their octets, what is read of them; Scripts: a step's numbers, its octets, what may be
-/
import Derived.Laws.IdiomCopy
import Derived.ArgAppend
import Derived.LoopTactic
import Derived.Test.YtemknjnljciioaaGreatK06
namespace Go.Proofs.YtemknjnljciioaaGreat
open Go.RowKit Go.Shelf
theorem intB_any (l : List UInt8) {q : Nat} (hq : be l = q) (sv : Value) (w : World) (hl : l.length ≤ 7) (hsv : BSl 0 w.heap.size w sv l) : Calls Tryz.prog 42 #[sv] w fun e W' => e = .returned (.int .i64 (q : Int)) ∧ Below w.heap.size w W' := by
  subst hq
  have h := blobInt_any l sv w (by omega) hsv
  rw [List.take_of_length_le hl] at h
  exact h
theorem cat3_any {N : Nat} {T : TypeId} (l1 l2 l3 : List UInt8) (s1 s2 s3 : Value) (W : World) (hl : l1.length + l2.length + l3.length ≤ 140737488355328) (h1 : BSl 0 W.heap.size W s1 l1) (h2 : BSl 0 W.heap.size W s2 l2) (h3 : BSl 0 W.heap.size W s3 l3) (k : Blk W N T [s1, s2, s3]) :
    Calls Tryz.prog 19 #[.slice (some ⟨N, 0, none⟩) 3 3] W (ByW (l1 ++ (l2 ++ l3)) W) := by
  let zs : List (SX 140737488355328 W.heap.size W) := [⟨(s1, l1), h1, by simp only; omega⟩, ⟨(s2, l2), h2, by simp only; omega⟩, ⟨(s3, l3), h3, by simp only; omega⟩]
  have hfl : flat zs = l1 ++ (l2 ++ l3) := by simp [flat, zs]
  have := cat_any (.slice (some ⟨N, 0, none⟩) 3 3) W zs (by simp [zs]) (by rw [hfl, List.length_append, List.length_append]; omega)
    ⟨_, _, rfl, .inr ⟨N, 0, rfl, k.lt, fun i x hx => by
      rw [Nat.zero_add, k.cell i]
      match i, hx with
      | 0, hx => simp only [zs, List.getElem?_cons_zero, Option.some.injEq] at hx; rw [← hx]; rfl
      | 1, hx => simp only [zs, List.getElem?_cons_zero, List.getElem?_cons_succ, Option.some.injEq] at hx; rw [← hx]; rfl
      | 2, hx => simp only [zs, List.getElem?_cons_zero, List.getElem?_cons_succ, Option.some.injEq] at hx; rw [← hx]; rfl
      | i + 3, hx => simp [zs] at hx⟩⟩
  rw [hfl] at this
  exact this
theorem oct_own {w W : World} {L : List Res} (h : Sep w [] L W) (i : Nat) {v : Value} {l : List UInt8} (hi : L[i]? = some (.oct v l)) : BSl w.heap.size W.heap.size W v l := by
  have ho := h.oka i hi
  have hn := h.new _ (List.mem_of_getElem? hi)
  obtain ⟨hi', a, cap, e, hc, h0⟩ := ho.h
  subst e
  cases l with
  | nil => exact ⟨a, cap, rfl, hc, .inl rfl⟩
  | cons x l =>
    rcases h0 with h0 | ⟨b, off, ha, _, _, hx⟩
    · cases h0
    · subst ha
      have hb : b ∈ (Res.oct (.slice (some ⟨b, off, none⟩) (x :: l).length cap) (x :: l)).foot := by simp [Res.oct, Value.ownBlock]
      exact ⟨_, cap, rfl, hc, .inr ⟨b, off, rfl, (hn b hb).elim (fun e => (List.not_mem_nil e).elim) id, ho.lt b hb, hx⟩⟩
theorem octs_beJ (l : List UInt8) : octs (be l) l.length = l := by
  have h : ∀ (n : Nat) (l : List UInt8), l.length = n → octs (be l) n = l := by
    intro n
    induction n with
    | zero => intro l hl; rw [List.length_eq_zero_iff.1 hl]; rfl
    | succ n ih =>
      intro l hl
      have hne : l ≠ [] := fun e => by rw [e] at hl; simp at hl
      obtain ⟨r, x, rfl⟩ : ∃ r x, l = r ++ [x] := ⟨l.dropLast, l.getLast hne, (List.dropLast_concat_getLast hne).symm⟩
      have hr : r.length = n := by simpa using hl
      have hx := x.toNat_lt
      rw [octs_snoc, be_snoc]
      have h1 : (be r * 256 + x.toNat) / 256 = be r := by omega
      have h2 : oct (be r * 256 + x.toNat) 0 = x := by
        unfold oct
        rw [show (be r * 256 + x.toNat) / 2 ^ (0 * 8) = be r * 256 + x.toNat by simp]
        apply UInt8.toNat_inj.1
        rw [UInt8.toNat_ofNat']
        omega
      rw [h1, h2, ih r hr]
  exact h l.length l rfl
-- HERE
end Go.Proofs.YtemknjnljciioaaGreat
namespace Go.Proofs.YtemknjnljciioaaGreat
open Go.RowKit Go.Shelf
def ocM (x : UInt8) : List Value := [bv x]
theorem ocM_len (x : UInt8) : (ocM x).length = 1 := rfl
theorem ocM_one (x : UInt8) : ∀ u ∈ ocM x, u.oneCell' = true := fun u hu => by obtain rfl := List.mem_singleton.1 hu; rfl
theorem flat_oc (l : List UInt8) : flatR ocM l = l.map bv := by
  induction l with
  | nil => rfl
  | cons x l ih => exact congrArg (bv x :: ·) ih
theorem ROk.own_bsl {W : World} {v : Value} {l : List UInt8} (h : ROk (.own ocM 5 1 v l) W) : BSl 0 W.heap.size W v l := by
  have h1 := h.h
  simp only [Res.own] at h1
  rw [flat_oc] at h1
  obtain ⟨a, c, e, hc, h0⟩ := BSl.of_own h1
  refine ⟨a, c, e, hc, h0.imp id fun ⟨b, off, ha, hl, hh, hx⟩ => ⟨b, off, ha, hl, ?_, hx⟩⟩
  subst e ha
  exact hh
def plcN (z : Int) (n : Nat) : Nat := (Int.tmod (Int.tmod z n + n) n).toNat
theorem plc_eq (z : Int) {n : Nat} (h : 0 < n) : Int.tmod (Int.tmod z n + n) n = ((plcN z n : Nat) : Int) := by
  have hn : (0 : Int) < n := by omega
  have h2 := Int.lt_tmod_of_pos z hn
  exact (Int.toNat_of_nonneg (Int.tmod_nonneg (a := Int.tmod z n + n) n (by omega))).symm
theorem plc_lt (z : Int) {n : Nat} (h : 0 < n) : plcN z n < n := by
  have h1 := plc_eq z h
  have h2 := Int.tmod_lt_of_pos (Int.tmod z n + n) (show (0 : Int) < n by omega)
  omega
theorem plc_sum (z : Int) {n : Nat} (h : 0 < n) (h1 : n ≤ 1048576) : IntKind.i64.wrap (Int.tmod z n + n) = Int.tmod z n + n := by
  have hn : (0 : Int) < n := by omega
  have h2 := Int.lt_tmod_of_pos z hn
  have h3 := Int.tmod_lt_of_pos z hn
  exact IntWalk.i64_in _ (by omega)
section
variable {w W W' : World} {F : List Nat} {l : List Res}
theorem Sep.gain2 {r s : Res} (h : Sep w F l W) (h' : Sep W [] [r, s] W') : Sep w F (r :: s :: l) W' := Sep.part (ps := [r, s]) (h.gain (Sep.close (ps := [r, s]) (l := []) h'))
end
theorem own_appB {v x : Value} {l ys : List UInt8} {W : World} (h : ROk (.own ocM 5 1 v l) W) {lo hi : Nat} (hx : BSl lo hi W x ys) (hr : l.length + ys.length ≤ 140737488355328) (ty : TypeId) :
    ∃ v' W', (Builtin.append_ #[22, 22] ty #[v, x]).run Tryz.prog W = .ok v' W' ∧ RTurn (.own ocM 5 1 v l) (.own ocM 5 1 v' (l ++ ys)) W W' := by
  obtain ⟨a, c, rfl, hc, h0⟩ := hx
  cases a with
  | some a =>
    refine own_apps infoOct1 rfl (by decide) Tryz.underlying22 ocM_len ocM_one h ys a c (fun j u hj => ?_) (by decide) (by omega) ty
    rcases h0 with rfl | ⟨b, off, ha, _, _, ho⟩
    · cases hj
    · cases ha
      rw [flat_oc, List.getElem?_map] at hj
      obtain ⟨y, hy, rfl⟩ := Option.map_eq_some_iff.1 hj
      rw [addr_add']
      exact ho j y hy
  | none =>
    have hy : ys = [] := by
      rcases h0 with h0 | ⟨b, off, ha, _⟩
      · exact h0
      · cases ha
    subst hy
    obtain ⟨i0, hi, hz0, hz1, hz2⟩ := info_parts infoOct1
    refine ⟨v, W, ?_, by rw [List.append_nil]; exact turn_refl h⟩
    have hu := Tryz.underlying22
    rcases h.h.2 with ⟨rfl, hl0⟩ | ⟨g, cap, cur, rfl, _, hg, hnc, hcm, hcs, _⟩
    · simp [Builtin.append_, run_underlying hu, sizeOf, typeInfo, hi, Builtin.lenOf, Builtin.firstCells]
    · simp [Builtin.append_, run_underlying hu, sizeOf, typeInfo, hi, Builtin.lenOf, Builtin.firstCells, loadCells, hnc, storeCells]
-- HERE
end Go.Proofs.YtemknjnljciioaaGreat
namespace Go.Proofs.YtemknjnljciioaaGreat
open Go.RowKit Go.Shelf
structure Sp where
  ki : Int
  xa : Int
  xb : Int
  xc : Int
  ad : Option Addr
  cp : Nat
  l : List UInt8
def noSp : Sp := ⟨0, 0, 0, 0, none, 0, []⟩
def spc (x : Sp) : List Value := [.int .i64 x.ki, .int .i64 x.xa, .int .i64 x.xb, .int .i64 x.xc, .slice x.ad x.l.length x.cp]
abbrev spv (x : Sp) : Value := .agg (spc x).toArray
def Sp.z (x : Sp) : Zs := ⟨x.ad, x.cp, x.l⟩
def zsP (ls : List Sp) : List Zs := ls.map Sp.z
structure Stp where
  ki : Int
  xa : Int
  xb : Int
  xc : Int
  l : List UInt8
def plP (x : Sp) : Stp := ⟨x.ki, x.xa, x.xb, x.xc, x.l⟩
theorem spc_len (x : Sp) : (spc x).length = 5 := rfl
theorem spc_one (x : Sp) : ∀ u ∈ spc x, u.oneCell' = true := by simp [spc, Value.oneCell']
theorem infoSp : (Tryz.prog.info? 24).map (fun i => (i.zero, i.size, i.bytes)) = some (some (.agg (spc noSp).toArray), 5, 56) := by kernel_rfl
theorem zsP_app (a b : List Sp) : zsP (a ++ b) = zsP a ++ zsP b := List.map_append
theorem zsP_get {ls : List Sp} {k : Nat} {x : Sp} (h : ls[k]? = some x) : (zsP ls)[k]? = some x.z := by
  unfold zsP
  rw [List.getElem?_map, h]
  rfl
theorem Holds.sp {n k : Nat} {W : World} {ls : List Sp} {x : Sp} (h : Holds n W (zsP ls)) (hx : ls[k]? = some x) : BSl 0 n W (.slice x.ad x.l.length x.cp) x.l := h.get (zsP_get hx)
theorem lv_sp {W : World} {B : Nat} {T : TypeId} {x : Sp} (h : Blk W B T (spc x)) : (loadVar 24 ⟨B, 0, none⟩).run Tryz.prog W = .ok (spv x) W := run_loadVar_row W B T _ (spc x).toArray (0, 0) _ h Tryz.underlying24 rfl (by kernel_rfl)
section
variable {w W W' : World} {F : List Nat} {l : List Res} {ms : List Sp}
theorem Sep.sps1 {v : Value} {x : List UInt8} (m : Sp) (hv : v = m.z.v) (hx : x = m.z.l) (h : Sep w F (.oct v x :: .octs (zsP ms) :: l) W) : Sep w F (.octs (zsP (ms ++ [m])) :: l) W := by
  rw [zsP_app]
  exact Sep.octs1 m.z hv hx h
end
structure Nb where
  at_ : Option Addr
  oc : Int
  lf : Int
def nb (B j : Nat) (oc lf : Int) : Nb := ⟨some ⟨B, j, none⟩, oc, lf⟩
def noNb : Nb := ⟨none, 0, 0⟩
def nbc (n : Nb) : List Value := [.pointer n.at_, .int .i64 n.oc, .int .i64 n.lf]
abbrev nbv (n : Nb) : Value := .agg (nbc n).toArray
def nbs : Option Nat → List Value
  | none => [.pointer none, .int .i64 0, .int .i64 0, .pointer none, .int .i64 0, .int .i64 0, .pointer none, .int .i64 0, .int .i64 0, .pointer none, .int .i64 0, .int .i64 0]
  | some B => nbc (nb B 0 1 0) ++ nbc (nb B 1 2 32768) ++ nbc (nb B 2 2 32768) ++ nbc (nb B 3 2 32768)
abbrev nsv (n : Option Nat) : Value := .agg (nbs n).toArray
theorem lv_ns {W : World} {B : Nat} {T : TypeId} {n : Nat} (h : Blk W B T (nbs (some n))) : (loadVar 50 ⟨B, 0, none⟩).run Tryz.prog W = .ok (nsv (some n)) W := run_loadVar_row W B T _ (nbs (some n)).toArray (0, 0) _ h Tryz.underlying50 rfl (by kernel_rfl)
theorem res_cell1 {fn : Func} {p : Tmp} {ty : TypeId} (h : fn.results = #[.cell p ty]) (tmps : Array Value) {w : World} {g : Nat} {c : Value} (hp : tmps.getD p undef = .pointer (some ⟨g, 0, none⟩)) (hl : (loadVar ty ⟨g, 0, none⟩).run Tryz.prog w = .ok c w) :
    (results fn tmps).run Tryz.prog w = .ok c w := by
  have hp' : tmps[p]?.getD undef = .pointer (some ⟨g, 0, none⟩) := by simpa using hp
  simp [results, h, hp', asAddr, hl]
def numP (s : Stp) : Nat → Int
  | 0 => s.ki
  | 1 => s.xa
  | 2 => s.xb
  | _ => s.xc
def szP : Nat → Nat
  | 0 => 1
  | _ => 2
def lfP : Nat → Int
  | 0 => 0
  | _ => 32768
def fitZ : Nat → Int → Bool
  | 0, z => decide (0 ≤ z) && decide (z < 256)
  | _ + 1, z => decide (-32768 ≤ z) && decide (z < 32768)
def fitU (s : Stp) : Nat → Bool
  | 0 => true
  | j + 1 => fitU s j && fitZ j (numP s j)
def fitP (s : Stp) : Bool := fitU s 4
def hdP (s : Stp) : Nat → List UInt8
  | 0 => []
  | j + 1 => hdP s j ++ octs (two (numP s j + lfP j)) (szP j)
def octP (s : Stp) : List UInt8 := hdP s 4 ++ (octs s.l.length 2 ++ s.l)
def joinP (l : List Stp) : List UInt8 := l.flatMap octP
def longP (s : Stp) : Bool := decide (1024 < s.l.length)
def chkP (l : List Stp) : Int := if 512 < l.length then 3 else if l.any (fun s => !fitP s) then 4 else if l.any longP then 5 else 0
def errP (l : List Stp) : Int := if chkP l ≠ 0 then chkP l else if 8192 < (joinP l).length then 5 else 0
def putP (l : List Stp) : List UInt8 := if errP l ≠ 0 then [] else joinP l
def OkP (s : Stp) : Prop := fitP s = true ∧ s.l.length ≤ 1024
theorem fit_bnd {s : Stp} (h : fitP s = true) : (0 ≤ s.ki ∧ s.ki < 256) ∧ (-32768 ≤ s.xa ∧ s.xa < 32768) ∧ (-32768 ≤ s.xb ∧ s.xb < 32768) ∧ (-32768 ≤ s.xc ∧ s.xc < 32768) := by
  simp [fitP, fitU, fitZ, numP] at h
  omega
theorem bnd_fit {s : Stp} (h : (0 ≤ s.ki ∧ s.ki < 256) ∧ (-32768 ≤ s.xa ∧ s.xa < 32768) ∧ (-32768 ≤ s.xb ∧ s.xb < 32768) ∧ (-32768 ≤ s.xc ∧ s.xc < 32768)) : fitP s = true := by
  simp [fitP, fitU, fitZ, numP]
  omega
theorem hd_len (s : Stp) : (hdP s 4).length = 7 := by simp [hdP, octs_length, szP]
theorem octP_len (s : Stp) : (octP s).length = 9 + s.l.length := by
  unfold octP
  rw [List.length_append, hd_len, List.length_append, octs_length]
  omega
theorem joinP_cons (s : Stp) (l : List Stp) : joinP (s :: l) = octP s ++ joinP l := rfl
theorem joinP_app (a b : List Stp) : joinP (a ++ b) = joinP a ++ joinP b := List.flatMap_append
theorem joinP_one (s : Stp) : joinP [s] = octP s := List.append_nil _
theorem joinP_len {l : List Stp} (h : ∀ s ∈ l, OkP s) : (joinP l).length ≤ 1033 * l.length := by
  induction l with
  | nil => simp [joinP]
  | cons s l ih =>
    have h1 := ih fun x hx => h x (List.mem_cons_of_mem _ hx)
    have h2 := (h s (List.mem_cons_self ..)).2
    rw [joinP_cons, List.length_append, octP_len, List.length_cons]
    omega
theorem joinP_few (l : List Stp) : 9 * l.length ≤ (joinP l).length := by
  induction l with
  | nil => simp [joinP]
  | cons s l ih =>
    rw [joinP_cons, List.length_append, octP_len, List.length_cons]
    omega
def nx (b : List UInt8) (e s : Nat) : Int := ((be ((b.drop e).take s) : Nat) : Int)
def lenP (b : List UInt8) : Nat := be ((b.drop 7).take 2)
def gotP (b : List UInt8) : Stp := ⟨nx b 0 1 - 0, nx b 1 2 - 32768, nx b 3 2 - 32768, nx b 5 2 - 32768, (b.drop 9).take (lenP b)⟩
def szF (b : List UInt8) : Nat := if 9 ≤ b.length ∧ lenP b ≤ 1024 ∧ 9 + lenP b ≤ b.length then 9 + lenP b else 0
theorem szF_no {b : List UInt8} (h : b.length < 9 ∨ 1024 < lenP b ∨ b.length < 9 + lenP b) : szF b = 0 := if_neg fun x => by omega
theorem szF_yes {b : List UInt8} (h : 9 ≤ b.length) (h1 : lenP b ≤ 1024) (h2 : 9 + lenP b ≤ b.length) : szF b = 9 + lenP b := if_pos ⟨h, h1, h2⟩
theorem szF_nil : szF [] = 0 := szF_no (.inl (by simp))
theorem nx_lt (b : List UInt8) (e : Nat) {s : Nat} (hs : s ≤ 2) : 0 ≤ nx b e s ∧ nx b e s < 65536 := by
  have h := be_lt' (l := (b.drop e).take s) (k := 2) (by rw [List.length_take]; omega)
  unfold nx
  omega
theorem nx_lt1 (b : List UInt8) (e : Nat) : 0 ≤ nx b e 1 ∧ nx b e 1 < 256 := by
  have h := be_lt' (l := (b.drop e).take 1) (k := 1) (by rw [List.length_take]; omega)
  unfold nx
  omega
theorem got_fit (b : List UInt8) : fitP (gotP b) = true := by
  have h0 := nx_lt1 b 0
  have h1 := nx_lt b 1 (s := 2) (by omega)
  have h2 := nx_lt b 3 (s := 2) (by omega)
  have h3 := nx_lt b 5 (s := 2) (by omega)
  refine bnd_fit ?_
  simp only [gotP]
  omega
theorem two_natP {z : Int} {n : Nat} (h : z = (n : Int)) (hn : n < 18446744073709551616) : two z = n := by
  subst h
  unfold two
  omega
theorem octs_at_b {b : List UInt8} {e s : Nat} (h : e + s ≤ b.length) (hs : s ≤ 2) {z : Int} (hz : z = nx b e s) : octs (two z) s = (b.drop e).take s := by
  have hl : ((b.drop e).take s).length = s := by rw [List.length_take, List.length_drop]; omega
  have hb := be_lt' (l := (b.drop e).take s) (k := 2) (by omega)
  rw [two_natP hz (by omega)]
  have := octs_beJ ((b.drop e).take s)
  rwa [hl] at this
theorem take_more (b : List UInt8) (e s : Nat) : b.take e ++ (b.drop e).take s = b.take (e + s) := by
  rw [List.take_add]
theorem got_octs {b : List UInt8} (h : szF b ≠ 0) : octP (gotP b) = b.take (szF b) ∧ OkP (gotP b) ∧ szF b ≤ b.length := by
  by_cases h0 : 9 ≤ b.length ∧ lenP b ≤ 1024 ∧ 9 + lenP b ≤ b.length
  · obtain ⟨h1, h2, h3⟩ := h0
    have hs := szF_yes h1 h2 h3
    have hl : (gotP b).l.length = lenP b := by simp only [gotP]; rw [List.length_take, List.length_drop]; omega
    refine ⟨?_, ⟨got_fit b, by rw [hl]; exact h2⟩, by omega⟩
    unfold octP
    rw [hl]
    have e0 : octs (two (numP (gotP b) 0 + lfP 0)) (szP 0) = (b.drop 0).take 1 := octs_at_b (s := 1) (by omega) (by decide) (by simp [numP, lfP, gotP])
    have e1 : octs (two (numP (gotP b) 1 + lfP 1)) (szP 1) = (b.drop 1).take 2 := octs_at_b (s := 2) (by omega) (by decide) (by simp [numP, lfP, gotP])
    have e2 : octs (two (numP (gotP b) 2 + lfP 2)) (szP 2) = (b.drop 3).take 2 := octs_at_b (s := 2) (by omega) (by decide) (by simp [numP, lfP, gotP])
    have e3 : octs (two (numP (gotP b) 3 + lfP 3)) (szP 3) = (b.drop 5).take 2 := octs_at_b (s := 2) (by omega) (by decide) (by simp [numP, lfP, gotP])
    have e4 : octs (lenP b) 2 = (b.drop 7).take 2 := by
      have h4 := octs_beJ ((b.drop 7).take 2)
      rw [show ((b.drop 7).take 2).length = 2 by rw [List.length_take, List.length_drop]; omega] at h4
      exact h4
    simp only [hdP, e0, e1, e2, e3, e4, List.nil_append, List.drop_zero]
    rw [hs, take_more b 1 2, take_more b 3 2, take_more b 5 2, ← List.append_assoc, take_more b 7 2]
    exact take_more b 9 (lenP b)
  · exact (h (if_neg h0)).elim
theorem be_oct {n s : Nat} (h : n < 256 ^ s) : be (octs n s) = n := by rw [be_octs, Nat.mod_eq_of_lt h]
theorem nx_oct {a r : List UInt8} {n s e : Nat} (he : a.length = e) (h : n < 256 ^ s) {c : List UInt8} (hc : c = a ++ (octs n s ++ r)) : nx c e s = (n : Int) := by
  subst hc
  unfold nx
  rw [List.drop_append_of_le_length (by omega), List.drop_of_length_le (by omega), List.nil_append, List.take_append_of_le_length (by rw [octs_length]; omega), List.take_of_length_le (by rw [octs_length]; omega), be_oct h]
theorem octs_got {s : Stp} (h : OkP s) (r : List UInt8) : gotP (octP s ++ r) = s ∧ szF (octP s ++ r) = 9 + s.l.length := by
  obtain ⟨hf, hl⟩ := h
  obtain ⟨⟨a0, a1⟩, ⟨b0, b1⟩, ⟨c0, c1⟩, d0, d1⟩ := fit_bnd hf
  obtain ⟨n0, e0⟩ : ∃ n : Nat, s.ki + 0 = (n : Int) := ⟨s.ki.toNat, by omega⟩
  obtain ⟨n1, e1⟩ : ∃ n : Nat, s.xa + 32768 = (n : Int) := ⟨(s.xa + 32768).toNat, by omega⟩
  obtain ⟨n2, e2⟩ : ∃ n : Nat, s.xb + 32768 = (n : Int) := ⟨(s.xb + 32768).toNat, by omega⟩
  obtain ⟨n3, e3⟩ : ∃ n : Nat, s.xc + 32768 = (n : Int) := ⟨(s.xc + 32768).toNat, by omega⟩
  have hb : octP s ++ r = octs n0 1 ++ (octs n1 2 ++ (octs n2 2 ++ (octs n3 2 ++ (octs s.l.length 2 ++ (s.l ++ r))))) := by
    simp only [octP, hdP, numP, lfP, szP, two_natP e0 (by omega), two_natP e1 (by omega), two_natP e2 (by omega), two_natP e3 (by omega), List.nil_append, List.append_assoc]
  generalize octP s ++ r = c at hb
  have l0 := octs_length n0 1
  have l1 := octs_length n1 2
  have l2 := octs_length n2 2
  have l3 := octs_length n3 2
  have l4 := octs_length s.l.length 2
  have g0 : nx c 0 1 = (n0 : Int) := nx_oct (a := []) rfl (by omega) hb
  have g1 : nx c 1 2 = (n1 : Int) := nx_oct (a := octs n0 1) l0 (by omega) hb
  have g2 : nx c 3 2 = (n2 : Int) := nx_oct (a := octs n0 1 ++ octs n1 2) (by rw [List.length_append]; omega) (by omega) (by rw [hb]; simp only [List.append_assoc]; rfl)
  have g3 : nx c 5 2 = (n3 : Int) := nx_oct (a := octs n0 1 ++ (octs n1 2 ++ octs n2 2)) (by simp only [List.length_append]; omega) (by omega) (by rw [hb]; simp only [List.append_assoc]; rfl)
  have g4 : nx c 7 2 = (s.l.length : Int) := nx_oct (a := octs n0 1 ++ (octs n1 2 ++ (octs n2 2 ++ octs n3 2))) (by simp only [List.length_append]; omega) (by omega) (by rw [hb]; simp only [List.append_assoc]; rfl)
  have g5 : lenP c = s.l.length := by unfold nx at g4; unfold lenP; omega
  have g6 : c.drop 9 = s.l ++ r := by
    have : c = (octs n0 1 ++ (octs n1 2 ++ (octs n2 2 ++ (octs n3 2 ++ octs s.l.length 2)))) ++ (s.l ++ r) := by rw [hb]; simp only [List.append_assoc]
    rw [this, List.drop_append_of_le_length (by simp only [List.length_append]; omega), List.drop_of_length_le (by simp only [List.length_append]; omega), List.nil_append]
  have g7 : c.length = 9 + (s.l.length + r.length) := by rw [hb]; simp only [List.length_append]; omega
  refine ⟨?_, by rw [szF_yes (by omega) (by omega) (by omega), g5]⟩
  unfold gotP
  rw [g0, g1, g2, g3, g5, g6, List.take_append_of_le_length (Nat.le_refl _), List.take_length]
  cases s
  simp only [Stp.mk.injEq, and_true]
  simp only at e0 e1 e2 e3
  omega
theorem join_one : ∀ (ms l : List Stp) (r : List UInt8), (∀ s ∈ ms, OkP s) → (∀ s ∈ l, OkP s) → joinP ms ++ r = joinP l → szF r = 0 → ms = l ∧ r = []
  | [], [], r, _, _, h, _ => ⟨rfl, h⟩
  | [], s :: l, r, _, hl, h, hr => by
    have h1 := (octs_got (hl s (List.mem_cons_self ..)) (joinP l)).2
    rw [← joinP_cons, ← h] at h1
    have h2 : szF r = 9 + s.l.length := h1
    omega
  | m :: ms, [], r, _, _, h, _ => by
    have h1 := congrArg List.length h
    rw [joinP_cons, List.length_append, List.length_append, octP_len] at h1
    simp [joinP] at h1
  | m :: ms, s :: l, r, hm, hl, h, hr => by
    rw [joinP_cons, joinP_cons, List.append_assoc] at h
    have h1 := (octs_got (hm m (List.mem_cons_self ..)) (joinP ms ++ r)).1
    have h2 := (octs_got (hl s (List.mem_cons_self ..)) (joinP l)).1
    rw [h, h2] at h1
    subst h1
    obtain ⟨rfl, rfl⟩ := join_one ms l r (fun x hx => hm x (List.mem_cons_of_mem _ hx)) (fun x hx => hl x (List.mem_cons_of_mem _ hx)) (List.append_cancel_left h) hr
    exact ⟨rfl, rfl⟩
def NoScr (b : List UInt8) : Prop := 8192 < b.length ∨ (∃ ms r, b = joinP ms ++ r ∧ r ≠ [] ∧ szF r = 0 ∧ ∀ s ∈ ms, OkP s) ∨ (∃ ms, b = joinP ms ∧ 512 < ms.length ∧ ∀ s ∈ ms, OkP s)
theorem noScr {l : List Stp} (h : ∀ s ∈ l, OkP s) (h1 : l.length ≤ 512) (h2 : (joinP l).length ≤ 8192) : ¬ NoScr (joinP l) := by
  rintro (h3 | ⟨ms, r, e, hr, h0, hm⟩ | ⟨ms, e, hr, hm⟩)
  · omega
  · exact hr (join_one ms l r hm h e.symm h0).2
  · have := (join_one ms l [] hm h (by rw [List.append_nil]; exact e.symm) szF_nil).1
    subst this
    omega
theorem chk_ok {l : List Stp} (h : chkP l = 0) : l.length ≤ 512 ∧ ∀ s ∈ l, OkP s := by
  unfold chkP at h
  by_cases h1 : 512 < l.length
  · rw [if_pos h1] at h
    omega
  · rw [if_neg h1] at h
    by_cases h2 : l.any (fun s => !fitP s) = true
    · rw [if_pos h2] at h
      omega
    · rw [if_neg h2] at h
      by_cases h3 : l.any longP = true
      · rw [if_pos h3] at h
        omega
      · refine ⟨by omega, fun s hs => ⟨?_, ?_⟩⟩
        · cases hf : fitP s with
          | true => rfl
          | false => exact (h2 (List.any_eq_true.2 ⟨s, hs, by rw [hf]; rfl⟩)).elim
        · refine Decidable.byContradiction fun hn => h3 (List.any_eq_true.2 ⟨s, hs, decide_eq_true (by omega)⟩)
theorem ok_chk {l : List Stp} (h : l.length ≤ 512) (hs : ∀ s ∈ l, OkP s) : chkP l = 0 := by
  unfold chkP
  rw [if_neg (by omega), if_neg, if_neg]
  · intro h2
    obtain ⟨s, h3, h4⟩ := List.any_eq_true.1 h2
    have := of_decide_eq_true h4
    have := (hs s h3).2
    omega
  · intro h2
    obtain ⟨s, h3, h4⟩ := List.any_eq_true.1 h2
    rw [(hs s h3).1] at h4
    cases h4
theorem err_ok {l : List Stp} (h : errP l = 0) : l.length ≤ 512 ∧ (∀ s ∈ l, OkP s) ∧ (joinP l).length ≤ 8192 ∧ putP l = joinP l := by
  have hp : putP l = joinP l := if_neg fun x => x h
  unfold errP at h
  by_cases h1 : chkP l ≠ 0
  · rw [if_pos h1] at h
    exact (h1 h).elim
  · rw [if_neg h1] at h
    by_cases h2 : 8192 < (joinP l).length
    · rw [if_pos h2] at h
      omega
    · obtain ⟨h3, h4⟩ := chk_ok (Decidable.not_not.1 h1)
      exact ⟨h3, h4, by omega, hp⟩
theorem ok_err {l : List Stp} (h : l.length ≤ 512) (hs : ∀ s ∈ l, OkP s) (h2 : (joinP l).length ≤ 8192) : errP l = 0 ∧ putP l = joinP l := by
  have h1 : errP l = 0 := by
    unfold errP
    rw [if_neg (fun x => x (ok_chk h hs)), if_neg (by omega)]
  exact ⟨h1, if_neg fun x => x h1⟩
-- HERE
end Go.Proofs.YtemknjnljciioaaGreat
namespace Go.Proofs.YtemknjnljciioaaGreat
open Go.RowKit Go.Shelf
attribute [local irreducible] wpFrom wpAnyH StepH
set_option maxRecDepth 100000 in
set_option maxHeartbeats 4000000 in
theorem numbers_any (B : Nat) (w : World) : Calls Tryz.prog 17 #[.pointer (some ⟨B, 0, none⟩)] w fun e W' => e = .returned (nsv (some B)) ∧ Below w.heap.size w W' := by
  have hmx : Tryz.prog.follows .mixedOrders = true := by kernel_rfl
  have hM := Sep.start w
  go_enter Tryz.func17, Tryz.ntmps17
  go_upto_region 0 with fail
  refine wp_region_fromM (fun W => Sep w [] [] W) hM ?_
  clear hM
  rintro Y1 hM
  refine rF (some 2) (pt Y1.heap.size 0) (Y1.alloc (.cells (nbs (none : Option Nat)).toArray 50)) ?_
  replace hM := hM.alloc 50 (nbs (none : Option Nat))
  generalize World.alloc _ _ = Y2 at *
  generalize hNe : Y1.heap.size = N2 at *
  clear hNe
  refine dF ?_
  try simp only [Act.put, List.setIfInBounds_toArray, List.set_cons_zero, List.set_cons_succ]
  go_upto_region 1 with fail
  refine wp_region_M (fun W => Sep w [] [] W) (fun W => Sep w [] [.blk N2 50 (nbs (none : Option Nat))] W) hmx hM.drew ?_
  clear hM
  rintro Y3 hM
  have hS := hM.sub (.cons _ .slnil)
  refine tD 1 [.val 0 (some 3) (pt B 0), .val 1 (some 4) (pt B 0), .val 2 (some 5) (pt B 0), .val 3 (some 6) (nbv (nb B 0 1 0)), .val 4 (some 7) (pt B 0), .val 5 (some 8) (pt B 0), .val 6 (some 9) (pt B 1), .val 7 (some 10) (nbv (nb B 1 2 32768)), .val 8 (some 11) (pt B 0), .val 9 (some 12) (pt B 0), .val 10 (some 13) (pt B 2), .val 11 (some 14) (nbv (nb B 2 2 32768)), .val 12 (some 15) (pt B 0), .val 13 (some 16) (pt B 0), .val 14 (some 17) (pt B 3), .val 15 (some 18) (nbv (nb B 3 2 32768)), .val 16 (some 19) (nsv (some B))] trivial hS ?_
  have hst := sto_part (nbs (some B)) (hM.at 0 rfl) 0 50 (nsv (some B)) (nbs (some B)) rfl (by kernel_rfl) (Nat.le_of_ble_eq_true rfl) rfl rfl
  have hM1 := hM.set 0 (cs' := nbs (some B)) rfl rfl
  refine oD 17 0 (sD 50 (pt N2 0) (nsv (some B)) (hst) (hM1.sub (.cons _ .slnil)) ?_)
  clear hst
  replace hS := hM1.sub (.cons _ .slnil)
  replace hM := hM1
  clear hM1
  generalize World.setRow _ _ _ = Y4 at *
  refine dD ?_
  try simp only [puts, Tk.put, Act.put, List.setIfInBounds_toArray, List.set_cons_zero, List.set_cons_succ]
  clear hS
  go_wp2_with fail
  exact bodyPost_ret (v := nsv (some B)) (res_cell1 rfl _ rfl (lv_ns (hM.at 0 rfl))) rfl ⟨rfl, hM.b⟩
set_option maxRecDepth 100000 in
set_option maxHeartbeats 4000000 in
theorem fits_0 {B : Nat} {T : TypeId} {cs : List Value} {z : Int} (w : World) (hB : Blk w B T cs) (hv : cs[0]? = some (.int .i64 z)) : Calls Tryz.prog 44 #[nbv (nb B 0 1 0)] w fun e W' => e = .returned (.bool (fitZ 0 z)) ∧ Below w.heap.size w W' := by
  have hmx : Tryz.prog.follows .mixedOrders = true := by kernel_rfl
  have HB := Lib.hid hB
  have HV := Lib.hid hv
  clear hB hv
  have hM := Sep.start w
  go_enter Tryz.func44, Tryz.ntmps44
  go_upto_region 0 with fail
  refine wp_region_fromM (fun W => Sep w [] [] W) hM ?_
  clear hM
  rintro Y1 hM
  refine rF (some 1) (pt Y1.heap.size 0) (Y1.alloc (.cells (nbc (nb B 0 1 0)).toArray 49)) ?_
  replace hM := hM.alloc 49 (nbc (nb B 0 1 0))
  generalize World.alloc _ _ = Y2 at *
  generalize hNe : Y1.heap.size = N2 at *
  clear hNe
  refine tF 2 [.val 1 (some 2) (.bool false)] trivial ?_
  refine dF ?_
  try simp only [puts, Tk.put, Act.put, List.setIfInBounds_toArray, List.set_cons_zero, List.set_cons_succ]
  go_upto_region 1 with fail
  refine wp_region_M (fun W => Sep w [] [.blk N2 49 (nbc (nb B 0 1 0))] W) (fun W => Sep w [] [.blk N2 49 (nbc (nb B 0 1 0))] W) hmx hM.drew ?_
  clear hM
  rintro Y3 hM
  have hS := hM.sub (.cons_cons _ .slnil)
  refine tD 14 [.val 0 (some 3) (pt N2 0), .load 1 (some 4) 47 (pt N2 0) (pt B 0), .val 2 (some 5) (pt B 0), .load 3 (some 6) 3 (pt B 0) (.int .i64 z), .val 4 (some 7) (pt N2 2), .load 5 (some 8) 3 (pt N2 2) (.int .i64 0), .val 6 (some 9) (.int .i64 0), .val 7 (some 10) (.bool (decide (0 ≤ z))), .val 8 (some 11) (.bool (decide (0 ≤ z)))] ⟨fun W h => ld_any _ _ Tryz.underlying47 rfl (h.at 0 rfl) 0 rfl, fun W h => ld_any _ _ Tryz.underlying3 rfl (HB.out.below h.b HB.out.lt) 0 HV.out, fun W h => ld_any _ _ Tryz.underlying3 rfl (h.at 0 rfl) 2 rfl, trivial⟩ hS ?_
  cases hb1 : decide (0 ≤ z) with
  | false =>
    have Hhb1 := Lib.hid hb1
    clear hb1
    refine tD 0 [.skip 9 (some 12), .skip 10 (some 13), .skip 11 (some 14), .skip 12 (some 15), .skip 13 (some 16), .skip 14 (some 17), .skip 15 (some 18), .skip 16 (some 19), .skip 17 (some 20), .skip 18 (some 21), .skip 19 (some 22), .skip 20 (some 23), .val 21 (some 24) (.bool false), .val 22 (some 2) (.bool false)] trivial hS ?_
    refine dD ?_
    try simp only [puts, Tk.put, Act.put, List.setIfInBounds_toArray, List.set_cons_zero, List.set_cons_succ]
    clear hS
    go_wp2_with fail
    go_ret
    exact ⟨by rw [show fitZ 0 z = (decide (0 ≤ z) && decide (z < 256)) from rfl, Hhb1.out]; rfl, hM.b⟩
  | true =>
    have Hhb1 := Lib.hid hb1
    clear hb1
    refine tD 0 [.val 9 (some 12) (pt N2 0), .load 10 (some 13) 47 (pt N2 0) (pt B 0), .val 11 (some 14) (pt B 0), .load 12 (some 15) 3 (pt B 0) (.int .i64 z), .val 13 (some 16) (pt N2 1), .load 14 (some 17) 3 (pt N2 1) (.int .i64 1), .val 15 (some 18) (.int .i64 8), .val 16 (some 19) (.int .i64 256), .val 17 (some 20) (pt N2 2), .load 18 (some 21) 3 (pt N2 2) (.int .i64 0), .val 19 (some 22) (.int .i64 256), .val 20 (some 23) (.bool (decide (z < 256))), .val 21 (some 24) (.bool (decide (z < 256))), .val 22 (some 2) (.bool (decide (z < 256)))] ⟨fun W h => ld_any _ _ Tryz.underlying47 rfl (h.at 0 rfl) 0 rfl, fun W h => ld_any _ _ Tryz.underlying3 rfl (HB.out.below h.b HB.out.lt) 0 HV.out, fun W h => ld_any _ _ Tryz.underlying3 rfl (h.at 0 rfl) 1 rfl, fun W h => ld_any _ _ Tryz.underlying3 rfl (h.at 0 rfl) 2 rfl, trivial⟩ hS ?_
    refine dD ?_
    try simp only [puts, Tk.put, Act.put, List.setIfInBounds_toArray, List.set_cons_zero, List.set_cons_succ]
    clear hS
    go_wp2_with fail
    go_ret
    exact ⟨by rw [show fitZ 0 z = (decide (0 ≤ z) && decide (z < 256)) from rfl, Hhb1.out]; rfl, hM.b⟩
set_option maxRecDepth 100000 in
set_option maxHeartbeats 4000000 in
theorem fits_1 {B : Nat} {T : TypeId} {cs : List Value} {z : Int} (w : World) (hB : Blk w B T cs) (hv : cs[1]? = some (.int .i64 z)) : Calls Tryz.prog 44 #[nbv (nb B 1 2 32768)] w fun e W' => e = .returned (.bool (fitZ 1 z)) ∧ Below w.heap.size w W' := by
  have hmx : Tryz.prog.follows .mixedOrders = true := by kernel_rfl
  have HB := Lib.hid hB
  have HV := Lib.hid hv
  clear hB hv
  have hM := Sep.start w
  go_enter Tryz.func44, Tryz.ntmps44
  go_upto_region 0 with fail
  refine wp_region_fromM (fun W => Sep w [] [] W) hM ?_
  clear hM
  rintro Y1 hM
  refine rF (some 1) (pt Y1.heap.size 0) (Y1.alloc (.cells (nbc (nb B 1 2 32768)).toArray 49)) ?_
  replace hM := hM.alloc 49 (nbc (nb B 1 2 32768))
  generalize World.alloc _ _ = Y2 at *
  generalize hNe : Y1.heap.size = N2 at *
  clear hNe
  refine tF 2 [.val 1 (some 2) (.bool false)] trivial ?_
  refine dF ?_
  try simp only [puts, Tk.put, Act.put, List.setIfInBounds_toArray, List.set_cons_zero, List.set_cons_succ]
  go_upto_region 1 with fail
  refine wp_region_M (fun W => Sep w [] [.blk N2 49 (nbc (nb B 1 2 32768))] W) (fun W => Sep w [] [.blk N2 49 (nbc (nb B 1 2 32768))] W) hmx hM.drew ?_
  clear hM
  rintro Y3 hM
  have hS := hM.sub (.cons_cons _ .slnil)
  refine tD 14 [.val 0 (some 3) (pt N2 0), .load 1 (some 4) 47 (pt N2 0) (pt B 1), .val 2 (some 5) (pt B 1), .load 3 (some 6) 3 (pt B 1) (.int .i64 z), .val 4 (some 7) (pt N2 2), .load 5 (some 8) 3 (pt N2 2) (.int .i64 32768), .val 6 (some 9) (.int .i64 (-32768)), .val 7 (some 10) (.bool (decide ((-32768) ≤ z))), .val 8 (some 11) (.bool (decide ((-32768) ≤ z)))] ⟨fun W h => ld_any _ _ Tryz.underlying47 rfl (h.at 0 rfl) 0 rfl, fun W h => ld_any _ _ Tryz.underlying3 rfl (HB.out.below h.b HB.out.lt) 1 HV.out, fun W h => ld_any _ _ Tryz.underlying3 rfl (h.at 0 rfl) 2 rfl, trivial⟩ hS ?_
  cases hb1 : decide ((-32768) ≤ z) with
  | false =>
    have Hhb1 := Lib.hid hb1
    clear hb1
    refine tD 0 [.skip 9 (some 12), .skip 10 (some 13), .skip 11 (some 14), .skip 12 (some 15), .skip 13 (some 16), .skip 14 (some 17), .skip 15 (some 18), .skip 16 (some 19), .skip 17 (some 20), .skip 18 (some 21), .skip 19 (some 22), .skip 20 (some 23), .val 21 (some 24) (.bool false), .val 22 (some 2) (.bool false)] trivial hS ?_
    refine dD ?_
    try simp only [puts, Tk.put, Act.put, List.setIfInBounds_toArray, List.set_cons_zero, List.set_cons_succ]
    clear hS
    go_wp2_with fail
    go_ret
    exact ⟨by rw [show fitZ 1 z = (decide (-32768 ≤ z) && decide (z < 32768)) from rfl, Hhb1.out]; rfl, hM.b⟩
  | true =>
    have Hhb1 := Lib.hid hb1
    clear hb1
    refine tD 0 [.val 9 (some 12) (pt N2 0), .load 10 (some 13) 47 (pt N2 0) (pt B 1), .val 11 (some 14) (pt B 1), .load 12 (some 15) 3 (pt B 1) (.int .i64 z), .val 13 (some 16) (pt N2 1), .load 14 (some 17) 3 (pt N2 1) (.int .i64 2), .val 15 (some 18) (.int .i64 16), .val 16 (some 19) (.int .i64 65536), .val 17 (some 20) (pt N2 2), .load 18 (some 21) 3 (pt N2 2) (.int .i64 32768), .val 19 (some 22) (.int .i64 32768), .val 20 (some 23) (.bool (decide (z < 32768))), .val 21 (some 24) (.bool (decide (z < 32768))), .val 22 (some 2) (.bool (decide (z < 32768)))] ⟨fun W h => ld_any _ _ Tryz.underlying47 rfl (h.at 0 rfl) 0 rfl, fun W h => ld_any _ _ Tryz.underlying3 rfl (HB.out.below h.b HB.out.lt) 1 HV.out, fun W h => ld_any _ _ Tryz.underlying3 rfl (h.at 0 rfl) 1 rfl, fun W h => ld_any _ _ Tryz.underlying3 rfl (h.at 0 rfl) 2 rfl, trivial⟩ hS ?_
    refine dD ?_
    try simp only [puts, Tk.put, Act.put, List.setIfInBounds_toArray, List.set_cons_zero, List.set_cons_succ]
    clear hS
    go_wp2_with fail
    go_ret
    exact ⟨by rw [show fitZ 1 z = (decide (-32768 ≤ z) && decide (z < 32768)) from rfl, Hhb1.out]; rfl, hM.b⟩
set_option maxRecDepth 100000 in
set_option maxHeartbeats 4000000 in
theorem fits_2 {B : Nat} {T : TypeId} {cs : List Value} {z : Int} (w : World) (hB : Blk w B T cs) (hv : cs[2]? = some (.int .i64 z)) : Calls Tryz.prog 44 #[nbv (nb B 2 2 32768)] w fun e W' => e = .returned (.bool (fitZ 2 z)) ∧ Below w.heap.size w W' := by
  have hmx : Tryz.prog.follows .mixedOrders = true := by kernel_rfl
  have HB := Lib.hid hB
  have HV := Lib.hid hv
  clear hB hv
  have hM := Sep.start w
  go_enter Tryz.func44, Tryz.ntmps44
  go_upto_region 0 with fail
  refine wp_region_fromM (fun W => Sep w [] [] W) hM ?_
  clear hM
  rintro Y1 hM
  refine rF (some 1) (pt Y1.heap.size 0) (Y1.alloc (.cells (nbc (nb B 2 2 32768)).toArray 49)) ?_
  replace hM := hM.alloc 49 (nbc (nb B 2 2 32768))
  generalize World.alloc _ _ = Y2 at *
  generalize hNe : Y1.heap.size = N2 at *
  clear hNe
  refine tF 2 [.val 1 (some 2) (.bool false)] trivial ?_
  refine dF ?_
  try simp only [puts, Tk.put, Act.put, List.setIfInBounds_toArray, List.set_cons_zero, List.set_cons_succ]
  go_upto_region 1 with fail
  refine wp_region_M (fun W => Sep w [] [.blk N2 49 (nbc (nb B 2 2 32768))] W) (fun W => Sep w [] [.blk N2 49 (nbc (nb B 2 2 32768))] W) hmx hM.drew ?_
  clear hM
  rintro Y3 hM
  have hS := hM.sub (.cons_cons _ .slnil)
  refine tD 14 [.val 0 (some 3) (pt N2 0), .load 1 (some 4) 47 (pt N2 0) (pt B 2), .val 2 (some 5) (pt B 2), .load 3 (some 6) 3 (pt B 2) (.int .i64 z), .val 4 (some 7) (pt N2 2), .load 5 (some 8) 3 (pt N2 2) (.int .i64 32768), .val 6 (some 9) (.int .i64 (-32768)), .val 7 (some 10) (.bool (decide ((-32768) ≤ z))), .val 8 (some 11) (.bool (decide ((-32768) ≤ z)))] ⟨fun W h => ld_any _ _ Tryz.underlying47 rfl (h.at 0 rfl) 0 rfl, fun W h => ld_any _ _ Tryz.underlying3 rfl (HB.out.below h.b HB.out.lt) 2 HV.out, fun W h => ld_any _ _ Tryz.underlying3 rfl (h.at 0 rfl) 2 rfl, trivial⟩ hS ?_
  cases hb1 : decide ((-32768) ≤ z) with
  | false =>
    have Hhb1 := Lib.hid hb1
    clear hb1
    refine tD 0 [.skip 9 (some 12), .skip 10 (some 13), .skip 11 (some 14), .skip 12 (some 15), .skip 13 (some 16), .skip 14 (some 17), .skip 15 (some 18), .skip 16 (some 19), .skip 17 (some 20), .skip 18 (some 21), .skip 19 (some 22), .skip 20 (some 23), .val 21 (some 24) (.bool false), .val 22 (some 2) (.bool false)] trivial hS ?_
    refine dD ?_
    try simp only [puts, Tk.put, Act.put, List.setIfInBounds_toArray, List.set_cons_zero, List.set_cons_succ]
    clear hS
    go_wp2_with fail
    go_ret
    exact ⟨by rw [show fitZ 2 z = (decide (-32768 ≤ z) && decide (z < 32768)) from rfl, Hhb1.out]; rfl, hM.b⟩
  | true =>
    have Hhb1 := Lib.hid hb1
    clear hb1
    refine tD 0 [.val 9 (some 12) (pt N2 0), .load 10 (some 13) 47 (pt N2 0) (pt B 2), .val 11 (some 14) (pt B 2), .load 12 (some 15) 3 (pt B 2) (.int .i64 z), .val 13 (some 16) (pt N2 1), .load 14 (some 17) 3 (pt N2 1) (.int .i64 2), .val 15 (some 18) (.int .i64 16), .val 16 (some 19) (.int .i64 65536), .val 17 (some 20) (pt N2 2), .load 18 (some 21) 3 (pt N2 2) (.int .i64 32768), .val 19 (some 22) (.int .i64 32768), .val 20 (some 23) (.bool (decide (z < 32768))), .val 21 (some 24) (.bool (decide (z < 32768))), .val 22 (some 2) (.bool (decide (z < 32768)))] ⟨fun W h => ld_any _ _ Tryz.underlying47 rfl (h.at 0 rfl) 0 rfl, fun W h => ld_any _ _ Tryz.underlying3 rfl (HB.out.below h.b HB.out.lt) 2 HV.out, fun W h => ld_any _ _ Tryz.underlying3 rfl (h.at 0 rfl) 1 rfl, fun W h => ld_any _ _ Tryz.underlying3 rfl (h.at 0 rfl) 2 rfl, trivial⟩ hS ?_
    refine dD ?_
    try simp only [puts, Tk.put, Act.put, List.setIfInBounds_toArray, List.set_cons_zero, List.set_cons_succ]
    clear hS
    go_wp2_with fail
    go_ret
    exact ⟨by rw [show fitZ 2 z = (decide (-32768 ≤ z) && decide (z < 32768)) from rfl, Hhb1.out]; rfl, hM.b⟩
set_option maxRecDepth 100000 in
set_option maxHeartbeats 4000000 in
theorem fits_3 {B : Nat} {T : TypeId} {cs : List Value} {z : Int} (w : World) (hB : Blk w B T cs) (hv : cs[3]? = some (.int .i64 z)) : Calls Tryz.prog 44 #[nbv (nb B 3 2 32768)] w fun e W' => e = .returned (.bool (fitZ 3 z)) ∧ Below w.heap.size w W' := by
  have hmx : Tryz.prog.follows .mixedOrders = true := by kernel_rfl
  have HB := Lib.hid hB
  have HV := Lib.hid hv
  clear hB hv
  have hM := Sep.start w
  go_enter Tryz.func44, Tryz.ntmps44
  go_upto_region 0 with fail
  refine wp_region_fromM (fun W => Sep w [] [] W) hM ?_
  clear hM
  rintro Y1 hM
  refine rF (some 1) (pt Y1.heap.size 0) (Y1.alloc (.cells (nbc (nb B 3 2 32768)).toArray 49)) ?_
  replace hM := hM.alloc 49 (nbc (nb B 3 2 32768))
  generalize World.alloc _ _ = Y2 at *
  generalize hNe : Y1.heap.size = N2 at *
  clear hNe
  refine tF 2 [.val 1 (some 2) (.bool false)] trivial ?_
  refine dF ?_
  try simp only [puts, Tk.put, Act.put, List.setIfInBounds_toArray, List.set_cons_zero, List.set_cons_succ]
  go_upto_region 1 with fail
  refine wp_region_M (fun W => Sep w [] [.blk N2 49 (nbc (nb B 3 2 32768))] W) (fun W => Sep w [] [.blk N2 49 (nbc (nb B 3 2 32768))] W) hmx hM.drew ?_
  clear hM
  rintro Y3 hM
  have hS := hM.sub (.cons_cons _ .slnil)
  refine tD 14 [.val 0 (some 3) (pt N2 0), .load 1 (some 4) 47 (pt N2 0) (pt B 3), .val 2 (some 5) (pt B 3), .load 3 (some 6) 3 (pt B 3) (.int .i64 z), .val 4 (some 7) (pt N2 2), .load 5 (some 8) 3 (pt N2 2) (.int .i64 32768), .val 6 (some 9) (.int .i64 (-32768)), .val 7 (some 10) (.bool (decide ((-32768) ≤ z))), .val 8 (some 11) (.bool (decide ((-32768) ≤ z)))] ⟨fun W h => ld_any _ _ Tryz.underlying47 rfl (h.at 0 rfl) 0 rfl, fun W h => ld_any _ _ Tryz.underlying3 rfl (HB.out.below h.b HB.out.lt) 3 HV.out, fun W h => ld_any _ _ Tryz.underlying3 rfl (h.at 0 rfl) 2 rfl, trivial⟩ hS ?_
  cases hb1 : decide ((-32768) ≤ z) with
  | false =>
    have Hhb1 := Lib.hid hb1
    clear hb1
    refine tD 0 [.skip 9 (some 12), .skip 10 (some 13), .skip 11 (some 14), .skip 12 (some 15), .skip 13 (some 16), .skip 14 (some 17), .skip 15 (some 18), .skip 16 (some 19), .skip 17 (some 20), .skip 18 (some 21), .skip 19 (some 22), .skip 20 (some 23), .val 21 (some 24) (.bool false), .val 22 (some 2) (.bool false)] trivial hS ?_
    refine dD ?_
    try simp only [puts, Tk.put, Act.put, List.setIfInBounds_toArray, List.set_cons_zero, List.set_cons_succ]
    clear hS
    go_wp2_with fail
    go_ret
    exact ⟨by rw [show fitZ 3 z = (decide (-32768 ≤ z) && decide (z < 32768)) from rfl, Hhb1.out]; rfl, hM.b⟩
  | true =>
    have Hhb1 := Lib.hid hb1
    clear hb1
    refine tD 0 [.val 9 (some 12) (pt N2 0), .load 10 (some 13) 47 (pt N2 0) (pt B 3), .val 11 (some 14) (pt B 3), .load 12 (some 15) 3 (pt B 3) (.int .i64 z), .val 13 (some 16) (pt N2 1), .load 14 (some 17) 3 (pt N2 1) (.int .i64 2), .val 15 (some 18) (.int .i64 16), .val 16 (some 19) (.int .i64 65536), .val 17 (some 20) (pt N2 2), .load 18 (some 21) 3 (pt N2 2) (.int .i64 32768), .val 19 (some 22) (.int .i64 32768), .val 20 (some 23) (.bool (decide (z < 32768))), .val 21 (some 24) (.bool (decide (z < 32768))), .val 22 (some 2) (.bool (decide (z < 32768)))] ⟨fun W h => ld_any _ _ Tryz.underlying47 rfl (h.at 0 rfl) 0 rfl, fun W h => ld_any _ _ Tryz.underlying3 rfl (HB.out.below h.b HB.out.lt) 3 HV.out, fun W h => ld_any _ _ Tryz.underlying3 rfl (h.at 0 rfl) 1 rfl, fun W h => ld_any _ _ Tryz.underlying3 rfl (h.at 0 rfl) 2 rfl, trivial⟩ hS ?_
    refine dD ?_
    try simp only [puts, Tk.put, Act.put, List.setIfInBounds_toArray, List.set_cons_zero, List.set_cons_succ]
    clear hS
    go_wp2_with fail
    go_ret
    exact ⟨by rw [show fitZ 3 z = (decide (-32768 ≤ z) && decide (z < 32768)) from rfl, Hhb1.out]; rfl, hM.b⟩
theorem fit_not {s : Stp} (j : Nat) (hj : j < 4) (h : fitZ j (numP s j) = false) : fitP s = false := by
  match j, hj with
  | 0, _ => simp [fitP, fitU, h]
  | 1, _ => simp [fitP, fitU, h]
  | 2, _ => simp [fitP, fitU, h]
  | 3, _ => simp [fitP, fitU, h]
set_option maxRecDepth 100000 in
set_option maxHeartbeats 4000000 in
theorem allFit_any (x : Sp) (w : World) : Calls Tryz.prog 15 #[spv x] w fun e W' => e = .returned (.bool (fitP (plP x))) ∧ Below w.heap.size w W' := by
  have hmx : Tryz.prog.follows .mixedOrders = true := by kernel_rfl
  have hM := Sep.start w
  go_enter Tryz.func15, Tryz.ntmps15
  go_upto_region 0 with fail
  refine wp_region_fromM (fun W => Sep w [] [] W) hM ?_
  clear hM
  rintro Y1 hM
  refine rF (some 1) (pt Y1.heap.size 0) (Y1.alloc (.cells (spc x).toArray 24)) ?_
  replace hM := hM.alloc 24 (spc x)
  generalize World.alloc _ _ = Y2 at *
  generalize hNe : Y1.heap.size = N2 at *
  clear hNe
  refine tF 2 [.val 1 (some 2) (.bool false)] trivial ?_
  refine dF ?_
  try simp only [puts, Tk.put, Act.put, List.setIfInBounds_toArray, List.set_cons_zero, List.set_cons_succ]
  go_upto_region 1 with fail
  refine wp_region_fromM (fun W => Sep w [] [.blk N2 24 (spc x)] W) hM ?_
  clear hM
  rintro Y3 hM
  refine cF (some 5) 17 #[pt N2 0] ((numbers_any N2 _).mono ?_)
  rintro e Y4 ⟨rfl, hb⟩
  replace hM := hM.below hb
  clear hb
  refine tF 2 [.val 1 (some 6) (.int .i64 0)] trivial ?_
  refine dF ?_
  try simp only [puts, Tk.put, Act.put, List.setIfInBounds_toArray, List.set_cons_zero, List.set_cons_succ]
  go_wp2_with fail
  go_loopw [6] (fun i wr => ∃ j : Nat, (j = 0 ∨ j = 1 ∨ j = 2 ∨ j = 3 ∨ j = 4) ∧ i = .int .i64 (j : Int) ∧ fitU (plP x) j = true ∧ Sep w [] [.blk N2 24 (spc x)] wr) (fun i _ => 4 - (intOf i).toNat)
  case atStart => exact ⟨0, .inl rfl, rfl, rfl, hM⟩
  clear hM
  case round =>
    obtain ⟨j, hq, hi, hf, hM⟩ := hrel
    rcases hq with rfl | rfl | rfl | rfl | rfl
    case inl =>
      replace hi : _ = Value.int .i64 0 := hi
      subst hi
      have HF := Lib.hid hf
      clear hf
      go_upto_region 2 with fail
      refine wp_region_fromM (fun W => Sep w [] [.blk N2 24 (spc x)] W) hM ?_
      clear hM
      rintro Y5 hM
      refine tF 1 [.val 0 (some 7) (.bool true)] trivial ?_
      refine dF ?_
      try simp only [puts, Tk.put, Act.put, List.setIfInBounds_toArray, List.set_cons_zero, List.set_cons_succ]
      go_upto_region 3 with fail
      refine wp_region_fromM (fun W => Sep w [] [.blk N2 24 (spc x)] W) hM ?_
      clear hM
      rintro Y6 hM
      refine tF 1 [.val 0 (some 8) (nbv (nb N2 0 1 0))] trivial ?_
      refine rF (some 4) (pt Y6.heap.size 0) (Y6.alloc (.cells (nbc noNb).toArray 49)) ?_
      replace hM := hM.alloc 49 (nbc noNb)
      generalize World.alloc _ _ = Y7 at *
      generalize hNe : Y6.heap.size = N7 at *
      clear hNe
      have hst := sto_part (nbc (nb N2 0 1 0)) (hM.at 0 rfl) 0 49 (nbv (nb N2 0 1 0)) (nbc (nb N2 0 1 0)) rfl (by kernel_rfl) (Nat.le_of_ble_eq_true rfl) rfl rfl
      refine sF 49 (pt N7 0) (nbv (nb N2 0 1 0)) (hst) ?_
      clear hst
      replace hM := hM.set 0 (cs' := nbc (nb N2 0 1 0)) rfl rfl
      generalize World.setRow _ _ _ = Y8 at *
      refine dF ?_
      try simp only [puts, Tk.put, Act.put, List.setIfInBounds_toArray, List.set_cons_zero, List.set_cons_succ]
      go_upto_region 4 with fail
      refine wp_region_fromM (fun W => Sep w [] [.blk N7 49 (nbc (nb N2 0 1 0)), .blk N2 24 (spc x)] W) hM ?_
      clear hM
      rintro Y9 hM
      refine tF 1 [.load 0 (some 9) 49 (pt N7 0) (nbv (nb N2 0 1 0))] ⟨load_part (hM.at 0 rfl) 0 (nbc (nb N2 0 1 0)) rfl _ _ Tryz.underlying49 rfl (by kernel_rfl), trivial⟩ ?_
      refine cF (some 10) 44 #[nbv (nb N2 0 1 0)] ((fits_0 _ (hM.at 1 rfl) rfl).mono ?_)
      rintro e Y10 ⟨rfl, hb⟩
      replace hM := hM.below hb
      clear hb
      cases hb1 : fitZ 0 x.ki with
      | false =>
        have Hhb1 := Lib.hid hb1
        clear hb1
        refine tF 3 [.val 2 (some 11) (.bool true)] trivial ?_
        refine dF ?_
        try simp only [puts, Tk.put, Act.put, List.setIfInBounds_toArray, List.set_cons_zero, List.set_cons_succ]
        go_upto_region 5 with fail
        refine wp_region_fromM (fun W => Sep w [] [.blk N7 49 (nbc (nb N2 0 1 0)), .blk N2 24 (spc x)] W) hM ?_
        clear hM
        rintro Y11 hM
        refine tF 1 [.val 0 (some 2) (.bool false)] trivial ?_
        refine dF ?_
        try simp only [puts, Tk.put, Act.put, List.setIfInBounds_toArray, List.set_cons_zero, List.set_cons_succ]
        go_wp2_with fail
        go_ret
        exact ⟨by rw [show fitP (plP x) = false from fit_not 0 (by decide) Hhb1.out]; rfl, hM.b⟩
      | true =>
        have Hhb1 := Lib.hid hb1
        clear hb1
        refine tF 3 [.val 2 (some 11) (.bool false)] trivial ?_
        refine dF ?_
        try simp only [puts, Tk.put, Act.put, List.setIfInBounds_toArray, List.set_cons_zero, List.set_cons_succ]
        go_upto_region 6 with fail
        refine wp_region_fromM (fun W => Sep w [] [.blk N7 49 (nbc (nb N2 0 1 0)), .blk N2 24 (spc x)] W) hM ?_
        clear hM
        rintro Y12 hM
        refine tF 2 [.val 0 (some 12) (.int .i64 1), .val 1 (some 6) (.int .i64 1)] trivial ?_
        refine dF ?_
        try simp only [puts, Tk.put, Act.put, List.setIfInBounds_toArray, List.set_cons_zero, List.set_cons_succ]
        have hM1 : Sep w [] [.blk N2 24 (spc x)] Y12 := hM.pick [1] (by decide) rfl
        clear hM
        go_wp2_with fail
        go_roundw
        case rel => exact ⟨1, .inr (.inl rfl), rfl, (show fitU (plP x) 1 = true from by unfold fitU; rw [HF.out]; exact Hhb1.out), hM1⟩
        case measure => simp [intOf]
    case inr.inl =>
      replace hi : _ = Value.int .i64 1 := hi
      subst hi
      have HF := Lib.hid hf
      clear hf
      go_upto_region 2 with fail
      refine wp_region_fromM (fun W => Sep w [] [.blk N2 24 (spc x)] W) hM ?_
      clear hM
      rintro Y13 hM
      refine tF 1 [.val 0 (some 7) (.bool true)] trivial ?_
      refine dF ?_
      try simp only [puts, Tk.put, Act.put, List.setIfInBounds_toArray, List.set_cons_zero, List.set_cons_succ]
      go_upto_region 3 with fail
      refine wp_region_fromM (fun W => Sep w [] [.blk N2 24 (spc x)] W) hM ?_
      clear hM
      rintro Y14 hM
      refine tF 1 [.val 0 (some 8) (nbv (nb N2 1 2 32768))] trivial ?_
      refine rF (some 4) (pt Y14.heap.size 0) (Y14.alloc (.cells (nbc noNb).toArray 49)) ?_
      replace hM := hM.alloc 49 (nbc noNb)
      generalize World.alloc _ _ = Y15 at *
      generalize hNe : Y14.heap.size = N15 at *
      clear hNe
      have hst := sto_part (nbc (nb N2 1 2 32768)) (hM.at 0 rfl) 0 49 (nbv (nb N2 1 2 32768)) (nbc (nb N2 1 2 32768)) rfl (by kernel_rfl) (Nat.le_of_ble_eq_true rfl) rfl rfl
      refine sF 49 (pt N15 0) (nbv (nb N2 1 2 32768)) (hst) ?_
      clear hst
      replace hM := hM.set 0 (cs' := nbc (nb N2 1 2 32768)) rfl rfl
      generalize World.setRow _ _ _ = Y16 at *
      refine dF ?_
      try simp only [puts, Tk.put, Act.put, List.setIfInBounds_toArray, List.set_cons_zero, List.set_cons_succ]
      go_upto_region 4 with fail
      refine wp_region_fromM (fun W => Sep w [] [.blk N15 49 (nbc (nb N2 1 2 32768)), .blk N2 24 (spc x)] W) hM ?_
      clear hM
      rintro Y17 hM
      refine tF 1 [.load 0 (some 9) 49 (pt N15 0) (nbv (nb N2 1 2 32768))] ⟨load_part (hM.at 0 rfl) 0 (nbc (nb N2 1 2 32768)) rfl _ _ Tryz.underlying49 rfl (by kernel_rfl), trivial⟩ ?_
      refine cF (some 10) 44 #[nbv (nb N2 1 2 32768)] ((fits_1 _ (hM.at 1 rfl) rfl).mono ?_)
      rintro e Y18 ⟨rfl, hb⟩
      replace hM := hM.below hb
      clear hb
      cases hb2 : fitZ 1 x.xa with
      | false =>
        have Hhb2 := Lib.hid hb2
        clear hb2
        refine tF 3 [.val 2 (some 11) (.bool true)] trivial ?_
        refine dF ?_
        try simp only [puts, Tk.put, Act.put, List.setIfInBounds_toArray, List.set_cons_zero, List.set_cons_succ]
        go_upto_region 5 with fail
        refine wp_region_fromM (fun W => Sep w [] [.blk N15 49 (nbc (nb N2 1 2 32768)), .blk N2 24 (spc x)] W) hM ?_
        clear hM
        rintro Y19 hM
        refine tF 1 [.val 0 (some 2) (.bool false)] trivial ?_
        refine dF ?_
        try simp only [puts, Tk.put, Act.put, List.setIfInBounds_toArray, List.set_cons_zero, List.set_cons_succ]
        go_wp2_with fail
        go_ret
        exact ⟨by rw [show fitP (plP x) = false from fit_not 1 (by decide) Hhb2.out]; rfl, hM.b⟩
      | true =>
        have Hhb2 := Lib.hid hb2
        clear hb2
        refine tF 3 [.val 2 (some 11) (.bool false)] trivial ?_
        refine dF ?_
        try simp only [puts, Tk.put, Act.put, List.setIfInBounds_toArray, List.set_cons_zero, List.set_cons_succ]
        go_upto_region 6 with fail
        refine wp_region_fromM (fun W => Sep w [] [.blk N15 49 (nbc (nb N2 1 2 32768)), .blk N2 24 (spc x)] W) hM ?_
        clear hM
        rintro Y20 hM
        refine tF 2 [.val 0 (some 12) (.int .i64 2), .val 1 (some 6) (.int .i64 2)] trivial ?_
        refine dF ?_
        try simp only [puts, Tk.put, Act.put, List.setIfInBounds_toArray, List.set_cons_zero, List.set_cons_succ]
        have hM1 : Sep w [] [.blk N2 24 (spc x)] Y20 := hM.pick [1] (by decide) rfl
        clear hM
        go_wp2_with fail
        go_roundw
        case rel => exact ⟨2, .inr (.inr (.inl rfl)), rfl, (show fitU (plP x) 2 = true from by unfold fitU; rw [HF.out]; exact Hhb2.out), hM1⟩
        case measure => simp [intOf]
    case inr.inr.inl =>
      replace hi : _ = Value.int .i64 2 := hi
      subst hi
      have HF := Lib.hid hf
      clear hf
      go_upto_region 2 with fail
      refine wp_region_fromM (fun W => Sep w [] [.blk N2 24 (spc x)] W) hM ?_
      clear hM
      rintro Y21 hM
      refine tF 1 [.val 0 (some 7) (.bool true)] trivial ?_
      refine dF ?_
      try simp only [puts, Tk.put, Act.put, List.setIfInBounds_toArray, List.set_cons_zero, List.set_cons_succ]
      go_upto_region 3 with fail
      refine wp_region_fromM (fun W => Sep w [] [.blk N2 24 (spc x)] W) hM ?_
      clear hM
      rintro Y22 hM
      refine tF 1 [.val 0 (some 8) (nbv (nb N2 2 2 32768))] trivial ?_
      refine rF (some 4) (pt Y22.heap.size 0) (Y22.alloc (.cells (nbc noNb).toArray 49)) ?_
      replace hM := hM.alloc 49 (nbc noNb)
      generalize World.alloc _ _ = Y23 at *
      generalize hNe : Y22.heap.size = N23 at *
      clear hNe
      have hst := sto_part (nbc (nb N2 2 2 32768)) (hM.at 0 rfl) 0 49 (nbv (nb N2 2 2 32768)) (nbc (nb N2 2 2 32768)) rfl (by kernel_rfl) (Nat.le_of_ble_eq_true rfl) rfl rfl
      refine sF 49 (pt N23 0) (nbv (nb N2 2 2 32768)) (hst) ?_
      clear hst
      replace hM := hM.set 0 (cs' := nbc (nb N2 2 2 32768)) rfl rfl
      generalize World.setRow _ _ _ = Y24 at *
      refine dF ?_
      try simp only [puts, Tk.put, Act.put, List.setIfInBounds_toArray, List.set_cons_zero, List.set_cons_succ]
      go_upto_region 4 with fail
      refine wp_region_fromM (fun W => Sep w [] [.blk N23 49 (nbc (nb N2 2 2 32768)), .blk N2 24 (spc x)] W) hM ?_
      clear hM
      rintro Y25 hM
      refine tF 1 [.load 0 (some 9) 49 (pt N23 0) (nbv (nb N2 2 2 32768))] ⟨load_part (hM.at 0 rfl) 0 (nbc (nb N2 2 2 32768)) rfl _ _ Tryz.underlying49 rfl (by kernel_rfl), trivial⟩ ?_
      refine cF (some 10) 44 #[nbv (nb N2 2 2 32768)] ((fits_2 _ (hM.at 1 rfl) rfl).mono ?_)
      rintro e Y26 ⟨rfl, hb⟩
      replace hM := hM.below hb
      clear hb
      cases hb3 : fitZ 2 x.xb with
      | false =>
        have Hhb3 := Lib.hid hb3
        clear hb3
        refine tF 3 [.val 2 (some 11) (.bool true)] trivial ?_
        refine dF ?_
        try simp only [puts, Tk.put, Act.put, List.setIfInBounds_toArray, List.set_cons_zero, List.set_cons_succ]
        go_upto_region 5 with fail
        refine wp_region_fromM (fun W => Sep w [] [.blk N23 49 (nbc (nb N2 2 2 32768)), .blk N2 24 (spc x)] W) hM ?_
        clear hM
        rintro Y27 hM
        refine tF 1 [.val 0 (some 2) (.bool false)] trivial ?_
        refine dF ?_
        try simp only [puts, Tk.put, Act.put, List.setIfInBounds_toArray, List.set_cons_zero, List.set_cons_succ]
        go_wp2_with fail
        go_ret
        exact ⟨by rw [show fitP (plP x) = false from fit_not 2 (by decide) Hhb3.out]; rfl, hM.b⟩
      | true =>
        have Hhb3 := Lib.hid hb3
        clear hb3
        refine tF 3 [.val 2 (some 11) (.bool false)] trivial ?_
        refine dF ?_
        try simp only [puts, Tk.put, Act.put, List.setIfInBounds_toArray, List.set_cons_zero, List.set_cons_succ]
        go_upto_region 6 with fail
        refine wp_region_fromM (fun W => Sep w [] [.blk N23 49 (nbc (nb N2 2 2 32768)), .blk N2 24 (spc x)] W) hM ?_
        clear hM
        rintro Y28 hM
        refine tF 2 [.val 0 (some 12) (.int .i64 3), .val 1 (some 6) (.int .i64 3)] trivial ?_
        refine dF ?_
        try simp only [puts, Tk.put, Act.put, List.setIfInBounds_toArray, List.set_cons_zero, List.set_cons_succ]
        have hM1 : Sep w [] [.blk N2 24 (spc x)] Y28 := hM.pick [1] (by decide) rfl
        clear hM
        go_wp2_with fail
        go_roundw
        case rel => exact ⟨3, .inr (.inr (.inr (.inl rfl))), rfl, (show fitU (plP x) 3 = true from by unfold fitU; rw [HF.out]; exact Hhb3.out), hM1⟩
        case measure => simp [intOf]
    case inr.inr.inr.inl =>
      replace hi : _ = Value.int .i64 3 := hi
      subst hi
      have HF := Lib.hid hf
      clear hf
      go_upto_region 2 with fail
      refine wp_region_fromM (fun W => Sep w [] [.blk N2 24 (spc x)] W) hM ?_
      clear hM
      rintro Y29 hM
      refine tF 1 [.val 0 (some 7) (.bool true)] trivial ?_
      refine dF ?_
      try simp only [puts, Tk.put, Act.put, List.setIfInBounds_toArray, List.set_cons_zero, List.set_cons_succ]
      go_upto_region 3 with fail
      refine wp_region_fromM (fun W => Sep w [] [.blk N2 24 (spc x)] W) hM ?_
      clear hM
      rintro Y30 hM
      refine tF 1 [.val 0 (some 8) (nbv (nb N2 3 2 32768))] trivial ?_
      refine rF (some 4) (pt Y30.heap.size 0) (Y30.alloc (.cells (nbc noNb).toArray 49)) ?_
      replace hM := hM.alloc 49 (nbc noNb)
      generalize World.alloc _ _ = Y31 at *
      generalize hNe : Y30.heap.size = N31 at *
      clear hNe
      have hst := sto_part (nbc (nb N2 3 2 32768)) (hM.at 0 rfl) 0 49 (nbv (nb N2 3 2 32768)) (nbc (nb N2 3 2 32768)) rfl (by kernel_rfl) (Nat.le_of_ble_eq_true rfl) rfl rfl
      refine sF 49 (pt N31 0) (nbv (nb N2 3 2 32768)) (hst) ?_
      clear hst
      replace hM := hM.set 0 (cs' := nbc (nb N2 3 2 32768)) rfl rfl
      generalize World.setRow _ _ _ = Y32 at *
      refine dF ?_
      try simp only [puts, Tk.put, Act.put, List.setIfInBounds_toArray, List.set_cons_zero, List.set_cons_succ]
      go_upto_region 4 with fail
      refine wp_region_fromM (fun W => Sep w [] [.blk N31 49 (nbc (nb N2 3 2 32768)), .blk N2 24 (spc x)] W) hM ?_
      clear hM
      rintro Y33 hM
      refine tF 1 [.load 0 (some 9) 49 (pt N31 0) (nbv (nb N2 3 2 32768))] ⟨load_part (hM.at 0 rfl) 0 (nbc (nb N2 3 2 32768)) rfl _ _ Tryz.underlying49 rfl (by kernel_rfl), trivial⟩ ?_
      refine cF (some 10) 44 #[nbv (nb N2 3 2 32768)] ((fits_3 _ (hM.at 1 rfl) rfl).mono ?_)
      rintro e Y34 ⟨rfl, hb⟩
      replace hM := hM.below hb
      clear hb
      cases hb4 : fitZ 3 x.xc with
      | false =>
        have Hhb4 := Lib.hid hb4
        clear hb4
        refine tF 3 [.val 2 (some 11) (.bool true)] trivial ?_
        refine dF ?_
        try simp only [puts, Tk.put, Act.put, List.setIfInBounds_toArray, List.set_cons_zero, List.set_cons_succ]
        go_upto_region 5 with fail
        refine wp_region_fromM (fun W => Sep w [] [.blk N31 49 (nbc (nb N2 3 2 32768)), .blk N2 24 (spc x)] W) hM ?_
        clear hM
        rintro Y35 hM
        refine tF 1 [.val 0 (some 2) (.bool false)] trivial ?_
        refine dF ?_
        try simp only [puts, Tk.put, Act.put, List.setIfInBounds_toArray, List.set_cons_zero, List.set_cons_succ]
        go_wp2_with fail
        go_ret
        exact ⟨by rw [show fitP (plP x) = false from fit_not 3 (by decide) Hhb4.out]; rfl, hM.b⟩
      | true =>
        have Hhb4 := Lib.hid hb4
        clear hb4
        refine tF 3 [.val 2 (some 11) (.bool false)] trivial ?_
        refine dF ?_
        try simp only [puts, Tk.put, Act.put, List.setIfInBounds_toArray, List.set_cons_zero, List.set_cons_succ]
        go_upto_region 6 with fail
        refine wp_region_fromM (fun W => Sep w [] [.blk N31 49 (nbc (nb N2 3 2 32768)), .blk N2 24 (spc x)] W) hM ?_
        clear hM
        rintro Y36 hM
        refine tF 2 [.val 0 (some 12) (.int .i64 4), .val 1 (some 6) (.int .i64 4)] trivial ?_
        refine dF ?_
        try simp only [puts, Tk.put, Act.put, List.setIfInBounds_toArray, List.set_cons_zero, List.set_cons_succ]
        have hM1 : Sep w [] [.blk N2 24 (spc x)] Y36 := hM.pick [1] (by decide) rfl
        clear hM
        go_wp2_with fail
        go_roundw
        case rel => exact ⟨4, .inr (.inr (.inr (.inr (rfl)))), rfl, (show fitU (plP x) 4 = true from by unfold fitU; rw [HF.out]; exact Hhb4.out), hM1⟩
        case measure => simp [intOf]
    case inr.inr.inr.inr =>
      replace hi : _ = Value.int .i64 4 := hi
      subst hi
      have HF := Lib.hid hf
      clear hf
      go_upto_region 2 with fail
      refine wp_region_fromM (fun W => Sep w [] [.blk N2 24 (spc x)] W) hM ?_
      clear hM
      rintro Y37 hM
      refine tF 1 [.val 0 (some 7) (.bool false)] trivial ?_
      refine dF ?_
      try simp only [puts, Tk.put, Act.put, List.setIfInBounds_toArray, List.set_cons_zero, List.set_cons_succ]
      go_upto_region 7 with fail
      refine wp_region_fromM (fun W => Sep w [] [.blk N2 24 (spc x)] W) hM ?_
      clear hM
      rintro Y38 hM
      refine tF 1 [.val 0 (some 2) (.bool true)] trivial ?_
      refine dF ?_
      try simp only [puts, Tk.put, Act.put, List.setIfInBounds_toArray, List.set_cons_zero, List.set_cons_succ]
      go_wp2_with fail
      go_ret
      exact ⟨by rw [show fitP (plP x) = true from HF.out]; rfl, hM.b⟩
set_option maxRecDepth 100000 in
set_option maxHeartbeats 4000000 in
theorem chk1_any (x : Sp) (w : World) : Calls Tryz.prog 14 #[spv x] w fun e W' => e = .returned (.bool (!fitP (plP x))) ∧ Below w.heap.size w W' := by
  have hmx : Tryz.prog.follows .mixedOrders = true := by kernel_rfl
  have hM := Sep.start w
  go_enter Tryz.func14, Tryz.ntmps14
  go_upto_region 0 with fail
  refine wp_region_fromM (fun W => Sep w [] [] W) hM ?_
  clear hM
  rintro Y1 hM
  refine rF (some 1) (pt Y1.heap.size 0) (Y1.alloc (.cells (spc x).toArray 24)) ?_
  replace hM := hM.alloc 24 (spc x)
  generalize World.alloc _ _ = Y2 at *
  generalize hNe : Y1.heap.size = N2 at *
  clear hNe
  refine tF 2 [.val 1 (some 2) (.bool false)] trivial ?_
  refine dF ?_
  try simp only [puts, Tk.put, Act.put, List.setIfInBounds_toArray, List.set_cons_zero, List.set_cons_succ]
  go_upto_region 1 with fail
  refine wp_region_fromM (fun W => Sep w [] [.blk N2 24 (spc x)] W) hM ?_
  clear hM
  rintro Y3 hM
  refine tF 1 [.load 0 (some 3) 24 (pt N2 0) (spv x)] ⟨load_part (hM.at 0 rfl) 0 (spc x) rfl _ _ Tryz.underlying24 rfl (by kernel_rfl), trivial⟩ ?_
  refine cF (some 4) 15 #[spv x] ((allFit_any x _).mono ?_)
  rintro e Y4 ⟨rfl, hb⟩
  replace hM := hM.below hb
  clear hb
  cases hb1 : fitP (plP x) with
  | false =>
    have Hhb1 := Lib.hid hb1
    clear hb1
    refine tF 4 [.val 2 (some 5) (.bool true), .val 3 (some 2) (.bool true)] trivial ?_
    refine dF ?_
    try simp only [puts, Tk.put, Act.put, List.setIfInBounds_toArray, List.set_cons_zero, List.set_cons_succ]
    go_wp2_with fail
    go_ret
    exact ⟨by rw [Hhb1.out]; rfl, hM.b⟩
  | true =>
    have Hhb1 := Lib.hid hb1
    clear hb1
    refine tF 4 [.val 2 (some 5) (.bool false), .val 3 (some 2) (.bool false)] trivial ?_
    refine dF ?_
    try simp only [puts, Tk.put, Act.put, List.setIfInBounds_toArray, List.set_cons_zero, List.set_cons_succ]
    go_wp2_with fail
    go_ret
    exact ⟨by rw [Hhb1.out]; rfl, hM.b⟩
theorem long_eq (x : Sp) : decide ((1024 : Int) < (x.l.length : Int)) = longP (plP x) := by
  unfold longP
  exact decide_eq_decide.2 (by simp only [plP]; omega)
set_option maxRecDepth 100000 in
set_option maxHeartbeats 4000000 in
theorem chk2_any (x : Sp) (w : World) : Calls Tryz.prog 16 #[spv x] w fun e W' => e = .returned (.bool (longP (plP x))) ∧ Below w.heap.size w W' := by
  have hmx : Tryz.prog.follows .mixedOrders = true := by kernel_rfl
  have hM := Sep.start w
  go_enter Tryz.func16, Tryz.ntmps16
  go_upto_region 0 with fail
  refine wp_region_fromM (fun W => Sep w [] [] W) hM ?_
  clear hM
  rintro Y1 hM
  refine rF (some 1) (pt Y1.heap.size 0) (Y1.alloc (.cells (spc x).toArray 24)) ?_
  replace hM := hM.alloc 24 (spc x)
  generalize World.alloc _ _ = Y2 at *
  generalize hNe : Y1.heap.size = N2 at *
  clear hNe
  refine tF 2 [.val 1 (some 2) (.bool false)] trivial ?_
  refine dF ?_
  try simp only [puts, Tk.put, Act.put, List.setIfInBounds_toArray, List.set_cons_zero, List.set_cons_succ]
  go_upto_region 1 with fail
  refine wp_region_fromM (fun W => Sep w [] [.blk N2 24 (spc x)] W) hM ?_
  clear hM
  rintro Y3 hM
  refine tF 5 [.val 0 (some 3) (pt N2 4), .load 1 (some 4) 22 (pt N2 4) (.slice x.ad x.l.length x.cp), .val 2 (some 5) (.int .i64 (x.l.length : Int)), .val 3 (some 6) (.bool (decide (1024 < (x.l.length : Int)))), .val 4 (some 2) (.bool (decide (1024 < (x.l.length : Int))))] ⟨ld_any _ _ Tryz.underlying22 rfl (hM.at 0 rfl) 4 rfl, trivial⟩ ?_
  refine dF ?_
  try simp only [puts, Tk.put, Act.put, List.setIfInBounds_toArray, List.set_cons_zero, List.set_cons_succ]
  go_wp2_with fail
  go_ret
  exact ⟨congrArg (fun z => Ending.returned (.bool z)) (long_eq x), hM.b⟩
theorem idxG_any {α : Type} (p : α → Bool) (l : List α) : decide ((0 : Int) ≤ idxG p l) = l.any p := by
  cases h : l.any p with
  | false =>
    rw [idxG_not (by rw [List.take_length]; exact h)]
    rfl
  | true =>
    refine decide_eq_true ?_
    unfold idxG
    cases hf : l.findIdx? p with
    | some i => exact Int.natCast_nonneg i
    | none =>
      obtain ⟨x, hx, hp⟩ := List.any_eq_true.1 h
      have := List.findIdx?_eq_none_iff.1 hf x hx
      rw [hp] at this
      cases this
theorem any_plP (p : Stp → Bool) (l : List Sp) : l.any (fun x => p (plP x)) = (l.map plP).any p := by
  rw [List.any_map]
  rfl
set_option maxRecDepth 100000 in
set_option maxHeartbeats 4000000 in
theorem chk1_idx (l : List Sp) (v : Value) (w : World) {lo hi : Nat} (hl : RSl spc lo hi w v l) (hhi : hi ≤ w.heap.size) : Calls Tryz.prog 43 #[v, .func (.func 14) #[] #[]] w fun e W' => e = .returned (.int .i64 (idxG (fun x => !fitP (plP x)) l)) ∧ Below w.heap.size w W' := by
  have hmx : Tryz.prog.follows .mixedOrders = true := by kernel_rfl
  have HEl := Lib.hid (fun k x (hx : l[k]? = some x) => hl.elem spc_len hx Tryz.underlying30 (fun W => by kernel_rfl))
  obtain ⟨pl, cl, rfl⟩ := hl.slice
  have HLl := Lib.hid hl
  have HHl := Lib.hid hhi
  have HLENl := Lib.hid (show l.length ≤ 9223372036854775807 from by have h := hl.len; unfold maxLen at h; omega)
  clear hl hhi
  have hM := Sep.start w
  go_enter Tryz.func43, Tryz.ntmps43
  go_upto_region 0 with fail
  refine wp_region_fromM (fun W => Sep w [] [] W) hM ?_
  clear hM
  rintro Y1 hM
  refine tF 1 [.val 0 (some 4) (.int .i64 0)] trivial ?_
  refine dF ?_
  try simp only [puts, Tk.put, Act.put, List.setIfInBounds_toArray, List.set_cons_zero, List.set_cons_succ]
  go_upto_region 1 with fail
  refine wp_region_fromM (fun W => Sep w [] [] W) hM ?_
  clear hM
  rintro Y2 hM
  refine tF 3 [.val 0 (some 6) (.slice pl l.length cl), .val 1 (some 7) (.int .i64 (l.length : Int)), .val 2 (some 8) (.int .i64 0)] trivial ?_
  refine dF ?_
  try simp only [puts, Tk.put, Act.put, List.setIfInBounds_toArray, List.set_cons_zero, List.set_cons_succ]
  go_wp2_with fail
  go_loopw [5, 8] (fun _ i wr => ∃ j : Nat, j ≤ l.length ∧ i = .int .i64 (j : Int) ∧ (l.take j).any (fun x => !fitP (plP x)) = false ∧ Sep w [] [] wr) (fun _ i _ => l.length - (intOf i).toNat)
  case atStart => exact ⟨0, Nat.zero_le _, rfl, rfl, hM⟩
  clear hM
  case round =>
    obtain ⟨j, hj, rfl, hno, hM⟩ := hrel
    have HN := Lib.hid hno
    clear hno
    by_cases hlt : j < l.length
    case pos =>
      obtain ⟨x, hx⟩ : ∃ x, l[j]? = some x := ⟨_, List.getElem?_eq_getElem hlt⟩
      obtain ⟨bl, ol, _, _, hit, hct⟩ := HEl.out j x hx
      have HXl := Lib.hid hx
      have HIl := Lib.hid hit
      have HCl := Lib.hid hct
      clear hx hit hct
      have HJ := Lib.hid hlt
      have hlt' : (j : Int) < (l.length : Int) := by omega
      clear hlt
      go_upto_region 2 with fail
      refine wp_region_fromM (fun W => Sep w [] [] W) hM ?_
      clear hM
      rintro Y3 hM
      refine tF 1 [.alt 0 (some 9) (.bool (decide ((j : Int) < (l.length : Int)))) (.bool true)] ⟨congrArg Value.bool (decide_eq_true hlt'), trivial⟩ ?_
      refine dF ?_
      try simp only [puts, Tk.put, Act.put, List.setIfInBounds_toArray, List.set_cons_zero, List.set_cons_succ]
      go_upto_region 3 with fail
      refine wp_region_fromM (fun W => Sep w [] [] W) hM ?_
      clear hM
      rintro Y4 hM
      refine tF 2 [.val 0 (some 10) (.int .i64 (j : Int)), .val 1 (some 5) (.int .i64 (j : Int))] trivial ?_
      refine dF ?_
      try simp only [puts, Tk.put, Act.put, List.setIfInBounds_toArray, List.set_cons_zero, List.set_cons_succ]
      go_upto_region 4 with fail
      refine wp_region_fromM (fun W => Sep w [] [] W) hM ?_
      clear hM
      rintro Y5 hM
      refine tF 5 [.val 0 (some 11) (.func (.func 14) #[] #[]), .val 1 (some 12) (.slice pl l.length cl), .val 2 (some 13) (.int .i64 (j : Int)), .idx 3 (some 14) 30 (.slice pl l.length cl) (.int .i64 (j : Int)) (pt bl ol), .load 4 (some 15) 24 (pt bl ol) (spv x)] ⟨HIl.out _, ld_cells (spc x) _ _ Tryz.underlying24 rfl (by kernel_rfl) (HCl.out _ (HLl.out.below hM.b HHl.out)), trivial⟩ ?_
      refine cF (some 16) 14 #[spv x] ((chk1_any x _).mono ?_)
      rintro e Y6 ⟨rfl, hb⟩
      replace hM := hM.below hb
      clear hb
      refine dF ?_
      try simp only [puts, Tk.put, Act.put, List.setIfInBounds_toArray, List.set_cons_zero, List.set_cons_succ]
      cases hb1 : !fitP (plP x) with
      | false =>
        have Hhb1 := Lib.hid hb1
        clear hb1
        go_upto_region 6 with fail
        refine wp_region_fromM (fun W => Sep w [] [] W) hM ?_
        clear hM
        rintro Y7 hM
        refine tF 2 [.alt 0 (some 18) (.int .i64 (IntKind.i64.wrap ((j : Int) + 1))) (.int .i64 ((j + 1 : Nat) : Int)), .val 1 (some 8) (.int .i64 ((j + 1 : Nat) : Int))] ⟨congrArg (Value.int .i64) ((IntWalk.i64_in _ (by have := HLENl.out; have := HJ.out; omega)).trans (by omega)), trivial⟩ ?_
        refine dF ?_
        try simp only [puts, Tk.put, Act.put, List.setIfInBounds_toArray, List.set_cons_zero, List.set_cons_succ]
        go_wp2_with fail
        go_roundw
        case rel => exact ⟨j + 1, HJ.out, rfl, by rw [take_anyG HXl.out, HN.out]; exact Hhb1.out, hM⟩
        case measure => have := HJ.out; simp [intOf]; omega
      | true =>
        have Hhb1 := Lib.hid hb1
        clear hb1
        go_upto_region 5 with fail
        refine wp_region_fromM (fun W => Sep w [] [] W) hM ?_
        clear hM
        rintro Y8 hM
        refine tF 2 [.val 0 (some 17) (.int .i64 (j : Int)), .val 1 (some 4) (.int .i64 (j : Int))] trivial ?_
        refine dF ?_
        try simp only [puts, Tk.put, Act.put, List.setIfInBounds_toArray, List.set_cons_zero, List.set_cons_succ]
        go_wp2_with fail
        go_ret
        exact ⟨by rw [idxG_at (p := (fun x => !fitP (plP x))) HXl.out Hhb1.out HN.out]; rfl, hM.b⟩
    case neg =>
      obtain rfl : j = l.length := by omega
      go_upto_region 2 with fail
      refine wp_region_fromM (fun W => Sep w [] [] W) hM ?_
      clear hM
      rintro Y9 hM
      refine tF 1 [.alt 0 (some 9) (.bool (decide ((l.length : Int) < (l.length : Int)))) (.bool false)] ⟨congrArg Value.bool (decide_eq_false (by omega)), trivial⟩ ?_
      refine dF ?_
      try simp only [puts, Tk.put, Act.put, List.setIfInBounds_toArray, List.set_cons_zero, List.set_cons_succ]
      go_upto_region 7 with fail
      refine wp_region_fromM (fun W => Sep w [] [] W) hM ?_
      clear hM
      rintro Y10 hM
      refine tF 1 [.val 0 (some 4) (.int .i64 (-1))] trivial ?_
      refine dF ?_
      try simp only [puts, Tk.put, Act.put, List.setIfInBounds_toArray, List.set_cons_zero, List.set_cons_succ]
      go_wp2_with fail
      go_ret
      exact ⟨by rw [idxG_not HN.out]; rfl, hM.b⟩
set_option maxRecDepth 100000 in
set_option maxHeartbeats 4000000 in
theorem chk1_con (l : List Sp) (v : Value) (w : World) {lo hi : Nat} (hl : RSl spc lo hi w v l) (hhi : hi ≤ w.heap.size) : Calls Tryz.prog 13 #[v, .func (.func 14) #[] #[]] w fun e W' => e = .returned (.bool (l.any (fun x => !fitP (plP x)))) ∧ Below w.heap.size w W' := by
  have hmx : Tryz.prog.follows .mixedOrders = true := by kernel_rfl
  have HEl := Lib.hid (fun k x (hx : l[k]? = some x) => hl.elem spc_len hx Tryz.underlying30 (fun W => by kernel_rfl))
  obtain ⟨pl, cl, rfl⟩ := hl.slice
  have HLl := Lib.hid hl
  have HHl := Lib.hid hhi
  have HLENl := Lib.hid (show l.length ≤ 9223372036854775807 from by have h := hl.len; unfold maxLen at h; omega)
  clear hl hhi
  have hM := Sep.start w
  go_enter Tryz.func13, Tryz.ntmps13
  go_upto_region 0 with fail
  refine wp_region_fromM (fun W => Sep w [] [] W) hM ?_
  clear hM
  rintro Y1 hM
  refine tF 1 [.val 0 (some 4) (.bool false)] trivial ?_
  refine dF ?_
  try simp only [puts, Tk.put, Act.put, List.setIfInBounds_toArray, List.set_cons_zero, List.set_cons_succ]
  go_upto_region 1 with fail
  refine wp_region_fromM (fun W => Sep w [] [] W) hM ?_
  clear hM
  rintro Y2 hM
  refine tF 2 [.val 0 (some 5) (.slice pl l.length cl), .val 1 (some 6) (.func (.func 14) #[] #[])] trivial ?_
  refine cF (some 7) 43 #[.slice pl l.length cl, .func (.func 14) #[] #[]] ((chk1_idx l _ _ (HLl.out.below hM.b HHl.out) (Nat.le_trans HHl.out hM.size)).mono ?_)
  rintro e Y3 ⟨rfl, hb⟩
  replace hM := hM.below hb
  clear hb
  refine tF 5 [.alt 3 (some 8) (.bool (decide (0 ≤ (idxG (fun x => !fitP (plP x)) l)))) (.bool (l.any (fun x => !fitP (plP x)))), .val 4 (some 4) (.bool (l.any (fun x => !fitP (plP x))))] ⟨congrArg Value.bool (idxG_any (fun x => !fitP (plP x)) l), trivial⟩ ?_
  refine dF ?_
  try simp only [puts, Tk.put, Act.put, List.setIfInBounds_toArray, List.set_cons_zero, List.set_cons_succ]
  go_wp2_with fail
  go_ret
  exact ⟨rfl, hM.b⟩
set_option maxRecDepth 100000 in
set_option maxHeartbeats 4000000 in
theorem chk2_idx (l : List Sp) (v : Value) (w : World) {lo hi : Nat} (hl : RSl spc lo hi w v l) (hhi : hi ≤ w.heap.size) : Calls Tryz.prog 43 #[v, .func (.func 16) #[] #[]] w fun e W' => e = .returned (.int .i64 (idxG (fun x => longP (plP x)) l)) ∧ Below w.heap.size w W' := by
  have hmx : Tryz.prog.follows .mixedOrders = true := by kernel_rfl
  have HEl := Lib.hid (fun k x (hx : l[k]? = some x) => hl.elem spc_len hx Tryz.underlying30 (fun W => by kernel_rfl))
  obtain ⟨pl, cl, rfl⟩ := hl.slice
  have HLl := Lib.hid hl
  have HHl := Lib.hid hhi
  have HLENl := Lib.hid (show l.length ≤ 9223372036854775807 from by have h := hl.len; unfold maxLen at h; omega)
  clear hl hhi
  have hM := Sep.start w
  go_enter Tryz.func43, Tryz.ntmps43
  go_upto_region 0 with fail
  refine wp_region_fromM (fun W => Sep w [] [] W) hM ?_
  clear hM
  rintro Y1 hM
  refine tF 1 [.val 0 (some 4) (.int .i64 0)] trivial ?_
  refine dF ?_
  try simp only [puts, Tk.put, Act.put, List.setIfInBounds_toArray, List.set_cons_zero, List.set_cons_succ]
  go_upto_region 1 with fail
  refine wp_region_fromM (fun W => Sep w [] [] W) hM ?_
  clear hM
  rintro Y2 hM
  refine tF 3 [.val 0 (some 6) (.slice pl l.length cl), .val 1 (some 7) (.int .i64 (l.length : Int)), .val 2 (some 8) (.int .i64 0)] trivial ?_
  refine dF ?_
  try simp only [puts, Tk.put, Act.put, List.setIfInBounds_toArray, List.set_cons_zero, List.set_cons_succ]
  go_wp2_with fail
  go_loopw [5, 8] (fun _ i wr => ∃ j : Nat, j ≤ l.length ∧ i = .int .i64 (j : Int) ∧ (l.take j).any (fun x => longP (plP x)) = false ∧ Sep w [] [] wr) (fun _ i _ => l.length - (intOf i).toNat)
  case atStart => exact ⟨0, Nat.zero_le _, rfl, rfl, hM⟩
  clear hM
  case round =>
    obtain ⟨j, hj, rfl, hno, hM⟩ := hrel
    have HN := Lib.hid hno
    clear hno
    by_cases hlt : j < l.length
    case pos =>
      obtain ⟨x, hx⟩ : ∃ x, l[j]? = some x := ⟨_, List.getElem?_eq_getElem hlt⟩
      obtain ⟨bl, ol, _, _, hit, hct⟩ := HEl.out j x hx
      have HXl := Lib.hid hx
      have HIl := Lib.hid hit
      have HCl := Lib.hid hct
      clear hx hit hct
      have HJ := Lib.hid hlt
      have hlt' : (j : Int) < (l.length : Int) := by omega
      clear hlt
      go_upto_region 2 with fail
      refine wp_region_fromM (fun W => Sep w [] [] W) hM ?_
      clear hM
      rintro Y3 hM
      refine tF 1 [.alt 0 (some 9) (.bool (decide ((j : Int) < (l.length : Int)))) (.bool true)] ⟨congrArg Value.bool (decide_eq_true hlt'), trivial⟩ ?_
      refine dF ?_
      try simp only [puts, Tk.put, Act.put, List.setIfInBounds_toArray, List.set_cons_zero, List.set_cons_succ]
      go_upto_region 3 with fail
      refine wp_region_fromM (fun W => Sep w [] [] W) hM ?_
      clear hM
      rintro Y4 hM
      refine tF 2 [.val 0 (some 10) (.int .i64 (j : Int)), .val 1 (some 5) (.int .i64 (j : Int))] trivial ?_
      refine dF ?_
      try simp only [puts, Tk.put, Act.put, List.setIfInBounds_toArray, List.set_cons_zero, List.set_cons_succ]
      go_upto_region 4 with fail
      refine wp_region_fromM (fun W => Sep w [] [] W) hM ?_
      clear hM
      rintro Y5 hM
      refine tF 5 [.val 0 (some 11) (.func (.func 16) #[] #[]), .val 1 (some 12) (.slice pl l.length cl), .val 2 (some 13) (.int .i64 (j : Int)), .idx 3 (some 14) 30 (.slice pl l.length cl) (.int .i64 (j : Int)) (pt bl ol), .load 4 (some 15) 24 (pt bl ol) (spv x)] ⟨HIl.out _, ld_cells (spc x) _ _ Tryz.underlying24 rfl (by kernel_rfl) (HCl.out _ (HLl.out.below hM.b HHl.out)), trivial⟩ ?_
      refine cF (some 16) 16 #[spv x] ((chk2_any x _).mono ?_)
      rintro e Y6 ⟨rfl, hb⟩
      replace hM := hM.below hb
      clear hb
      refine dF ?_
      try simp only [puts, Tk.put, Act.put, List.setIfInBounds_toArray, List.set_cons_zero, List.set_cons_succ]
      cases hb1 : longP (plP x) with
      | false =>
        have Hhb1 := Lib.hid hb1
        clear hb1
        go_upto_region 6 with fail
        refine wp_region_fromM (fun W => Sep w [] [] W) hM ?_
        clear hM
        rintro Y7 hM
        refine tF 2 [.alt 0 (some 18) (.int .i64 (IntKind.i64.wrap ((j : Int) + 1))) (.int .i64 ((j + 1 : Nat) : Int)), .val 1 (some 8) (.int .i64 ((j + 1 : Nat) : Int))] ⟨congrArg (Value.int .i64) ((IntWalk.i64_in _ (by have := HLENl.out; have := HJ.out; omega)).trans (by omega)), trivial⟩ ?_
        refine dF ?_
        try simp only [puts, Tk.put, Act.put, List.setIfInBounds_toArray, List.set_cons_zero, List.set_cons_succ]
        go_wp2_with fail
        go_roundw
        case rel => exact ⟨j + 1, HJ.out, rfl, by rw [take_anyG HXl.out, HN.out]; exact Hhb1.out, hM⟩
        case measure => have := HJ.out; simp [intOf]; omega
      | true =>
        have Hhb1 := Lib.hid hb1
        clear hb1
        go_upto_region 5 with fail
        refine wp_region_fromM (fun W => Sep w [] [] W) hM ?_
        clear hM
        rintro Y8 hM
        refine tF 2 [.val 0 (some 17) (.int .i64 (j : Int)), .val 1 (some 4) (.int .i64 (j : Int))] trivial ?_
        refine dF ?_
        try simp only [puts, Tk.put, Act.put, List.setIfInBounds_toArray, List.set_cons_zero, List.set_cons_succ]
        go_wp2_with fail
        go_ret
        exact ⟨by rw [idxG_at (p := (fun x => longP (plP x))) HXl.out Hhb1.out HN.out]; rfl, hM.b⟩
    case neg =>
      obtain rfl : j = l.length := by omega
      go_upto_region 2 with fail
      refine wp_region_fromM (fun W => Sep w [] [] W) hM ?_
      clear hM
      rintro Y9 hM
      refine tF 1 [.alt 0 (some 9) (.bool (decide ((l.length : Int) < (l.length : Int)))) (.bool false)] ⟨congrArg Value.bool (decide_eq_false (by omega)), trivial⟩ ?_
      refine dF ?_
      try simp only [puts, Tk.put, Act.put, List.setIfInBounds_toArray, List.set_cons_zero, List.set_cons_succ]
      go_upto_region 7 with fail
      refine wp_region_fromM (fun W => Sep w [] [] W) hM ?_
      clear hM
      rintro Y10 hM
      refine tF 1 [.val 0 (some 4) (.int .i64 (-1))] trivial ?_
      refine dF ?_
      try simp only [puts, Tk.put, Act.put, List.setIfInBounds_toArray, List.set_cons_zero, List.set_cons_succ]
      go_wp2_with fail
      go_ret
      exact ⟨by rw [idxG_not HN.out]; rfl, hM.b⟩
set_option maxRecDepth 100000 in
set_option maxHeartbeats 4000000 in
theorem chk2_con (l : List Sp) (v : Value) (w : World) {lo hi : Nat} (hl : RSl spc lo hi w v l) (hhi : hi ≤ w.heap.size) : Calls Tryz.prog 13 #[v, .func (.func 16) #[] #[]] w fun e W' => e = .returned (.bool (l.any (fun x => longP (plP x)))) ∧ Below w.heap.size w W' := by
  have hmx : Tryz.prog.follows .mixedOrders = true := by kernel_rfl
  have HEl := Lib.hid (fun k x (hx : l[k]? = some x) => hl.elem spc_len hx Tryz.underlying30 (fun W => by kernel_rfl))
  obtain ⟨pl, cl, rfl⟩ := hl.slice
  have HLl := Lib.hid hl
  have HHl := Lib.hid hhi
  have HLENl := Lib.hid (show l.length ≤ 9223372036854775807 from by have h := hl.len; unfold maxLen at h; omega)
  clear hl hhi
  have hM := Sep.start w
  go_enter Tryz.func13, Tryz.ntmps13
  go_upto_region 0 with fail
  refine wp_region_fromM (fun W => Sep w [] [] W) hM ?_
  clear hM
  rintro Y1 hM
  refine tF 1 [.val 0 (some 4) (.bool false)] trivial ?_
  refine dF ?_
  try simp only [puts, Tk.put, Act.put, List.setIfInBounds_toArray, List.set_cons_zero, List.set_cons_succ]
  go_upto_region 1 with fail
  refine wp_region_fromM (fun W => Sep w [] [] W) hM ?_
  clear hM
  rintro Y2 hM
  refine tF 2 [.val 0 (some 5) (.slice pl l.length cl), .val 1 (some 6) (.func (.func 16) #[] #[])] trivial ?_
  refine cF (some 7) 43 #[.slice pl l.length cl, .func (.func 16) #[] #[]] ((chk2_idx l _ _ (HLl.out.below hM.b HHl.out) (Nat.le_trans HHl.out hM.size)).mono ?_)
  rintro e Y3 ⟨rfl, hb⟩
  replace hM := hM.below hb
  clear hb
  refine tF 5 [.alt 3 (some 8) (.bool (decide (0 ≤ (idxG (fun x => longP (plP x)) l)))) (.bool (l.any (fun x => longP (plP x)))), .val 4 (some 4) (.bool (l.any (fun x => longP (plP x))))] ⟨congrArg Value.bool (idxG_any (fun x => longP (plP x)) l), trivial⟩ ?_
  refine dF ?_
  try simp only [puts, Tk.put, Act.put, List.setIfInBounds_toArray, List.set_cons_zero, List.set_cons_succ]
  go_wp2_with fail
  go_ret
  exact ⟨rfl, hM.b⟩
set_option maxRecDepth 100000 in
set_option maxHeartbeats 4000000 in
theorem checkP_any (l : List Sp) (v : Value) (w : World) {lo hi : Nat} (hl : RSl spc lo hi w v l) (hhi : hi ≤ w.heap.size) : Calls Tryz.prog 8 #[v] w fun e W' => e = .returned (.int .i64 (chkP (l.map plP))) ∧ Below w.heap.size w W' := by
  have hmx : Tryz.prog.follows .mixedOrders = true := by kernel_rfl
  have HEl := Lib.hid (fun k x (hx : l[k]? = some x) => hl.elem spc_len hx Tryz.underlying30 (fun W => by kernel_rfl))
  obtain ⟨pl, cl, rfl⟩ := hl.slice
  have HLl := Lib.hid hl
  have HHl := Lib.hid hhi
  have HLENl := Lib.hid (show l.length ≤ 9223372036854775807 from by have h := hl.len; unfold maxLen at h; omega)
  clear hl hhi
  have hM := Sep.start w
  go_enter Tryz.func8, Tryz.ntmps8
  go_upto_region 0 with fail
  refine wp_region_fromM (fun W => Sep w [] [] W) hM ?_
  clear hM
  rintro Y1 hM
  refine tF 1 [.val 0 (some 2) (.int .i64 0)] trivial ?_
  refine dF ?_
  try simp only [puts, Tk.put, Act.put, List.setIfInBounds_toArray, List.set_cons_zero, List.set_cons_succ]
  go_upto_region 1 with fail
  refine wp_region_fromM (fun W => Sep w [] [] W) hM ?_
  clear hM
  rintro Y2 hM
  refine tF 4 [.val 0 (some 4) (.slice pl l.length cl), .val 1 (some 5) (.int .i64 (l.length : Int)), .val 2 (some 6) (.bool (decide (512 < (l.length : Int)))), .val 3 (some 3) (.bool (decide (512 < (l.length : Int))))] trivial ?_
  refine dF ?_
  try simp only [puts, Tk.put, Act.put, List.setIfInBounds_toArray, List.set_cons_zero, List.set_cons_succ]
  cases hb1 : decide (512 < (l.length : Int)) with
  | false =>
    have Hhb1 := Lib.hid hb1
    clear hb1
    go_upto_region 3 with fail
    refine wp_region_fromM (fun W => Sep w [] [] W) hM ?_
    clear hM
    rintro Y3 hM
    refine tF 1 [.val 0 (some 8) (.slice pl l.length cl)] trivial ?_
    refine cF (some 9) 13 #[.slice pl l.length cl, .func (.func 14) #[] #[]] ((chk1_con l _ _ (HLl.out.below hM.b HHl.out) (Nat.le_trans HHl.out hM.size)).mono ?_)
    rintro e Y4 ⟨rfl, hb⟩
    replace hM := hM.below hb
    clear hb
    refine tF 3 [.val 2 (some 7) (.bool (l.any (fun x => !fitP (plP x))))] trivial ?_
    refine dF ?_
    try simp only [puts, Tk.put, Act.put, List.setIfInBounds_toArray, List.set_cons_zero, List.set_cons_succ]
    cases hb2 : l.any (fun x => !fitP (plP x)) with
    | false =>
      have Hhb2 := Lib.hid hb2
      clear hb2
      go_upto_region 5 with fail
      refine wp_region_fromM (fun W => Sep w [] [] W) hM ?_
      clear hM
      rintro Y5 hM
      refine tF 1 [.val 0 (some 11) (.slice pl l.length cl)] trivial ?_
      refine cF (some 12) 13 #[.slice pl l.length cl, .func (.func 16) #[] #[]] ((chk2_con l _ _ (HLl.out.below hM.b HHl.out) (Nat.le_trans HHl.out hM.size)).mono ?_)
      rintro e Y6 ⟨rfl, hb⟩
      replace hM := hM.below hb
      clear hb
      refine tF 3 [.val 2 (some 10) (.bool (l.any (fun x => longP (plP x))))] trivial ?_
      refine dF ?_
      try simp only [puts, Tk.put, Act.put, List.setIfInBounds_toArray, List.set_cons_zero, List.set_cons_succ]
      cases hb3 : l.any (fun x => longP (plP x)) with
      | false =>
        have Hhb3 := Lib.hid hb3
        clear hb3
        go_upto_region 7 with fail
        refine wp_region_fromM (fun W => Sep w [] [] W) hM ?_
        clear hM
        rintro Y7 hM
        refine tF 1 [.val 0 (some 2) (.int .i64 0)] trivial ?_
        refine dF ?_
        try simp only [puts, Tk.put, Act.put, List.setIfInBounds_toArray, List.set_cons_zero, List.set_cons_succ]
        have hq : chkP (l.map plP) = 0 := by unfold chkP; rw [if_neg (by rw [List.length_map]; have h := of_decide_eq_false Hhb1.out; omega), if_neg (by rw [show (l.map plP).any (fun s => !fitP s) = false from (any_plP (fun s => !fitP s) l).symm.trans Hhb2.out]; decide), if_neg (by rw [show (l.map plP).any longP = false from (any_plP longP l).symm.trans Hhb3.out]; decide)]
        go_wp2_with fail
        go_ret
        exact ⟨by rw [hq]; rfl, hM.b⟩
      | true =>
        have Hhb3 := Lib.hid hb3
        clear hb3
        go_upto_region 6 with fail
        refine wp_region_fromM (fun W => Sep w [] [] W) hM ?_
        clear hM
        rintro Y8 hM
        refine tF 1 [.val 0 (some 2) (.int .i64 5)] trivial ?_
        refine dF ?_
        try simp only [puts, Tk.put, Act.put, List.setIfInBounds_toArray, List.set_cons_zero, List.set_cons_succ]
        have hq : chkP (l.map plP) = 5 := by unfold chkP; rw [if_neg (by rw [List.length_map]; have h := of_decide_eq_false Hhb1.out; omega), if_neg (by rw [show (l.map plP).any (fun s => !fitP s) = false from (any_plP (fun s => !fitP s) l).symm.trans Hhb2.out]; decide), if_pos ((any_plP longP l).symm.trans Hhb3.out)]
        go_wp2_with fail
        go_ret
        exact ⟨by rw [hq]; rfl, hM.b⟩
    | true =>
      have Hhb2 := Lib.hid hb2
      clear hb2
      go_upto_region 4 with fail
      refine wp_region_fromM (fun W => Sep w [] [] W) hM ?_
      clear hM
      rintro Y9 hM
      refine tF 1 [.val 0 (some 2) (.int .i64 4)] trivial ?_
      refine dF ?_
      try simp only [puts, Tk.put, Act.put, List.setIfInBounds_toArray, List.set_cons_zero, List.set_cons_succ]
      have hq : chkP (l.map plP) = 4 := by unfold chkP; rw [if_neg (by rw [List.length_map]; have h := of_decide_eq_false Hhb1.out; omega), if_pos ((any_plP (fun s => !fitP s) l).symm.trans Hhb2.out)]
      go_wp2_with fail
      go_ret
      exact ⟨by rw [hq]; rfl, hM.b⟩
  | true =>
    have Hhb1 := Lib.hid hb1
    clear hb1
    go_upto_region 2 with fail
    refine wp_region_fromM (fun W => Sep w [] [] W) hM ?_
    clear hM
    rintro Y10 hM
    refine tF 1 [.val 0 (some 2) (.int .i64 3)] trivial ?_
    refine dF ?_
    try simp only [puts, Tk.put, Act.put, List.setIfInBounds_toArray, List.set_cons_zero, List.set_cons_succ]
    have hq : chkP (l.map plP) = 3 := by unfold chkP; rw [if_pos (by rw [List.length_map]; have h := of_decide_eq_true Hhb1.out; omega)]
    go_wp2_with fail
    go_ret
    exact ⟨by rw [hq]; rfl, hM.b⟩
end Go.Proofs.YtemknjnljciioaaGreat
