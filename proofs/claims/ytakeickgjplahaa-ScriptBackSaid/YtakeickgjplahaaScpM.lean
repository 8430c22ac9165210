/-
  Scripts as a plain thing: steps, their octets, what is read of them.
-/
import Derived.Test.YtakeickgjplahaaOctF
import Derived.Test.YtakeickgjplahaaOwsM
import Derived.Test.YtakeickgjplahaaSepK
import Derived.Test.YtakeickgjplahaaKit
namespace Go.Proofs.Ytakeickgjplahaa
open Go.RowKit Go.Shelf

/-- A step: its numbers, and where its octets lie. -/
structure Sp where
  ki : Int
  xa : Int
  xb : Int
  xc : Int
  ad : Option Addr
  cp : Nat
  l : List UInt8
def noSp : Sp := ⟨0, 0, 0, 0, none, 0, []⟩
def spc (x : Sp) : List Value := [.int .i64 x.ki, .int .i64 x.xa, .int .i64 x.xb, .int .i64 x.xc, .slice x.ad x.l.length x.cp]
abbrev spv (x : Sp) : Value := .agg (spc x).toArray
def Sp.z (x : Sp) : Zs := ⟨x.ad, x.cp, x.l⟩
def zsP (ls : List Sp) : List Zs := ls.map Sp.z
/-- .. what it is. -/
structure Stp where
  ki : Int
  xa : Int
  xb : Int
  xc : Int
  l : List UInt8
def noStp : Stp := ⟨0, 0, 0, 0, []⟩
def plP (x : Sp) : Stp := ⟨x.ki, x.xa, x.xb, x.xc, x.l⟩
theorem spc_len (x : Sp) : (spc x).length = 5 := rfl
theorem spc_one (x : Sp) : ∀ u ∈ spc x, u.oneCell' = true := by simp [spc, Value.oneCell']
theorem infoSp : (Try.prog.info? 33).map (fun i => (i.zero, i.size, i.bytes)) = some (some (.agg (spc noSp).toArray), 5, 56) := by kernel_rfl
theorem zsP_app (a b : List Sp) : zsP (a ++ b) = zsP a ++ zsP b := List.map_append
theorem zsP_get {ls : List Sp} {k : Nat} {x : Sp} (h : ls[k]? = some x) : (zsP ls)[k]? = some x.z := by
  unfold zsP
  rw [List.getElem?_map, h]
  rfl
theorem Holds.sp {n k : Nat} {W : World} {ls : List Sp} {x : Sp} (h : Holds n W (zsP ls)) (hx : ls[k]? = some x) : BSl 0 n W (.slice x.ad x.l.length x.cp) x.l := h.get (zsP_get hx)
theorem lv_sp {W : World} {B : Nat} {T : TypeId} {x : Sp} (h : Blk W B T (spc x)) : (loadVar 33 ⟨B, 0, none⟩).run Try.prog W = .ok (spv x) W := run_loadVar_row W B T _ (spc x).toArray (0, 0) _ h Try.underlying33 rfl (by kernel_rfl)
section
variable {w W W' : World} {F : List Nat} {l : List Res} {ms : List Sp}
theorem Sep.sps1 {v : Value} {x : List UInt8} (m : Sp) (hv : v = m.z.v) (hx : x = m.z.l) (h : Sep w F (.oct v x :: .octs (zsP ms) :: l) W) : Sep w F (.octs (zsP (ms ++ [m])) :: l) W := by
  rw [zsP_app]
  exact Sep.octs1 m.z hv hx h
end

/-- One of a step's numbers: where it stands, its octets, what is added. -/
structure Nb where
  at_ : Option Addr
  oc : Int
  lf : Int
def nb (B j : Nat) (oc lf : Int) : Nb := ⟨some ⟨B, j, none⟩, oc, lf⟩
def noNb : Nb := ⟨none, 0, 0⟩
def nbc (n : Nb) : List Value := [.pointer n.at_, .int .i64 n.oc, .int .i64 n.lf]
abbrev nbv (n : Nb) : Value := .agg (nbc n).toArray
theorem nbc_len (n : Nb) : (nbc n).length = 3 := rfl
/-- All four. -/
def nbs : Option Nat → List Value
  | none => [.pointer none, .int .i64 0, .int .i64 0, .pointer none, .int .i64 0, .int .i64 0, .pointer none, .int .i64 0, .int .i64 0, .pointer none, .int .i64 0, .int .i64 0]
  | some B => nbc (nb B 0 1 0) ++ nbc (nb B 1 2 32768) ++ nbc (nb B 2 2 32768) ++ nbc (nb B 3 2 32768)
abbrev nsv (n : Option Nat) : Value := .agg (nbs n).toArray
theorem lv_ns {W : World} {B : Nat} {T : TypeId} {n : Nat} (h : Blk W B T (nbs (some n))) : (loadVar 43 ⟨B, 0, none⟩).run Try.prog W = .ok (nsv (some n)) W := run_loadVar_row W B T _ (nbs (some n)).toArray (0, 0) _ h Try.underlying43 rfl (by kernel_rfl)
theorem res_cell1 {fn : Func} {p : Tmp} {ty : TypeId} (h : fn.results = #[.cell p ty]) (tmps : Array Value) {w : World} {g : Nat} {c : Value} (hp : tmps.getD p undef = .pointer (some ⟨g, 0, none⟩)) (hl : (loadVar ty ⟨g, 0, none⟩).run Try.prog w = .ok c w) :
    (results fn tmps).run Try.prog w = .ok c w := by
  have hp' : tmps[p]?.getD undef = .pointer (some ⟨g, 0, none⟩) := by simpa using hp
  simp [results, h, hp', asAddr, hl]

def numP (s : Stp) : Nat → Int
  | 0 => s.ki
  | 1 => s.xa
  | 2 => s.xb
  | _ => s.xc
def szP : Nat → Nat
  | 0 => 1
  | _ => 2
def lfP : Nat → Int
  | 0 => 0
  | _ => 32768
/-- Whether a number has room. -/
def fitZ : Nat → Int → Bool
  | 0, z => decide (0 ≤ z) && decide (z < 256)
  | _ + 1, z => decide (-32768 ≤ z) && decide (z < 32768)
def fitU (s : Stp) : Nat → Bool
  | 0 => true
  | j + 1 => fitU s j && fitZ j (numP s j)
def fitP (s : Stp) : Bool := fitU s 4
/-- The octets of the first numbers. -/
def hdP (s : Stp) : Nat → List UInt8
  | 0 => []
  | j + 1 => hdP s j ++ octs (two (numP s j + lfP j)) (szP j)
def octP (s : Stp) : List UInt8 := hdP s 4 ++ (octs s.l.length 2 ++ s.l)
def joinP (l : List Stp) : List UInt8 := l.flatMap octP
def longP (s : Stp) : Bool := decide (1024 < s.l.length)
/-- Why steps may not be put. -/
def chkP (l : List Stp) : Int := if 512 < l.length then 3 else if l.any (fun s => !fitP s) then 4 else if l.any longP then 5 else 0
def errP (l : List Stp) : Int := if chkP l ≠ 0 then chkP l else if 8192 < (joinP l).length then 5 else 0
def putP (l : List Stp) : List UInt8 := if errP l ≠ 0 then [] else joinP l
/-- A step that may be put. -/
def OkS (s : Stp) : Prop := fitP s = true ∧ s.l.length ≤ 1024
theorem fit_bnd {s : Stp} (h : fitP s = true) : (0 ≤ s.ki ∧ s.ki < 256) ∧ (-32768 ≤ s.xa ∧ s.xa < 32768) ∧ (-32768 ≤ s.xb ∧ s.xb < 32768) ∧ (-32768 ≤ s.xc ∧ s.xc < 32768) := by
  simp [fitP, fitU, fitZ, numP] at h
  omega
theorem bnd_fit {s : Stp} (h : (0 ≤ s.ki ∧ s.ki < 256) ∧ (-32768 ≤ s.xa ∧ s.xa < 32768) ∧ (-32768 ≤ s.xb ∧ s.xb < 32768) ∧ (-32768 ≤ s.xc ∧ s.xc < 32768)) : fitP s = true := by
  simp [fitP, fitU, fitZ, numP]
  omega
theorem hd_len (s : Stp) : (hdP s 4).length = 7 := by simp [hdP, octs_length, szP]
theorem octP_len (s : Stp) : (octP s).length = 9 + s.l.length := by
  unfold octP
  rw [List.length_append, hd_len, List.length_append, octs_length]
  omega
theorem joinP_cons (s : Stp) (l : List Stp) : joinP (s :: l) = octP s ++ joinP l := rfl
theorem joinP_app (a b : List Stp) : joinP (a ++ b) = joinP a ++ joinP b := List.flatMap_append
theorem joinP_one (s : Stp) : joinP [s] = octP s := List.append_nil _
theorem joinP_len {l : List Stp} (h : ∀ s ∈ l, OkS s) : (joinP l).length ≤ 1033 * l.length := by
  induction l with
  | nil => simp [joinP]
  | cons s l ih =>
    have h1 := ih fun x hx => h x (List.mem_cons_of_mem _ hx)
    have h2 := (h s (List.mem_cons_self ..)).2
    rw [joinP_cons, List.length_append, octP_len, List.length_cons]
    omega
theorem joinP_few (l : List Stp) : 9 * l.length ≤ (joinP l).length := by
  induction l with
  | nil => simp [joinP]
  | cons s l ih =>
    rw [joinP_cons, List.length_append, octP_len, List.length_cons]
    omega

/-- A number read, from a place on. -/
def nx (b : List UInt8) (e s : Nat) : Int := ((be ((b.drop e).take s) : Nat) : Int)
def lenP (b : List UInt8) : Nat := be ((b.drop 7).take 2)
def gotP (b : List UInt8) : Stp := ⟨nx b 0 1 - 0, nx b 1 2 - 32768, nx b 3 2 - 32768, nx b 5 2 - 32768, (b.drop 9).take (lenP b)⟩
/-- How many octets the first step has; 0: none is whole. -/
def szF (b : List UInt8) : Nat := if 9 ≤ b.length ∧ lenP b ≤ 1024 ∧ 9 + lenP b ≤ b.length then 9 + lenP b else 0
theorem szF_no {b : List UInt8} (h : b.length < 9 ∨ 1024 < lenP b ∨ b.length < 9 + lenP b) : szF b = 0 := if_neg fun x => by omega
theorem szF_yes {b : List UInt8} (h : 9 ≤ b.length) (h1 : lenP b ≤ 1024) (h2 : 9 + lenP b ≤ b.length) : szF b = 9 + lenP b := if_pos ⟨h, h1, h2⟩
theorem szF_nil : szF [] = 0 := szF_no (.inl (by simp))
theorem nx_lt (b : List UInt8) (e : Nat) {s : Nat} (hs : s ≤ 2) : 0 ≤ nx b e s ∧ nx b e s < 65536 := by
  have h := be_lt' (l := (b.drop e).take s) (k := 2) (by rw [List.length_take]; omega)
  unfold nx
  omega
theorem nx_lt1 (b : List UInt8) (e : Nat) : 0 ≤ nx b e 1 ∧ nx b e 1 < 256 := by
  have h := be_lt' (l := (b.drop e).take 1) (k := 1) (by rw [List.length_take]; omega)
  unfold nx
  omega
theorem got_fit (b : List UInt8) : fitP (gotP b) = true := by
  have h0 := nx_lt1 b 0
  have h1 := nx_lt b 1 (s := 2) (by omega)
  have h2 := nx_lt b 3 (s := 2) (by omega)
  have h3 := nx_lt b 5 (s := 2) (by omega)
  refine bnd_fit ?_
  simp only [gotP]
  omega
theorem two_nat {z : Int} {n : Nat} (h : z = (n : Int)) (hn : n < 18446744073709551616) : two z = n := by
  subst h
  unfold two
  omega
theorem octs_at_b {b : List UInt8} {e s : Nat} (h : e + s ≤ b.length) (hs : s ≤ 2) {z : Int} (hz : z = nx b e s) : octs (two z) s = (b.drop e).take s := by
  have hl : ((b.drop e).take s).length = s := by rw [List.length_take, List.length_drop]; omega
  have hb := be_lt' (l := (b.drop e).take s) (k := 2) (by omega)
  rw [two_nat hz (by omega)]
  have := octs_beJ ((b.drop e).take s)
  rwa [hl] at this
theorem take_more (b : List UInt8) (e s : Nat) : b.take e ++ (b.drop e).take s = b.take (e + s) := by
  rw [List.take_add]
theorem got_octs {b : List UInt8} (h : szF b ≠ 0) : octP (gotP b) = b.take (szF b) ∧ OkS (gotP b) ∧ szF b ≤ b.length := by
  by_cases h0 : 9 ≤ b.length ∧ lenP b ≤ 1024 ∧ 9 + lenP b ≤ b.length
  · obtain ⟨h1, h2, h3⟩ := h0
    have hs := szF_yes h1 h2 h3
    have hl : (gotP b).l.length = lenP b := by simp only [gotP]; rw [List.length_take, List.length_drop]; omega
    refine ⟨?_, ⟨got_fit b, by rw [hl]; exact h2⟩, by omega⟩
    unfold octP
    rw [hl]
    have e0 : octs (two (numP (gotP b) 0 + lfP 0)) (szP 0) = (b.drop 0).take 1 := octs_at_b (s := 1) (by omega) (by decide) (by simp [numP, lfP, gotP])
    have e1 : octs (two (numP (gotP b) 1 + lfP 1)) (szP 1) = (b.drop 1).take 2 := octs_at_b (s := 2) (by omega) (by decide) (by simp [numP, lfP, gotP])
    have e2 : octs (two (numP (gotP b) 2 + lfP 2)) (szP 2) = (b.drop 3).take 2 := octs_at_b (s := 2) (by omega) (by decide) (by simp [numP, lfP, gotP])
    have e3 : octs (two (numP (gotP b) 3 + lfP 3)) (szP 3) = (b.drop 5).take 2 := octs_at_b (s := 2) (by omega) (by decide) (by simp [numP, lfP, gotP])
    have e4 : octs (lenP b) 2 = (b.drop 7).take 2 := by
      have h4 := octs_beJ ((b.drop 7).take 2)
      rw [show ((b.drop 7).take 2).length = 2 by rw [List.length_take, List.length_drop]; omega] at h4
      exact h4
    simp only [hdP, e0, e1, e2, e3, e4, List.nil_append, List.drop_zero]
    rw [hs, take_more b 1 2, take_more b 3 2, take_more b 5 2, ← List.append_assoc, take_more b 7 2]
    exact take_more b 9 (lenP b)
  · exact (h (if_neg h0)).elim
theorem be_oct {n s : Nat} (h : n < 256 ^ s) : be (octs n s) = n := by rw [be_octs, Nat.mod_eq_of_lt h]
theorem nx_oct {a r : List UInt8} {n s e : Nat} (he : a.length = e) (h : n < 256 ^ s) {c : List UInt8} (hc : c = a ++ (octs n s ++ r)) : nx c e s = (n : Int) := by
  subst hc
  unfold nx
  rw [List.drop_append_of_le_length (by omega), List.drop_of_length_le (by omega), List.nil_append, List.take_append_of_le_length (by rw [octs_length]; omega), List.take_of_length_le (by rw [octs_length]; omega), be_oct h]
theorem octs_got {s : Stp} (h : OkS s) (r : List UInt8) : gotP (octP s ++ r) = s ∧ szF (octP s ++ r) = 9 + s.l.length := by
  obtain ⟨hf, hl⟩ := h
  obtain ⟨⟨a0, a1⟩, ⟨b0, b1⟩, ⟨c0, c1⟩, d0, d1⟩ := fit_bnd hf
  obtain ⟨n0, e0⟩ : ∃ n : Nat, s.ki + 0 = (n : Int) := ⟨s.ki.toNat, by omega⟩
  obtain ⟨n1, e1⟩ : ∃ n : Nat, s.xa + 32768 = (n : Int) := ⟨(s.xa + 32768).toNat, by omega⟩
  obtain ⟨n2, e2⟩ : ∃ n : Nat, s.xb + 32768 = (n : Int) := ⟨(s.xb + 32768).toNat, by omega⟩
  obtain ⟨n3, e3⟩ : ∃ n : Nat, s.xc + 32768 = (n : Int) := ⟨(s.xc + 32768).toNat, by omega⟩
  have hb : octP s ++ r = octs n0 1 ++ (octs n1 2 ++ (octs n2 2 ++ (octs n3 2 ++ (octs s.l.length 2 ++ (s.l ++ r))))) := by
    simp only [octP, hdP, numP, lfP, szP, two_nat e0 (by omega), two_nat e1 (by omega), two_nat e2 (by omega), two_nat e3 (by omega), List.nil_append, List.append_assoc]
  generalize octP s ++ r = c at hb
  have l0 := octs_length n0 1
  have l1 := octs_length n1 2
  have l2 := octs_length n2 2
  have l3 := octs_length n3 2
  have l4 := octs_length s.l.length 2
  have g0 : nx c 0 1 = (n0 : Int) := nx_oct (a := []) rfl (by omega) hb
  have g1 : nx c 1 2 = (n1 : Int) := nx_oct (a := octs n0 1) l0 (by omega) hb
  have g2 : nx c 3 2 = (n2 : Int) := nx_oct (a := octs n0 1 ++ octs n1 2) (by rw [List.length_append]; omega) (by omega) (by rw [hb]; simp only [List.append_assoc]; rfl)
  have g3 : nx c 5 2 = (n3 : Int) := nx_oct (a := octs n0 1 ++ (octs n1 2 ++ octs n2 2)) (by simp only [List.length_append]; omega) (by omega) (by rw [hb]; simp only [List.append_assoc]; rfl)
  have g4 : nx c 7 2 = (s.l.length : Int) := nx_oct (a := octs n0 1 ++ (octs n1 2 ++ (octs n2 2 ++ octs n3 2))) (by simp only [List.length_append]; omega) (by omega) (by rw [hb]; simp only [List.append_assoc]; rfl)
  have g5 : lenP c = s.l.length := by unfold nx at g4; unfold lenP; omega
  have g6 : c.drop 9 = s.l ++ r := by
    have : c = (octs n0 1 ++ (octs n1 2 ++ (octs n2 2 ++ (octs n3 2 ++ octs s.l.length 2)))) ++ (s.l ++ r) := by rw [hb]; simp only [List.append_assoc]
    rw [this, List.drop_append_of_le_length (by simp only [List.length_append]; omega), List.drop_of_length_le (by simp only [List.length_append]; omega), List.nil_append]
  have g7 : c.length = 9 + (s.l.length + r.length) := by rw [hb]; simp only [List.length_append]; omega
  refine ⟨?_, by rw [szF_yes (by omega) (by omega) (by omega), g5]⟩
  unfold gotP
  rw [g0, g1, g2, g3, g5, g6, List.take_append_of_le_length (Nat.le_refl _), List.take_length]
  cases s
  simp only [Stp.mk.injEq, and_true]
  simp only at e0 e1 e2 e3
  omega
/-- What is read is unique. -/
theorem join_one : ∀ (ms l : List Stp) (r : List UInt8), (∀ s ∈ ms, OkS s) → (∀ s ∈ l, OkS s) → joinP ms ++ r = joinP l → szF r = 0 → ms = l ∧ r = []
  | [], [], r, _, _, h, _ => ⟨rfl, h⟩
  | [], s :: l, r, _, hl, h, hr => by
    have h1 := (octs_got (hl s (List.mem_cons_self ..)) (joinP l)).2
    rw [← joinP_cons, ← h] at h1
    have h2 : szF r = 9 + s.l.length := h1
    omega
  | m :: ms, [], r, _, _, h, _ => by
    have h1 := congrArg List.length h
    rw [joinP_cons, List.length_append, List.length_append, octP_len] at h1
    simp [joinP] at h1
  | m :: ms, s :: l, r, hm, hl, h, hr => by
    rw [joinP_cons, joinP_cons, List.append_assoc] at h
    have h1 := (octs_got (hm m (List.mem_cons_self ..)) (joinP ms ++ r)).1
    have h2 := (octs_got (hl s (List.mem_cons_self ..)) (joinP l)).1
    rw [h, h2] at h1
    subst h1
    obtain ⟨rfl, rfl⟩ := join_one ms l r (fun x hx => hm x (List.mem_cons_of_mem _ hx)) (fun x hx => hl x (List.mem_cons_of_mem _ hx)) (List.append_cancel_left h) hr
    exact ⟨rfl, rfl⟩
/-- No script's octets. -/
def NoScr (b : List UInt8) : Prop := 8192 < b.length ∨ (∃ ms r, b = joinP ms ++ r ∧ r ≠ [] ∧ szF r = 0 ∧ ∀ s ∈ ms, OkS s) ∨ (∃ ms, b = joinP ms ∧ 512 < ms.length ∧ ∀ s ∈ ms, OkS s)
theorem noScr {l : List Stp} (h : ∀ s ∈ l, OkS s) (h1 : l.length ≤ 512) (h2 : (joinP l).length ≤ 8192) : ¬ NoScr (joinP l) := by
  rintro (h3 | ⟨ms, r, e, hr, h0, hm⟩ | ⟨ms, e, hr, hm⟩)
  · omega
  · exact hr (join_one ms l r hm h e.symm h0).2
  · have := (join_one ms l [] hm h (by rw [List.append_nil]; exact e.symm) szF_nil).1
    subst this
    omega
theorem chk_ok {l : List Stp} (h : chkP l = 0) : l.length ≤ 512 ∧ ∀ s ∈ l, OkS s := by
  unfold chkP at h
  by_cases h1 : 512 < l.length
  · rw [if_pos h1] at h
    omega
  · rw [if_neg h1] at h
    by_cases h2 : l.any (fun s => !fitP s) = true
    · rw [if_pos h2] at h
      omega
    · rw [if_neg h2] at h
      by_cases h3 : l.any longP = true
      · rw [if_pos h3] at h
        omega
      · refine ⟨by omega, fun s hs => ⟨?_, ?_⟩⟩
        · cases hf : fitP s with
          | true => rfl
          | false => exact (h2 (List.any_eq_true.2 ⟨s, hs, by rw [hf]; rfl⟩)).elim
        · refine Decidable.byContradiction fun hn => h3 (List.any_eq_true.2 ⟨s, hs, decide_eq_true (by omega)⟩)
theorem ok_chk {l : List Stp} (h : l.length ≤ 512) (hs : ∀ s ∈ l, OkS s) : chkP l = 0 := by
  unfold chkP
  rw [if_neg (by omega), if_neg, if_neg]
  · intro h2
    obtain ⟨s, h3, h4⟩ := List.any_eq_true.1 h2
    have := of_decide_eq_true h4
    have := (hs s h3).2
    omega
  · intro h2
    obtain ⟨s, h3, h4⟩ := List.any_eq_true.1 h2
    rw [(hs s h3).1] at h4
    cases h4
theorem err_ok {l : List Stp} (h : errP l = 0) : l.length ≤ 512 ∧ (∀ s ∈ l, OkS s) ∧ (joinP l).length ≤ 8192 ∧ putP l = joinP l := by
  have hp : putP l = joinP l := if_neg fun x => x h
  unfold errP at h
  by_cases h1 : chkP l ≠ 0
  · rw [if_pos h1] at h
    exact (h1 h).elim
  · rw [if_neg h1] at h
    by_cases h2 : 8192 < (joinP l).length
    · rw [if_pos h2] at h
      omega
    · obtain ⟨h3, h4⟩ := chk_ok (Decidable.not_not.1 h1)
      exact ⟨h3, h4, by omega, hp⟩
theorem ok_err {l : List Stp} (h : l.length ≤ 512) (hs : ∀ s ∈ l, OkS s) (h2 : (joinP l).length ≤ 8192) : errP l = 0 ∧ putP l = joinP l := by
  have h1 : errP l = 0 := by
    unfold errP
    rw [if_neg (fun x => x (ok_chk h hs)), if_neg (by omega)]
  exact ⟨h1, if_neg fun x => x h1⟩
-- HERE
end Go.Proofs.Ytakeickgjplahaa
