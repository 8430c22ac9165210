/-
  math/bits.Div64 is long division: how often y is in hi * 2^64 + lo, and what is left, where hi is below y.
-/
import Derived.Test.YtefbkchledfoiaaWideMath
import Derived.Test.YtefbkchledfoiaaDivMath
import Derived.Test.YtefbkchledfoiaaShelf
import Derived.Deep.CutBlock
import Derived.Deep.DeepCutAuto
namespace Go.Proofs.Ytefbkchledfoiaa
open Go.RowKit Go.Shelf

set_option maxRecDepth 100000 in
set_option maxHeartbeats 4000000 in
theorem div64_walk (hi lo y s Y Y1 Y0 u L d1 d0 q r p Q1 v q2 p2 r2 Q0 R rem : Nat) (hy : y < M) (hlt : hi < y) (hp : 0 < hi) (hs : s ≤ 63) (hlz : 64 - (Lib.bitLen y : Int) = s)
    (e1 : IntKind.u64.wrap ((y : Int) * 2 ^ s) = (Y : Int)) (e2 : (Y : Int) / 4294967296 = (Y1 : Int)) (e3 : bits .and .u64 (Y : Int) 4294967295 = (Y0 : Int))
    (e4 : bits .or .u64 (IntKind.u64.wrap ((hi : Int) * 2 ^ s)) ((lo : Int) / 2 ^ (64 - s)) = (u : Int)) (e5 : IntKind.u64.wrap ((lo : Int) * 2 ^ s) = (L : Int))
    (e6 : (L : Int) / 4294967296 = (d1 : Int)) (e7 : bits .and .u64 (L : Int) 4294967295 = (d0 : Int))
    (e8 : (u : Int) / (Y1 : Int) = (q : Int)) (e8' : IntKind.u64.wrap (q : Int) = (q : Int)) (e9 : IntKind.u64.wrap ((q : Int) * (Y1 : Int)) = (p : Int)) (e10 : IntKind.u64.wrap ((u : Int) - (p : Int)) = (r : Int))
    (f1 : IntKind.u64.wrap (IntKind.u64.wrap (IntKind.u64.wrap ((u : Int) * 4294967296) + (d1 : Int)) - IntKind.u64.wrap ((Q1 : Int) * (Y : Int))) = (v : Int))
    (f8 : (v : Int) / (Y1 : Int) = (q2 : Int)) (f8' : IntKind.u64.wrap (q2 : Int) = (q2 : Int)) (f9 : IntKind.u64.wrap ((q2 : Int) * (Y1 : Int)) = (p2 : Int)) (f10 : IntKind.u64.wrap ((v : Int) - (p2 : Int)) = (r2 : Int))
    (f11 : IntKind.u64.wrap (IntKind.u64.wrap (IntKind.u64.wrap ((v : Int) * 4294967296) + (d0 : Int)) - IntKind.u64.wrap ((Q0 : Int) * (Y : Int))) = (R : Int)) (f12 : (R : Int) / 2 ^ s = (rem : Int))
    (b1 : 2147483648 ≤ (Y1 : Int)) (b2 : (Y1 : Int) ≤ 4294967295) (b3 : (Y0 : Int) ≤ 4294967295) (b4 : (d1 : Int) ≤ 4294967295) (b5 : (d0 : Int) ≤ 4294967295) (b6 : (Q1 : Int) ≤ 4294967295) (b7 : (Q0 : Int) ≤ 4294967295)
    (hu : u < Y1 * H + Y0) (hv : v < Y1 * H + Y0) (g : Guess Y1 Y0 u d1 q r) (g2 : Guess Y1 Y0 v d0 q2 r2) (hr : r < H) (hr2 : r2 < H)
    (hQ1 : (u * H + d1) / (Y1 * H + Y0) = Q1) (hQ0 : (v * H + d0) / (Y1 * H + Y0) = Q0) (w : World) :
    Calls Try.prog 26 #[.int .u64 (hi : Int), .int .u64 (lo : Int), .int .u64 (y : Int)] w fun e w' => e = .returned (.tuple #[.int .u64 ((Q1 : Int) * 4294967296 + (Q0 : Int)), .int .u64 (rem : Int)]) ∧ w' = w := by
  have y0 : ((y : Int) == 0) = false := by simp; omega
  have y1 : decide ((y : Int) ≤ (hi : Int)) = false := by simp; omega
  have y2 : ((hi : Int) == 0) = false := by simp; omega
  have y3 : ((Y1 : Int) == 0) = false := by simp; omega
  have y4 : ¬ (Y1 : Int) = 0 := by omega
  have hy' : (y : Int) ≤ 18446744073709551615 := by unfold M at hy; omega
  have HG := Lib.hid (And.intro g hr)
  have HG2 := Lib.hid (And.intro g2 hr2)
  have HU := Lib.hid (And.intro hu hQ1)
  have HV := Lib.hid (And.intro hv hQ0)
  have HF := Lib.hid (And.intro f1 (And.intro f8 (And.intro f8' (And.intro f9 (And.intro f10 (And.intro f11 f12))))))
  have HL := Lib.hid hlz
  clear hlz g g2 hr hr2 hu hv hQ1 hQ0 f1 f8 f8' f9 f10 f11 f12
  go_enter Try.func26, Try.ntmps26
  go_wp2_with fail
  refine (Try.bits_LeadingZeros64 (y : Int) w (by omega) hy').mono ?_
  rintro e w' ⟨rfl, rfl⟩
  rw [Int.toNat_natCast, HL.out]
  go_upto_block 0 with fail
  clear e1 e2 e3 e4 e5 e6 e7 e8 e8' e9 e10 y0 y1 y2 y3
  go_cut [15] (fun s wc => s = .int .u64 (Q1 : Int) ∧ wc = w')
  case first =>
    go_wp2_with fail
    go_loop [15, 16] (fun a b => ∃ q r : Nat, a = .int .u64 (q : Int) ∧ b = .int .u64 (r : Int) ∧ r < H ∧ Guess Y1 Y0 u d1 q r) (fun a _ => (intOf a).toNat)
    case atStart => exact ⟨_, _, rfl, rfl, HG.out.2, HG.out.1⟩
    case round =>
      obtain ⟨q', r', rfl, rfl, hr', hg'⟩ := hrel
      have hr4 : (r' : Int) ≤ 4294967295 := by rw [H_eq] at hr'; omega
      have hq5 : (q' : Int) ≤ 4294967297 := by have := hg'.top; rw [H_eq] at this; omega
      have HN := Lib.hid (fun hc => guess_next (by rw [H_eq]; omega) HU.out.1 hg' hc)
      by_cases hq : (4294967296 : Int) ≤ (q' : Int)
      · clear hr' hg'
        obtain ⟨hq1, hg2⟩ := HN.out (.inl (by rw [H_eq]; omega))
        have hm : 1 ≤ (q' : Int) := by omega
        have eq : ((q' - 1 : Nat) : Int) = (q' : Int) - 1 := by omega
        by_cases hb : (4294967296 : Int) ≤ (r' : Int) + (Y1 : Int)
        · have hd := (guess_done (by omega) (by rw [H_eq]; omega) hg2 (.inl (by rw [H_eq]; omega))).trans HU.out.2
          have hdi : (q' : Int) - 1 = (Q1 : Int) := by rw [← eq, hd]
          have HDI := Lib.hid hdi
          clear hdi hd eq hg2 hq1 HN
          go_wp2_with fail
          go_meet
          exact ⟨by rw [HDI.out], rfl⟩
        · have HG3 := Lib.hid hg2
          have HE := Lib.hid eq
          clear eq hg2 hq1 HN
          go_wp2_with fail
          go_round
          case rel => exact ⟨q' - 1, r' + Y1, by rw [HE.out], rfl, by rw [H_eq]; omega, HG3.out⟩
          case measure => simp [intOf]; omega
      · have hqn : decide ((4294967296 : Int) ≤ (q' : Int)) = false := decide_eq_false hq
        obtain ⟨t, ht⟩ : ∃ t : Nat, t = q' * Y0 := ⟨_, rfl⟩
        have htb : q' * Y0 ≤ 4294967295 * 4294967295 := Nat.mul_le_mul (by omega) (by omega)
        have hw : IntKind.u64.wrap ((q' : Int) * (Y0 : Int)) = (t : Int) := by rw [← Int.natCast_mul, ← ht, Mul64.wrapN _ (by omega)]
        by_cases hc : (4294967296 : Int) * (r' : Int) + (d1 : Int) < (t : Int)
        · have hcc : H * r' + d1 < q' * Y0 := by rw [← ht, H_eq]; omega
          clear hr' hg' htb
          obtain ⟨hq1, hg2⟩ := HN.out (.inr hcc)
          have hm : 1 ≤ (q' : Int) := by omega
          have eq : ((q' - 1 : Nat) : Int) = (q' : Int) - 1 := by omega
          by_cases hb : (4294967296 : Int) ≤ (r' : Int) + (Y1 : Int)
          · have hd := (guess_done (by omega) (by rw [H_eq]; omega) hg2 (.inl (by rw [H_eq]; omega))).trans HU.out.2
            have hdi : (q' : Int) - 1 = (Q1 : Int) := by rw [← eq, hd]
            have HDI := Lib.hid hdi
            clear hdi hd eq hg2 hq1 HN
            go_wp2_with fail
            go_meet
            exact ⟨by rw [HDI.out], rfl⟩
          · have HG3 := Lib.hid hg2
            have HE := Lib.hid eq
            clear eq hg2 hq1 HN
            go_wp2_with fail
            go_round
            case rel => exact ⟨q' - 1, r' + Y1, by rw [HE.out], rfl, by rw [H_eq]; omega, HG3.out⟩
            case measure => simp [intOf]; omega
        · have hd := (guess_done (by omega) (by rw [H_eq]; omega) hg' (.inr (by rw [← ht, H_eq]; omega))).trans HU.out.2
          have hdi : (q' : Int) = (Q1 : Int) := by rw [hd]
          have HDI := Lib.hid hdi
          clear hdi hd hr' hg' htb HN
          go_wp2_with fail
          go_meet
          exact ⟨by rw [HDI.out], rfl⟩
  case rest =>
    obtain ⟨rfl, rfl⟩ := hcut
    obtain ⟨f1, f8, f8', f9, f10, f11, f12⟩ := HF.out
    have HF2 := Lib.hid (And.intro f11 f12)
    have y3 : ((Y1 : Int) == 0) = false := by simp; omega
    clear HF f11 f12
    go_upto_block 2 with fail
    go_cut [18] (fun s wd => s = .int .u64 (Q0 : Int) ∧ wd = wc)
    case first =>
      go_wp2_with fail
      go_loop [18, 16] (fun a b => ∃ q r : Nat, a = .int .u64 (q : Int) ∧ b = .int .u64 (r : Int) ∧ r < H ∧ Guess Y1 Y0 v d0 q r) (fun a _ => (intOf a).toNat)
      case atStart => exact ⟨_, _, rfl, rfl, HG2.out.2, HG2.out.1⟩
      case round =>
        obtain ⟨q', r', rfl, rfl, hr', hg'⟩ := hrel
        have hr4 : (r' : Int) ≤ 4294967295 := by rw [H_eq] at hr'; omega
        have hq5 : (q' : Int) ≤ 4294967297 := by have := hg'.top; rw [H_eq] at this; omega
        have HN := Lib.hid (fun hc => guess_next (by rw [H_eq]; omega) HV.out.1 hg' hc)
        by_cases hq : (4294967296 : Int) ≤ (q' : Int)
        · clear hr' hg'
          obtain ⟨hq1, hg2⟩ := HN.out (.inl (by rw [H_eq]; omega))
          have hm : 1 ≤ (q' : Int) := by omega
          have eq : ((q' - 1 : Nat) : Int) = (q' : Int) - 1 := by omega
          by_cases hb : (4294967296 : Int) ≤ (r' : Int) + (Y1 : Int)
          · have hd := (guess_done (by omega) (by rw [H_eq]; omega) hg2 (.inl (by rw [H_eq]; omega))).trans HV.out.2
            have hdi : (q' : Int) - 1 = (Q0 : Int) := by rw [← eq, hd]
            have HDI := Lib.hid hdi
            clear hdi hd eq hg2 hq1 HN
            go_wp2_with fail
            go_meet
            exact ⟨by rw [HDI.out], rfl⟩
          · have HG3 := Lib.hid hg2
            have HE := Lib.hid eq
            clear eq hg2 hq1 HN
            go_wp2_with fail
            go_round
            case rel => exact ⟨q' - 1, r' + Y1, by rw [HE.out], rfl, by rw [H_eq]; omega, HG3.out⟩
            case measure => simp [intOf]; omega
        · have hqn : decide ((4294967296 : Int) ≤ (q' : Int)) = false := decide_eq_false hq
          obtain ⟨t, ht⟩ : ∃ t : Nat, t = q' * Y0 := ⟨_, rfl⟩
          have htb : q' * Y0 ≤ 4294967295 * 4294967295 := Nat.mul_le_mul (by omega) (by omega)
          have hw : IntKind.u64.wrap ((q' : Int) * (Y0 : Int)) = (t : Int) := by rw [← Int.natCast_mul, ← ht, Mul64.wrapN _ (by omega)]
          by_cases hc : (4294967296 : Int) * (r' : Int) + (d0 : Int) < (t : Int)
          · have hcc : H * r' + d0 < q' * Y0 := by rw [← ht, H_eq]; omega
            clear hr' hg' htb
            obtain ⟨hq1, hg2⟩ := HN.out (.inr hcc)
            have hm : 1 ≤ (q' : Int) := by omega
            have eq : ((q' - 1 : Nat) : Int) = (q' : Int) - 1 := by omega
            by_cases hb : (4294967296 : Int) ≤ (r' : Int) + (Y1 : Int)
            · have hd := (guess_done (by omega) (by rw [H_eq]; omega) hg2 (.inl (by rw [H_eq]; omega))).trans HV.out.2
              have hdi : (q' : Int) - 1 = (Q0 : Int) := by rw [← eq, hd]
              have HDI := Lib.hid hdi
              clear hdi hd eq hg2 hq1 HN
              go_wp2_with fail
              go_meet
              exact ⟨by rw [HDI.out], rfl⟩
            · have HG3 := Lib.hid hg2
              have HE := Lib.hid eq
              clear eq hg2 hq1 HN
              go_wp2_with fail
              go_round
              case rel => exact ⟨q' - 1, r' + Y1, by rw [HE.out], rfl, by rw [H_eq]; omega, HG3.out⟩
              case measure => simp [intOf]; omega
          · have hd := (guess_done (by omega) (by rw [H_eq]; omega) hg' (.inr (by rw [← ht, H_eq]; omega))).trans HV.out.2
            have hdi : (q' : Int) = (Q0 : Int) := by rw [hd]
            have HDI := Lib.hid hdi
            clear hdi hd hr' hg' htb HN
            go_wp2_with fail
            go_meet
            exact ⟨by rw [HDI.out], rfl⟩
    case rest =>
      obtain ⟨rfl, rfl⟩ := hcut
      obtain ⟨f11, f12⟩ := HF2.out
      clear f1 f8 f8' f9 f10 HF2
      go_wp2_with fail
      go_ret2
      exact ⟨rfl, rfl⟩
end Go.Proofs.Ytefbkchledfoiaa
