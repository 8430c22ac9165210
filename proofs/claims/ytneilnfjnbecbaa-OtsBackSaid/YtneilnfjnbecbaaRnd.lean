/-
  What a round makes of eight words.
-/
import Derived.Test.YtneilnfjnbecbaaWords
import Derived.Test.YtneilnfjnbecbaaRootWords
namespace Go.Proofs.Ytneilnfjnbecbaa
open Go.RowKit

/-- Eight words. -/
structure S8 where
  a : Int
  b : Int
  c : Int
  d : Int
  e : Int
  f : Int
  g : Int
  h : Int
/-- e's turns, a's turns; a choice; the most. -/
def bs1 (e : Int) : Int := bits .xor .u32 (bits .xor .u32 (rot e 6) (rot e 11)) (rot e 25)
def bs0 (a : Int) : Int := bits .xor .u32 (bits .xor .u32 (rot a 2) (rot a 13)) (rot a 22)
def chs3 (e f g : Int) : Int := bits .xor .u32 (bits .and .u32 e f) (bits .and .u32 (bits .xor .u32 4294967295 e) g)
def maj (a b c : Int) : Int := bits .xor .u32 (bits .xor .u32 (bits .and .u32 a b) (bits .and .u32 a c)) (bits .and .u32 b c)
def tmp1 (s : S8) (k w : Int) : Int := (s.h + bs1 s.e + chs3 s.e s.f s.g + k + w) % 4294967296
def tmp2 (s : S8) : Int := (bs0 s.a + maj s.a s.b s.c) % 4294967296
def rnd (s : S8) (k w : Int) : S8 := ⟨(tmp1 s k w + tmp2 s) % 4294967296, s.a, s.b, s.c, (s.d + tmp1 s k w) % 4294967296, s.e, s.f, s.g⟩
/-- Behind n rounds. -/
def rds (k w : Nat → Int) (s : S8) : Nat → S8
  | 0 => s
  | n + 1 => rnd (rds k w s n) (k n) (w n)
def S8.at (s : S8) : Nat → Int
  | 0 => s.a
  | 1 => s.b
  | 2 => s.c
  | 3 => s.d
  | 4 => s.e
  | 5 => s.f
  | 6 => s.g
  | _ => s.h
def s8 (f : Nat → Int) : S8 := ⟨f 0, f 1, f 2, f 3, f 4, f 5, f 6, f 7⟩
/-- The state behind a block. -/
def mixed (k w f : Nat → Int) : Nat → Int := fun i => (f i + (rds k w (s8 f) 64).at i) % 4294967296
theorem not32 (e : Int) : bits .xor .u32 4294967295 e = (-1 - e) % 4294967296 := by
  have h1 : (BitVec.ofInt IntKind.u32.bits 4294967295 ^^^ BitVec.ofInt IntKind.u32.bits e).toNat = 4294967295 - (e % 4294967296).toNat := by
    show (BitVec.ofInt 32 4294967295 ^^^ BitVec.ofInt 32 e).toNat = _
    rw [show BitVec.ofInt 32 4294967295 = BitVec.allOnes 32 by decide, BitVec.allOnes_xor, BitVec.toNat_not, BitVec.toNat_ofInt]
    rfl
  simp only [bits]
  rw [h1, IntKind.wrap_u32]
  omega

/-- A word of an array. -/
theorem run_index_us (ty n : Nat) (hu : Try.prog.underlying ty = some (.array n 62)) (f : Nat → Int) (k : Nat) (hk : k < n) (w : World) : (Instr.index ty (uv f n) (.int .i64 (k : Int))).run Try.prog w = .ok (.int .u32 (f k)) w := by
  have hk' : (0 ≤ (k : Int) ∧ (k : Int) < (n : Int)) := by omega
  have hg : (us f n)[k]? = some (.int .u32 (f k)) := us_at f hk
  simp [Instr.index, run_underlying hu, asIntOf, hg, go_sem, hk]
end Go.Proofs.Ytneilnfjnbecbaa
