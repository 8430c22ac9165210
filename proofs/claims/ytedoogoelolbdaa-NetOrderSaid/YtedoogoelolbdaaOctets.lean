/-
  blob.octets hands back a sequence of a number's octets, the highest first.
-/
import Derived.Test.YtedoogoelolbdaaBytes
namespace Go.Proofs.Ytedoogoelolbdaa
open Go.RowKit Go.Shelf
attribute [local go_sem] Oper.semAt_some

theorem oct_toNat (n p : Nat) : ((oct n p).toNat : Int) = (n : Int) / 2 ^ (p * 8) % 256 := by
  unfold oct
  rw [UInt8.toNat_ofNat']
  simp

theorem oct_bv (n p : Nat) : bv (oct n p) = .int .u8 ((n : Int) / 2 ^ (p * 8) % 256) := by rw [← oct_toNat]

end Go.Proofs.Ytedoogoelolbdaa
