/-
  A number and a text have one cell each.
-/
import Derived.Test.YtakeickgjplahaaBase
namespace Go.Proofs.Ytakeickgjplahaa

theorem Try.cellsInt : Try.prog.cellsOf 3 = 1 := by kernel_rfl
theorem Try.cellsStr : Try.prog.cellsOf 9 = 1 := by kernel_rfl
end Go.Proofs.Ytakeickgjplahaa
