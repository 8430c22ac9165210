/-
  No cell of these rows narrows 'for every input' (looked for: loops, veiled, ifaces, maps, wideKeys, modest, calm, conditions, laid).
  DERIVED. THE GIVEN ROWS OF THIS SEAT. 3 by the template 'for every input the law returns true; each argument reads behind the call as it read before'; 0 by the template 'total and deterministic' (their statements: YtefbkchledfoiaaTotals.lean).
  GIVEN WITH THE SEED: the statements are not yours to turn. If you find one false, say at which input.
  Laid BY PROGRAM, IN A SANDBOX (cutbox-rows.mjs): the forced cells as the released guide's own fill.sh prints them over the translation f51cde5397c5d590… (all of the seat's roots in one cut). By AI agents, Wed Nov 11 2026. No macro, syntax, notation, axiom, sorry.
-/
import Derived.Test.YtefbkchledfoiaaChecked
import GoSem.Claim
import GoSem.ClaimJoined
import GoSem.ClaimMapViews
import Derived.JoinedTies
import Derived.KernelRfl
namespace Go.Proofs.Ytefbkchledfoiaa
/- THE CELL 'sum', in the pinned program and in every row, IS THE sha256 OF THE DUMP (.gsa) THAT YtefbkchledfoiaaProg.lean LOADS. Nothing in Lean hashes anything: it is a label: what it is worth is what the hold of that sum in a sandbox is worth. -/
noncomputable def Try.pinned : Pinned := { name := "ytefbkchledfoiaa", sum := "f51cde5397c5d590d0ae6f749fdc92584c824cb5ddd82a56f6358d96b63eb693", checked := Try.checked }
namespace Rows
def none {H : Type} : Left H := { results := [], args := [] }

/-- 'narrowslaw18.QuoteTells': WHATEVER THE INPUT: true; the input reads as it did. -/
def quoteTellsSpec : ChangeSpec := { name := "quoteTells", fn := fun _ => fun
  | [d1, d2, d3, d4, d5] => { results := [.lit (.bool true)], args := [d1, d2, d3, d4, d5] }
  | _ => none }
def quoteTellsRow : OpenClaim := { program := "ytefbkchledfoiaa", sum := "f51cde5397c5d590d0ae6f749fdc92584c824cb5ddd82a56f6358d96b63eb693", func := "narrows/narrowslaw18.QuoteTells", spec := "quoteTells", inPlace := ["math/bits.Add64", "math/bits.Sub64"], unfollowed := true, recurses := true, named := ["math/bits.divideError", "math/bits.overflowError"], apart := false }
def QuoteTellsSaid : Prop := quoteTellsRow.holds Try.pinned (OpenSpec.ofChange quoteTellsSpec)

/-- ITS FALSE NEIGHBOUR: 'it returns false'. Refute it at one input. -/
def quoteTellsWrong : ChangeSpec := { name := "quoteTells", fn := fun _ => fun
  | [d1, d2, d3, d4, d5] => { results := [.lit (.bool false)], args := [d1, d2, d3, d4, d5] }
  | _ => none }
def QuoteTellsWrongFalsely : Prop := quoteTellsRow.holds Try.pinned (OpenSpec.ofChange quoteTellsWrong)

/-- 'narrowslaw18.QuoteBelow': WHATEVER THE INPUT: true; the input reads as it did. -/
def quoteBelowSpec : ChangeSpec := { name := "quoteBelow", fn := fun _ => fun
  | [d1, d2] => { results := [.lit (.bool true)], args := [d1, d2] }
  | _ => none }
def quoteBelowRow : OpenClaim := { program := "ytefbkchledfoiaa", sum := "f51cde5397c5d590d0ae6f749fdc92584c824cb5ddd82a56f6358d96b63eb693", func := "narrows/narrowslaw18.QuoteBelow", spec := "quoteBelow", inPlace := ["math/bits.Add64", "math/bits.Sub64"], unfollowed := true, recurses := true, named := ["math/bits.divideError", "math/bits.overflowError"], apart := false }
def QuoteBelowSaid : Prop := quoteBelowRow.holds Try.pinned (OpenSpec.ofChange quoteBelowSpec)

/-- ITS FALSE NEIGHBOUR: 'it returns false'. Refute it at one input. -/
def quoteBelowWrong : ChangeSpec := { name := "quoteBelow", fn := fun _ => fun
  | [d1, d2] => { results := [.lit (.bool false)], args := [d1, d2] }
  | _ => none }
def QuoteBelowWrongFalsely : Prop := quoteBelowRow.holds Try.pinned (OpenSpec.ofChange quoteBelowWrong)

/-- 'narrowslaw18.QuoteCovers': WHATEVER THE INPUT: true; the input reads as it did. -/
def quoteCoversSpec : ChangeSpec := { name := "quoteCovers", fn := fun _ => fun
  | [d1, d2, d3, d4] => { results := [.lit (.bool true)], args := [d1, d2, d3, d4] }
  | _ => none }
def quoteCoversRow : OpenClaim := { program := "ytefbkchledfoiaa", sum := "f51cde5397c5d590d0ae6f749fdc92584c824cb5ddd82a56f6358d96b63eb693", func := "narrows/narrowslaw18.QuoteCovers", spec := "quoteCovers", inPlace := ["math/bits.Add64", "math/bits.Sub64"], unfollowed := true, recurses := true, named := ["math/bits.divideError", "math/bits.overflowError"], apart := false }
def QuoteCoversSaid : Prop := quoteCoversRow.holds Try.pinned (OpenSpec.ofChange quoteCoversSpec)

/-- ITS FALSE NEIGHBOUR: 'it returns false'. Refute it at one input. -/
def quoteCoversWrong : ChangeSpec := { name := "quoteCovers", fn := fun _ => fun
  | [d1, d2, d3, d4] => { results := [.lit (.bool false)], args := [d1, d2, d3, d4] }
  | _ => none }
def QuoteCoversWrongFalsely : Prop := quoteCoversRow.holds Try.pinned (OpenSpec.ofChange quoteCoversWrong)

/- THE SECOND FORM. 'bulk': how many values and letters a reading holds, each counted each time it is reached (what is shared counts as often as it is met; a slice's spare places count too). A statement '..UptoSaid' is the law's where the arguments, and the package variables that the reading takes, are together of bulk at most 1048576: NARROWER than '..Said'. Prove '..Said' where nothing that the law and all that it calls make is longer than what came in: it says more and counts as full. Else prove '..UptoSaid'. A law counts once. -/
mutual
def uptoBulk {H : Type} : DataW H → Nat
  | .lit (.string bytes) => bytes.length + 1
  | .lit _ => 1
  | .nil => 1
  | .ptr d => uptoBulk d + 1
  | .slice elems spare => uptoBulkAll elems + uptoBulkAll spare + 1
  | .agg parts => uptoBulkAll parts + 1
  | .iface _ d => uptoBulk d + 1
  | .map entries => uptoBulkEntries entries + 1
  | .held _ => 1
def uptoBulkAll {H : Type} : List (DataW H) → Nat
  | [] => 0
  | d :: r => uptoBulk d + uptoBulkAll r
def uptoBulkEntries {H : Type} : List (Lit × DataW H) → Nat
  | [] => 0
  | x :: r => uptoBulkEntry x + uptoBulkEntries r
def uptoBulkEntry {H : Type} : Lit × DataW H → Nat
  | (.string bytes, d) => bytes.length + uptoBulk d + 1
  | (_, d) => uptoBulk d + 1
 end
def uptoSmall : (H : Type) → List (DataW H) → Bool := fun _ ds => decide (uptoBulkAll ds ≤ 1048576)
def OpenSpec.upto (s : _root_.Go.ChangeSpec) : _root_.Go.OpenSpec := { _root_.Go.OpenSpec.ofChange s with cond := some uptoSmall }

/-- 'narrowslaw18.QuoteTells', WHERE WHAT IT READS IS OF BULK AT MOST 1048576: true; the input reads as it did. -/
def quoteTellsUptoRow : OpenClaim := { program := "ytefbkchledfoiaa", sum := "f51cde5397c5d590d0ae6f749fdc92584c824cb5ddd82a56f6358d96b63eb693", func := "narrows/narrowslaw18.QuoteTells", spec := "quoteTells", inPlace := ["math/bits.Add64", "math/bits.Sub64"], unfollowed := true, recurses := true, named := ["math/bits.divideError", "math/bits.overflowError"], apart := false, narrowed := true }
def QuoteTellsUptoSaid : Prop := quoteTellsUptoRow.holds Try.pinned (OpenSpec.upto quoteTellsSpec)

/-- 'narrowslaw18.QuoteBelow', WHERE WHAT IT READS IS OF BULK AT MOST 1048576: true; the input reads as it did. -/
def quoteBelowUptoRow : OpenClaim := { program := "ytefbkchledfoiaa", sum := "f51cde5397c5d590d0ae6f749fdc92584c824cb5ddd82a56f6358d96b63eb693", func := "narrows/narrowslaw18.QuoteBelow", spec := "quoteBelow", inPlace := ["math/bits.Add64", "math/bits.Sub64"], unfollowed := true, recurses := true, named := ["math/bits.divideError", "math/bits.overflowError"], apart := false, narrowed := true }
def QuoteBelowUptoSaid : Prop := quoteBelowUptoRow.holds Try.pinned (OpenSpec.upto quoteBelowSpec)

/-- 'narrowslaw18.QuoteCovers', WHERE WHAT IT READS IS OF BULK AT MOST 1048576: true; the input reads as it did. -/
def quoteCoversUptoRow : OpenClaim := { program := "ytefbkchledfoiaa", sum := "f51cde5397c5d590d0ae6f749fdc92584c824cb5ddd82a56f6358d96b63eb693", func := "narrows/narrowslaw18.QuoteCovers", spec := "quoteCovers", inPlace := ["math/bits.Add64", "math/bits.Sub64"], unfollowed := true, recurses := true, named := ["math/bits.divideError", "math/bits.overflowError"], apart := false, narrowed := true }
def QuoteCoversUptoSaid : Prop := quoteCoversUptoRow.holds Try.pinned (OpenSpec.upto quoteCoversSpec)

end Rows
end Go.Proofs.Ytefbkchledfoiaa
