/-
  No cell of these rows narrows 'for every input' (looked for: loops, veiled, ifaces, maps, wideKeys, modest, calm, conditions, laid).
  DERIVED. THE GIVEN ROWS OF THIS SEAT. 4 by the template 'for every input the law returns true; each argument reads behind the call as it read before'; 0 by the template 'total and deterministic' (their statements: YtififfadodjmeaaTotals.lean).
  GIVEN WITH THE SEED: the statements are not yours to turn. If you find one false, say at which input.
  Laid BY PROGRAM, IN A SANDBOX (cutbox-rows.mjs): the forced cells as the released guide's own fill.sh prints them over the translation d843658509804ee2… (all of the seat's roots in one cut). By AI agents, Wed Nov 11 2026. No macro, syntax, notation, axiom, sorry.
-/
import Derived.Test.YtififfadodjmeaaChecked
import GoSem.Claim
import GoSem.ClaimJoined
import GoSem.ClaimMapViews
import Derived.JoinedTies
import Derived.KernelRfl
namespace Go.Proofs.Ytififfadodjmeaa
/- THE CELL 'sum', in the pinned program and in every row, IS THE sha256 OF THE DUMP (.gsa) THAT YtififfadodjmeaaProg.lean LOADS. Nothing in Lean hashes anything: it is a label: what it is worth is what the hold of that sum in a sandbox is worth. -/
noncomputable def Try.pinned : Pinned := { name := "ytififfadodjmeaa", sum := "d843658509804ee2cf917d07639185dafee2c0125ca6ac5b3ae3462bea1d7f15", checked := Try.checked }
namespace Rows
def none {H : Type} : Left H := { results := [], args := [] }

/-- 'narrowslaw07.DealTells': WHATEVER THE INPUT: true; the input reads as it did. -/
def dealTellsSpec : ChangeSpec := { name := "dealTells", fn := fun _ => fun
  | [d1, d2, d3, d4, d5] => { results := [.lit (.bool true)], args := [d1, d2, d3, d4, d5] }
  | _ => none }
def dealTellsRow : OpenClaim := { program := "ytififfadodjmeaa", sum := "d843658509804ee2cf917d07639185dafee2c0125ca6ac5b3ae3462bea1d7f15", func := "narrows/narrowslaw07.DealTells", spec := "dealTells", unfollowed := true, recurses := true, apart := false }
def DealTellsSaid : Prop := dealTellsRow.holds Try.pinned (OpenSpec.ofChange dealTellsSpec)

/-- ITS FALSE NEIGHBOUR: 'it returns false'. Refute it at one input. -/
def dealTellsWrong : ChangeSpec := { name := "dealTells", fn := fun _ => fun
  | [d1, d2, d3, d4, d5] => { results := [.lit (.bool false)], args := [d1, d2, d3, d4, d5] }
  | _ => none }
def DealTellsWrongFalsely : Prop := dealTellsRow.holds Try.pinned (OpenSpec.ofChange dealTellsWrong)

/-- 'narrowslaw07.DealReads': WHATEVER THE INPUT: true; the input reads as it did. -/
def dealReadsSpec : ChangeSpec := { name := "dealReads", fn := fun _ => fun
  | [d] => { results := [.lit (.bool true)], args := [d] }
  | _ => none }
def dealReadsRow : OpenClaim := { program := "ytififfadodjmeaa", sum := "d843658509804ee2cf917d07639185dafee2c0125ca6ac5b3ae3462bea1d7f15", func := "narrows/narrowslaw07.DealReads", spec := "dealReads", unfollowed := true, recurses := true, apart := false }
def DealReadsSaid : Prop := dealReadsRow.holds Try.pinned (OpenSpec.ofChange dealReadsSpec)

/-- ITS FALSE NEIGHBOUR: 'it returns false'. Refute it at one input. -/
def dealReadsWrong : ChangeSpec := { name := "dealReads", fn := fun _ => fun
  | [d] => { results := [.lit (.bool false)], args := [d] }
  | _ => none }
def DealReadsWrongFalsely : Prop := dealReadsRow.holds Try.pinned (OpenSpec.ofChange dealReadsWrong)

/-- 'narrowslaw07.DealBack': WHATEVER THE INPUT: true; the input reads as it did. -/
def dealBackSpec : ChangeSpec := { name := "dealBack", fn := fun _ => fun
  | [d1, d2] => { results := [.lit (.bool true)], args := [d1, d2] }
  | _ => none }
def dealBackRow : OpenClaim := { program := "ytififfadodjmeaa", sum := "d843658509804ee2cf917d07639185dafee2c0125ca6ac5b3ae3462bea1d7f15", func := "narrows/narrowslaw07.DealBack", spec := "dealBack", unfollowed := true, recurses := true, apart := false }
def DealBackSaid : Prop := dealBackRow.holds Try.pinned (OpenSpec.ofChange dealBackSpec)

/-- ITS FALSE NEIGHBOUR: 'it returns false'. Refute it at one input. -/
def dealBackWrong : ChangeSpec := { name := "dealBack", fn := fun _ => fun
  | [d1, d2] => { results := [.lit (.bool false)], args := [d1, d2] }
  | _ => none }
def DealBackWrongFalsely : Prop := dealBackRow.holds Try.pinned (OpenSpec.ofChange dealBackWrong)

/-- 'narrowslaw07.DealPayloads': WHATEVER THE INPUT: true; the input reads as it did. -/
def dealPayloadsSpec : ChangeSpec := { name := "dealPayloads", fn := fun _ => fun
  | [d1, d2, d3] => { results := [.lit (.bool true)], args := [d1, d2, d3] }
  | _ => none }
def dealPayloadsRow : OpenClaim := { program := "ytififfadodjmeaa", sum := "d843658509804ee2cf917d07639185dafee2c0125ca6ac5b3ae3462bea1d7f15", func := "narrows/narrowslaw07.DealPayloads", spec := "dealPayloads", unfollowed := true, recurses := true, apart := false }
def DealPayloadsSaid : Prop := dealPayloadsRow.holds Try.pinned (OpenSpec.ofChange dealPayloadsSpec)

/-- ITS FALSE NEIGHBOUR: 'it returns false'. Refute it at one input. -/
def dealPayloadsWrong : ChangeSpec := { name := "dealPayloads", fn := fun _ => fun
  | [d1, d2, d3] => { results := [.lit (.bool false)], args := [d1, d2, d3] }
  | _ => none }
def DealPayloadsWrongFalsely : Prop := dealPayloadsRow.holds Try.pinned (OpenSpec.ofChange dealPayloadsWrong)

/- THE SECOND FORM. 'bulk': how many values and letters a reading holds, each counted each time it is reached (what is shared counts as often as it is met; a slice's spare places count too). A statement '..UptoSaid' is the law's where the arguments, and the package variables that the reading takes, are together of bulk at most 1048576: NARROWER than '..Said'. Prove '..Said' where nothing that the law and all that it calls make is longer than what came in: it says more and counts as full. Else prove '..UptoSaid'. A law counts once. -/
mutual
def uptoBulk {H : Type} : DataW H → Nat
  | .lit (.string bytes) => bytes.length + 1
  | .lit _ => 1
  | .nil => 1
  | .ptr d => uptoBulk d + 1
  | .slice elems spare => uptoBulkAll elems + uptoBulkAll spare + 1
  | .agg parts => uptoBulkAll parts + 1
  | .iface _ d => uptoBulk d + 1
  | .map entries => uptoBulkEntries entries + 1
  | .held _ => 1
def uptoBulkAll {H : Type} : List (DataW H) → Nat
  | [] => 0
  | d :: r => uptoBulk d + uptoBulkAll r
def uptoBulkEntries {H : Type} : List (Lit × DataW H) → Nat
  | [] => 0
  | x :: r => uptoBulkEntry x + uptoBulkEntries r
def uptoBulkEntry {H : Type} : Lit × DataW H → Nat
  | (.string bytes, d) => bytes.length + uptoBulk d + 1
  | (_, d) => uptoBulk d + 1
 end
def uptoSmall : (H : Type) → List (DataW H) → Bool := fun _ ds => decide (uptoBulkAll ds ≤ 1048576)
def OpenSpec.upto (s : _root_.Go.ChangeSpec) : _root_.Go.OpenSpec := { _root_.Go.OpenSpec.ofChange s with cond := some uptoSmall }

/-- 'narrowslaw07.DealTells', WHERE WHAT IT READS IS OF BULK AT MOST 1048576: true; the input reads as it did. -/
def dealTellsUptoRow : OpenClaim := { program := "ytififfadodjmeaa", sum := "d843658509804ee2cf917d07639185dafee2c0125ca6ac5b3ae3462bea1d7f15", func := "narrows/narrowslaw07.DealTells", spec := "dealTells", unfollowed := true, recurses := true, apart := false, narrowed := true }
def DealTellsUptoSaid : Prop := dealTellsUptoRow.holds Try.pinned (OpenSpec.upto dealTellsSpec)

/-- 'narrowslaw07.DealReads', WHERE WHAT IT READS IS OF BULK AT MOST 1048576: true; the input reads as it did. -/
def dealReadsUptoRow : OpenClaim := { program := "ytififfadodjmeaa", sum := "d843658509804ee2cf917d07639185dafee2c0125ca6ac5b3ae3462bea1d7f15", func := "narrows/narrowslaw07.DealReads", spec := "dealReads", unfollowed := true, recurses := true, apart := false, narrowed := true }
def DealReadsUptoSaid : Prop := dealReadsUptoRow.holds Try.pinned (OpenSpec.upto dealReadsSpec)

/-- 'narrowslaw07.DealBack', WHERE WHAT IT READS IS OF BULK AT MOST 1048576: true; the input reads as it did. -/
def dealBackUptoRow : OpenClaim := { program := "ytififfadodjmeaa", sum := "d843658509804ee2cf917d07639185dafee2c0125ca6ac5b3ae3462bea1d7f15", func := "narrows/narrowslaw07.DealBack", spec := "dealBack", unfollowed := true, recurses := true, apart := false, narrowed := true }
def DealBackUptoSaid : Prop := dealBackUptoRow.holds Try.pinned (OpenSpec.upto dealBackSpec)

/-- 'narrowslaw07.DealPayloads', WHERE WHAT IT READS IS OF BULK AT MOST 1048576: true; the input reads as it did. -/
def dealPayloadsUptoRow : OpenClaim := { program := "ytififfadodjmeaa", sum := "d843658509804ee2cf917d07639185dafee2c0125ca6ac5b3ae3462bea1d7f15", func := "narrows/narrowslaw07.DealPayloads", spec := "dealPayloads", unfollowed := true, recurses := true, apart := false, narrowed := true }
def DealPayloadsUptoSaid : Prop := dealPayloadsUptoRow.holds Try.pinned (OpenSpec.upto dealPayloadsSpec)

end Rows
end Go.Proofs.Ytififfadodjmeaa
