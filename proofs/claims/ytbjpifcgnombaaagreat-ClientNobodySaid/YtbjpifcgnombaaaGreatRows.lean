/-
  No cell of these rows narrows 'for every input' (looked for: loops, veiled, ifaces, maps, wideKeys, modest, calm, conditions, laid).
  DERIVED. THE GIVEN ROWS OF THIS SEAT. 3 by the template 'for every input the law returns true; each argument reads behind the call as it read before'; 0 by the template 'total and deterministic' (their statements: YtbjpifcgnombaaaGreatTotals.lean).
  GIVEN WITH THE SEED: the statements are not yours to turn. If you find one false, say at which input.
  Laid BY PROGRAM, IN A SANDBOX (cutbox-rows.mjs): the forced cells as the released guide's own fill.sh prints them over the translation eb17cc4edbbdd04f… (all of the seat's roots in one cut). By AI agents, Wed Nov 11 2026. No macro, syntax, notation, axiom, sorry.
-/
import Derived.Test.YtbjpifcgnombaaaGreatChecked
import GoSem.Claim
import GoSem.ClaimJoined
import GoSem.ClaimMapViews
import Derived.JoinedTies
import Derived.KernelRfl
namespace Go.Proofs.YtbjpifcgnombaaaGreat
/- THE CELL 'sum', in the pinned program and in every row, IS THE sha256 OF THE DUMP (.gsa) THAT YtbjpifcgnombaaaGreatProg.lean LOADS. Nothing in Lean hashes anything: it is a label: what it is worth is what the hold of that sum in a sandbox is worth. -/
noncomputable def Tryz.pinned : Pinned := { name := "ytbjpifcgnombaaagreat", sum := "eb17cc4edbbdd04f519f299714f352d5b2fbd5c978817ba469acc41f4df4d7e6", checked := Tryz.checked }
namespace Rows
def none {H : Type} : Left H := { results := [], args := [] }

/-- 'narrowslaw20.ClientDeals': WHATEVER THE INPUT: true; the input reads as it did. -/
def clientDealsSpec : ChangeSpec := { name := "clientDeals", fn := fun _ => fun
  | [d1, d2, d3, d4] => { results := [.lit (.bool true)], args := [d1, d2, d3, d4] }
  | _ => none }
def clientDealsRow : OpenClaim := { program := "ytbjpifcgnombaaagreat", sum := "eb17cc4edbbdd04f519f299714f352d5b2fbd5c978817ba469acc41f4df4d7e6", func := "narrows/narrowslaw20.ClientDeals", spec := "clientDeals", inPlace := ["internal/abi.NoEscape", "internal/bytealg.MakeNoZero", "math/bits.Sub64", "math/bits.Add64"], unfollowed := true, recurses := true, apart := false }
def ClientDealsSaid : Prop := clientDealsRow.holds Tryz.pinned (OpenSpec.ofChange clientDealsSpec)

/-- ITS FALSE NEIGHBOUR: 'it returns false'. Refute it at one input. -/
def clientDealsWrong : ChangeSpec := { name := "clientDeals", fn := fun _ => fun
  | [d1, d2, d3, d4] => { results := [.lit (.bool false)], args := [d1, d2, d3, d4] }
  | _ => none }
def ClientDealsWrongFalsely : Prop := clientDealsRow.holds Tryz.pinned (OpenSpec.ofChange clientDealsWrong)

/-- 'narrowslaw20.ClientFalls': WHATEVER THE INPUT: true; the input reads as it did. -/
def clientFallsSpec : ChangeSpec := { name := "clientFalls", fn := fun _ => fun
  | [d1, d2, d3, d4] => { results := [.lit (.bool true)], args := [d1, d2, d3, d4] }
  | _ => none }
def clientFallsRow : OpenClaim := { program := "ytbjpifcgnombaaagreat", sum := "eb17cc4edbbdd04f519f299714f352d5b2fbd5c978817ba469acc41f4df4d7e6", func := "narrows/narrowslaw20.ClientFalls", spec := "clientFalls", inPlace := ["internal/abi.NoEscape", "internal/bytealg.MakeNoZero", "math/bits.Sub64", "math/bits.Add64"], unfollowed := true, recurses := true, apart := false }
def ClientFallsSaid : Prop := clientFallsRow.holds Tryz.pinned (OpenSpec.ofChange clientFallsSpec)

/-- ITS FALSE NEIGHBOUR: 'it returns false'. Refute it at one input. -/
def clientFallsWrong : ChangeSpec := { name := "clientFalls", fn := fun _ => fun
  | [d1, d2, d3, d4] => { results := [.lit (.bool false)], args := [d1, d2, d3, d4] }
  | _ => none }
def ClientFallsWrongFalsely : Prop := clientFallsRow.holds Tryz.pinned (OpenSpec.ofChange clientFallsWrong)

/-- 'narrowslaw20.ClientNobody': WHATEVER THE INPUT: true; the input reads as it did. -/
def clientNobodySpec : ChangeSpec := { name := "clientNobody", fn := fun _ => fun
  | [d1, d2, d3] => { results := [.lit (.bool true)], args := [d1, d2, d3] }
  | _ => none }
def clientNobodyRow : OpenClaim := { program := "ytbjpifcgnombaaagreat", sum := "eb17cc4edbbdd04f519f299714f352d5b2fbd5c978817ba469acc41f4df4d7e6", func := "narrows/narrowslaw20.ClientNobody", spec := "clientNobody", inPlace := ["internal/abi.NoEscape", "internal/bytealg.MakeNoZero"], unfollowed := true, recurses := true, apart := false }
def ClientNobodySaid : Prop := clientNobodyRow.holds Tryz.pinned (OpenSpec.ofChange clientNobodySpec)

/-- ITS FALSE NEIGHBOUR: 'it returns false'. Refute it at one input. -/
def clientNobodyWrong : ChangeSpec := { name := "clientNobody", fn := fun _ => fun
  | [d1, d2, d3] => { results := [.lit (.bool false)], args := [d1, d2, d3] }
  | _ => none }
def ClientNobodyWrongFalsely : Prop := clientNobodyRow.holds Tryz.pinned (OpenSpec.ofChange clientNobodyWrong)

/- THE SECOND FORM. 'bulk': how many values and letters a reading holds, each counted each time it is reached (what is shared counts as often as it is met; a slice's spare places count too). A statement '..UptoSaid' is the law's where the arguments, and the package variables that the reading takes, are together of bulk at most 1048576: NARROWER than '..Said'. Prove '..Said' where nothing that the law and all that it calls make is longer than what came in: it says more and counts as full. Else prove '..UptoSaid'. A law counts once. -/
mutual
def uptoBulk {H : Type} : DataW H → Nat
  | .lit (.string bytes) => bytes.length + 1
  | .lit _ => 1
  | .nil => 1
  | .ptr d => uptoBulk d + 1
  | .slice elems spare => uptoBulkAll elems + uptoBulkAll spare + 1
  | .agg parts => uptoBulkAll parts + 1
  | .iface _ d => uptoBulk d + 1
  | .map entries => uptoBulkEntries entries + 1
  | .held _ => 1
def uptoBulkAll {H : Type} : List (DataW H) → Nat
  | [] => 0
  | d :: r => uptoBulk d + uptoBulkAll r
def uptoBulkEntries {H : Type} : List (Lit × DataW H) → Nat
  | [] => 0
  | x :: r => uptoBulkEntry x + uptoBulkEntries r
def uptoBulkEntry {H : Type} : Lit × DataW H → Nat
  | (.string bytes, d) => bytes.length + uptoBulk d + 1
  | (_, d) => uptoBulk d + 1
 end
def uptoSmall : (H : Type) → List (DataW H) → Bool := fun _ ds => decide (uptoBulkAll ds ≤ 1048576)
def OpenSpec.upto (s : _root_.Go.ChangeSpec) : _root_.Go.OpenSpec := { _root_.Go.OpenSpec.ofChange s with cond := some uptoSmall }

/-- 'narrowslaw20.ClientDeals', WHERE WHAT IT READS IS OF BULK AT MOST 1048576: true; the input reads as it did. -/
def clientDealsUptoRow : OpenClaim := { program := "ytbjpifcgnombaaagreat", sum := "eb17cc4edbbdd04f519f299714f352d5b2fbd5c978817ba469acc41f4df4d7e6", func := "narrows/narrowslaw20.ClientDeals", spec := "clientDeals", inPlace := ["internal/abi.NoEscape", "internal/bytealg.MakeNoZero", "math/bits.Sub64", "math/bits.Add64"], unfollowed := true, recurses := true, apart := false, narrowed := true }
def ClientDealsUptoSaid : Prop := clientDealsUptoRow.holds Tryz.pinned (OpenSpec.upto clientDealsSpec)

/-- 'narrowslaw20.ClientFalls', WHERE WHAT IT READS IS OF BULK AT MOST 1048576: true; the input reads as it did. -/
def clientFallsUptoRow : OpenClaim := { program := "ytbjpifcgnombaaagreat", sum := "eb17cc4edbbdd04f519f299714f352d5b2fbd5c978817ba469acc41f4df4d7e6", func := "narrows/narrowslaw20.ClientFalls", spec := "clientFalls", inPlace := ["internal/abi.NoEscape", "internal/bytealg.MakeNoZero", "math/bits.Sub64", "math/bits.Add64"], unfollowed := true, recurses := true, apart := false, narrowed := true }
def ClientFallsUptoSaid : Prop := clientFallsUptoRow.holds Tryz.pinned (OpenSpec.upto clientFallsSpec)

/-- 'narrowslaw20.ClientNobody', WHERE WHAT IT READS IS OF BULK AT MOST 1048576: true; the input reads as it did. -/
def clientNobodyUptoRow : OpenClaim := { program := "ytbjpifcgnombaaagreat", sum := "eb17cc4edbbdd04f519f299714f352d5b2fbd5c978817ba469acc41f4df4d7e6", func := "narrows/narrowslaw20.ClientNobody", spec := "clientNobody", inPlace := ["internal/abi.NoEscape", "internal/bytealg.MakeNoZero"], unfollowed := true, recurses := true, apart := false, narrowed := true }
def ClientNobodyUptoSaid : Prop := clientNobodyUptoRow.holds Tryz.pinned (OpenSpec.upto clientNobodySpec)

end Rows
end Go.Proofs.YtbjpifcgnombaaaGreat
