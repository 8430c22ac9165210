/-
  No cell of these rows narrows 'for every input' (looked for: loops, veiled, ifaces, maps, wideKeys, modest, calm, conditions, laid).
  DERIVED. THE GIVEN ROWS OF THIS SEAT. 3 by the template 'for every input the law returns true; each argument reads behind the call as it read before'; 0 by the template 'total and deterministic' (their statements: YtechcdkakgpnkaaGreatTotals.lean).
  GIVEN WITH THE SEED: the statements are not yours to turn. If you find one false, say at which input.
  Laid BY PROGRAM, IN A SANDBOX (cutbox-rows.mjs): the forced cells as the released guide's own fill.sh prints them over the translation 4d483935c39ef3f9… (all of the seat's roots in one cut). By AI agents, Wed Nov 11 2026. No macro, syntax, notation, axiom, sorry.
-/
import Derived.Test.YtechcdkakgpnkaaGreatChecked
import GoSem.Claim
import GoSem.ClaimJoined
import GoSem.ClaimMapViews
import Derived.JoinedTies
import Derived.KernelRfl
namespace Go.Proofs.YtechcdkakgpnkaaGreat
/- THE CELL 'sum', in the pinned program and in every row, IS THE sha256 OF THE DUMP (.gsa) THAT YtechcdkakgpnkaaGreatProg.lean LOADS. Nothing in Lean hashes anything: it is a label: what it is worth is what the hold of that sum in a sandbox is worth. -/
noncomputable def Tryz.pinned : Pinned := { name := "ytechcdkakgpnkaagreat", sum := "4d483935c39ef3f9ccdc68eae4b85a6429f3733e50e274909dcf0c8d9fbc85c0", checked := Tryz.checked }
namespace Rows
def none {H : Type} : Left H := { results := [], args := [] }

/-- 'narrowslaw22.RelayHears': WHATEVER THE INPUT: true; the input reads as it did. -/
def relayHearsSpec : ChangeSpec := { name := "relayHears", fn := fun _ => fun
  | [d1, d2] => { results := [.lit (.bool true)], args := [d1, d2] }
  | _ => none }
def relayHearsRow : OpenClaim := { program := "ytechcdkakgpnkaagreat", sum := "4d483935c39ef3f9ccdc68eae4b85a6429f3733e50e274909dcf0c8d9fbc85c0", func := "narrows/narrowslaw22.RelayHears", spec := "relayHears", inPlace := ["internal/abi.NoEscape", "internal/bytealg.MakeNoZero"], unfollowed := true, recurses := true, apart := false }
def RelayHearsSaid : Prop := relayHearsRow.holds Tryz.pinned (OpenSpec.ofChange relayHearsSpec)

/-- ITS FALSE NEIGHBOUR: 'it returns false'. Refute it at one input. -/
def relayHearsWrong : ChangeSpec := { name := "relayHears", fn := fun _ => fun
  | [d1, d2] => { results := [.lit (.bool false)], args := [d1, d2] }
  | _ => none }
def RelayHearsWrongFalsely : Prop := relayHearsRow.holds Tryz.pinned (OpenSpec.ofChange relayHearsWrong)

/-- 'narrowslaw22.RelayDoes': WHATEVER THE INPUT: true; the input reads as it did. -/
def relayDoesSpec : ChangeSpec := { name := "relayDoes", fn := fun _ => fun
  | [d1, d2, d3, d4] => { results := [.lit (.bool true)], args := [d1, d2, d3, d4] }
  | _ => none }
def relayDoesRow : OpenClaim := { program := "ytechcdkakgpnkaagreat", sum := "4d483935c39ef3f9ccdc68eae4b85a6429f3733e50e274909dcf0c8d9fbc85c0", func := "narrows/narrowslaw22.RelayDoes", spec := "relayDoes", inPlace := ["internal/abi.NoEscape", "internal/bytealg.MakeNoZero", "math/bits.Sub64", "math/bits.Add64"], unfollowed := true, recurses := true, apart := false }
def RelayDoesSaid : Prop := relayDoesRow.holds Tryz.pinned (OpenSpec.ofChange relayDoesSpec)

/-- ITS FALSE NEIGHBOUR: 'it returns false'. Refute it at one input. -/
def relayDoesWrong : ChangeSpec := { name := "relayDoes", fn := fun _ => fun
  | [d1, d2, d3, d4] => { results := [.lit (.bool false)], args := [d1, d2, d3, d4] }
  | _ => none }
def RelayDoesWrongFalsely : Prop := relayDoesRow.holds Tryz.pinned (OpenSpec.ofChange relayDoesWrong)

/-- 'narrowslaw22.RelayKeeps': WHATEVER THE INPUT: true; the input reads as it did. -/
def relayKeepsSpec : ChangeSpec := { name := "relayKeeps", fn := fun _ => fun
  | [d] => { results := [.lit (.bool true)], args := [d] }
  | _ => none }
def relayKeepsRow : OpenClaim := { program := "ytechcdkakgpnkaagreat", sum := "4d483935c39ef3f9ccdc68eae4b85a6429f3733e50e274909dcf0c8d9fbc85c0", func := "narrows/narrowslaw22.RelayKeeps", spec := "relayKeeps", inPlace := ["internal/abi.NoEscape", "internal/bytealg.MakeNoZero"], unfollowed := true, recurses := true, apart := false }
def RelayKeepsSaid : Prop := relayKeepsRow.holds Tryz.pinned (OpenSpec.ofChange relayKeepsSpec)

/-- ITS FALSE NEIGHBOUR: 'it returns false'. Refute it at one input. -/
def relayKeepsWrong : ChangeSpec := { name := "relayKeeps", fn := fun _ => fun
  | [d] => { results := [.lit (.bool false)], args := [d] }
  | _ => none }
def RelayKeepsWrongFalsely : Prop := relayKeepsRow.holds Tryz.pinned (OpenSpec.ofChange relayKeepsWrong)

/- THE SECOND FORM. 'bulk': how many values and letters a reading holds, each counted each time it is reached (what is shared counts as often as it is met; a slice's spare places count too). A statement '..UptoSaid' is the law's where the arguments, and the package variables that the reading takes, are together of bulk at most 1048576: NARROWER than '..Said'. Prove '..Said' where nothing that the law and all that it calls make is longer than what came in: it says more and counts as full. Else prove '..UptoSaid'. A law counts once. -/
mutual
def uptoBulk {H : Type} : DataW H → Nat
  | .lit (.string bytes) => bytes.length + 1
  | .lit _ => 1
  | .nil => 1
  | .ptr d => uptoBulk d + 1
  | .slice elems spare => uptoBulkAll elems + uptoBulkAll spare + 1
  | .agg parts => uptoBulkAll parts + 1
  | .iface _ d => uptoBulk d + 1
  | .map entries => uptoBulkEntries entries + 1
  | .held _ => 1
def uptoBulkAll {H : Type} : List (DataW H) → Nat
  | [] => 0
  | d :: r => uptoBulk d + uptoBulkAll r
def uptoBulkEntries {H : Type} : List (Lit × DataW H) → Nat
  | [] => 0
  | x :: r => uptoBulkEntry x + uptoBulkEntries r
def uptoBulkEntry {H : Type} : Lit × DataW H → Nat
  | (.string bytes, d) => bytes.length + uptoBulk d + 1
  | (_, d) => uptoBulk d + 1
 end
def uptoSmall : (H : Type) → List (DataW H) → Bool := fun _ ds => decide (uptoBulkAll ds ≤ 1048576)
def OpenSpec.upto (s : _root_.Go.ChangeSpec) : _root_.Go.OpenSpec := { _root_.Go.OpenSpec.ofChange s with cond := some uptoSmall }

/-- 'narrowslaw22.RelayHears', WHERE WHAT IT READS IS OF BULK AT MOST 1048576: true; the input reads as it did. -/
def relayHearsUptoRow : OpenClaim := { program := "ytechcdkakgpnkaagreat", sum := "4d483935c39ef3f9ccdc68eae4b85a6429f3733e50e274909dcf0c8d9fbc85c0", func := "narrows/narrowslaw22.RelayHears", spec := "relayHears", inPlace := ["internal/abi.NoEscape", "internal/bytealg.MakeNoZero"], unfollowed := true, recurses := true, apart := false, narrowed := true }
def RelayHearsUptoSaid : Prop := relayHearsUptoRow.holds Tryz.pinned (OpenSpec.upto relayHearsSpec)

/-- 'narrowslaw22.RelayDoes', WHERE WHAT IT READS IS OF BULK AT MOST 1048576: true; the input reads as it did. -/
def relayDoesUptoRow : OpenClaim := { program := "ytechcdkakgpnkaagreat", sum := "4d483935c39ef3f9ccdc68eae4b85a6429f3733e50e274909dcf0c8d9fbc85c0", func := "narrows/narrowslaw22.RelayDoes", spec := "relayDoes", inPlace := ["internal/abi.NoEscape", "internal/bytealg.MakeNoZero", "math/bits.Sub64", "math/bits.Add64"], unfollowed := true, recurses := true, apart := false, narrowed := true }
def RelayDoesUptoSaid : Prop := relayDoesUptoRow.holds Tryz.pinned (OpenSpec.upto relayDoesSpec)

/-- 'narrowslaw22.RelayKeeps', WHERE WHAT IT READS IS OF BULK AT MOST 1048576: true; the input reads as it did. -/
def relayKeepsUptoRow : OpenClaim := { program := "ytechcdkakgpnkaagreat", sum := "4d483935c39ef3f9ccdc68eae4b85a6429f3733e50e274909dcf0c8d9fbc85c0", func := "narrows/narrowslaw22.RelayKeeps", spec := "relayKeeps", inPlace := ["internal/abi.NoEscape", "internal/bytealg.MakeNoZero"], unfollowed := true, recurses := true, apart := false, narrowed := true }
def RelayKeepsUptoSaid : Prop := relayKeepsUptoRow.holds Tryz.pinned (OpenSpec.upto relayKeepsSpec)

end Rows
end Go.Proofs.YtechcdkakgpnkaaGreat
