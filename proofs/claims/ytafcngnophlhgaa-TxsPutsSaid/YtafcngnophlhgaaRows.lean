/-
  No cell of these rows narrows 'for every input' (looked for: loops, veiled, ifaces, maps, wideKeys, modest, calm, conditions, laid).
  DERIVED. THE GIVEN ROWS OF THIS SEAT. 4 by the template 'for every input the law returns true; each argument reads behind the call as it read before'; 0 by the template 'total and deterministic' (their statements: YtafcngnophlhgaaTotals.lean).
  GIVEN WITH THE SEED: the statements are not yours to turn. If you find one false, say at which input.
  Laid BY PROGRAM, IN A SANDBOX (cutbox-rows.mjs): the forced cells as the released guide's own fill.sh prints them over the translation 53a3a17a1ba891e0… (all of the seat's roots in one cut). By AI agents, Wed Nov 11 2026. No macro, syntax, notation, axiom, sorry.
-/
import Derived.Test.YtafcngnophlhgaaChecked
import GoSem.Claim
import GoSem.ClaimJoined
import GoSem.ClaimMapViews
import Derived.JoinedTies
import Derived.KernelRfl
namespace Go.Proofs.Ytafcngnophlhgaa
/- THE CELL 'sum', in the pinned program and in every row, IS THE sha256 OF THE DUMP (.gsa) THAT YtafcngnophlhgaaProg.lean LOADS. Nothing in Lean hashes anything: it is a label: what it is worth is what the hold of that sum in a sandbox is worth. -/
noncomputable def Try.pinned : Pinned := { name := "ytafcngnophlhgaa", sum := "53a3a17a1ba891e0637fc9cc3fcc160c19cfd26492c0d29dbc737033c4bdcaf8", checked := Try.checked }
namespace Rows
def none {H : Type} : Left H := { results := [], args := [] }

/-- 'narrowslaw09.TxsTells': WHATEVER THE INPUT: true; the input reads as it did. -/
def txsTellsSpec : ChangeSpec := { name := "txsTells", fn := fun _ => fun
  | [d1, d2] => { results := [.lit (.bool true)], args := [d1, d2] }
  | _ => none }
def txsTellsRow : OpenClaim := { program := "ytafcngnophlhgaa", sum := "53a3a17a1ba891e0637fc9cc3fcc160c19cfd26492c0d29dbc737033c4bdcaf8", func := "narrows/narrowslaw09.TxsTells", spec := "txsTells", unfollowed := true, recurses := true, apart := false }
def TxsTellsSaid : Prop := txsTellsRow.holds Try.pinned (OpenSpec.ofChange txsTellsSpec)

/-- ITS FALSE NEIGHBOUR: 'it returns false'. Refute it at one input. -/
def txsTellsWrong : ChangeSpec := { name := "txsTells", fn := fun _ => fun
  | [d1, d2] => { results := [.lit (.bool false)], args := [d1, d2] }
  | _ => none }
def TxsTellsWrongFalsely : Prop := txsTellsRow.holds Try.pinned (OpenSpec.ofChange txsTellsWrong)

/-- 'narrowslaw09.TxsReads': WHATEVER THE INPUT: true; the input reads as it did. -/
def txsReadsSpec : ChangeSpec := { name := "txsReads", fn := fun _ => fun
  | [d] => { results := [.lit (.bool true)], args := [d] }
  | _ => none }
def txsReadsRow : OpenClaim := { program := "ytafcngnophlhgaa", sum := "53a3a17a1ba891e0637fc9cc3fcc160c19cfd26492c0d29dbc737033c4bdcaf8", func := "narrows/narrowslaw09.TxsReads", spec := "txsReads", unfollowed := true, recurses := true, apart := false }
def TxsReadsSaid : Prop := txsReadsRow.holds Try.pinned (OpenSpec.ofChange txsReadsSpec)

/-- ITS FALSE NEIGHBOUR: 'it returns false'. Refute it at one input. -/
def txsReadsWrong : ChangeSpec := { name := "txsReads", fn := fun _ => fun
  | [d] => { results := [.lit (.bool false)], args := [d] }
  | _ => none }
def TxsReadsWrongFalsely : Prop := txsReadsRow.holds Try.pinned (OpenSpec.ofChange txsReadsWrong)

/-- 'narrowslaw09.TxsBack': WHATEVER THE INPUT: true; the input reads as it did. -/
def txsBackSpec : ChangeSpec := { name := "txsBack", fn := fun _ => fun
  | [d1, d2] => { results := [.lit (.bool true)], args := [d1, d2] }
  | _ => none }
def txsBackRow : OpenClaim := { program := "ytafcngnophlhgaa", sum := "53a3a17a1ba891e0637fc9cc3fcc160c19cfd26492c0d29dbc737033c4bdcaf8", func := "narrows/narrowslaw09.TxsBack", spec := "txsBack", unfollowed := true, recurses := true, apart := false }
def TxsBackSaid : Prop := txsBackRow.holds Try.pinned (OpenSpec.ofChange txsBackSpec)

/-- ITS FALSE NEIGHBOUR: 'it returns false'. Refute it at one input. -/
def txsBackWrong : ChangeSpec := { name := "txsBack", fn := fun _ => fun
  | [d1, d2] => { results := [.lit (.bool false)], args := [d1, d2] }
  | _ => none }
def TxsBackWrongFalsely : Prop := txsBackRow.holds Try.pinned (OpenSpec.ofChange txsBackWrong)

/-- 'narrowslaw09.TxsPuts': WHATEVER THE INPUT: true; the input reads as it did. -/
def txsPutsSpec : ChangeSpec := { name := "txsPuts", fn := fun _ => fun
  | [d] => { results := [.lit (.bool true)], args := [d] }
  | _ => none }
def txsPutsRow : OpenClaim := { program := "ytafcngnophlhgaa", sum := "53a3a17a1ba891e0637fc9cc3fcc160c19cfd26492c0d29dbc737033c4bdcaf8", func := "narrows/narrowslaw09.TxsPuts", spec := "txsPuts", unfollowed := true, recurses := true, apart := false }
def TxsPutsSaid : Prop := txsPutsRow.holds Try.pinned (OpenSpec.ofChange txsPutsSpec)

/-- ITS FALSE NEIGHBOUR: 'it returns false'. Refute it at one input. -/
def txsPutsWrong : ChangeSpec := { name := "txsPuts", fn := fun _ => fun
  | [d] => { results := [.lit (.bool false)], args := [d] }
  | _ => none }
def TxsPutsWrongFalsely : Prop := txsPutsRow.holds Try.pinned (OpenSpec.ofChange txsPutsWrong)

/- THE SECOND FORM. 'bulk': how many values and letters a reading holds, each counted each time it is reached (what is shared counts as often as it is met; a slice's spare places count too). A statement '..UptoSaid' is the law's where the arguments, and the package variables that the reading takes, are together of bulk at most 1048576: NARROWER than '..Said'. Prove '..Said' where nothing that the law and all that it calls make is longer than what came in: it says more and counts as full. Else prove '..UptoSaid'. A law counts once. -/
mutual
def uptoBulk {H : Type} : DataW H → Nat
  | .lit (.string bytes) => bytes.length + 1
  | .lit _ => 1
  | .nil => 1
  | .ptr d => uptoBulk d + 1
  | .slice elems spare => uptoBulkAll elems + uptoBulkAll spare + 1
  | .agg parts => uptoBulkAll parts + 1
  | .iface _ d => uptoBulk d + 1
  | .map entries => uptoBulkEntries entries + 1
  | .held _ => 1
def uptoBulkAll {H : Type} : List (DataW H) → Nat
  | [] => 0
  | d :: r => uptoBulk d + uptoBulkAll r
def uptoBulkEntries {H : Type} : List (Lit × DataW H) → Nat
  | [] => 0
  | x :: r => uptoBulkEntry x + uptoBulkEntries r
def uptoBulkEntry {H : Type} : Lit × DataW H → Nat
  | (.string bytes, d) => bytes.length + uptoBulk d + 1
  | (_, d) => uptoBulk d + 1
 end
def uptoSmall : (H : Type) → List (DataW H) → Bool := fun _ ds => decide (uptoBulkAll ds ≤ 1048576)
def OpenSpec.upto (s : _root_.Go.ChangeSpec) : _root_.Go.OpenSpec := { _root_.Go.OpenSpec.ofChange s with cond := some uptoSmall }

/-- 'narrowslaw09.TxsTells', WHERE WHAT IT READS IS OF BULK AT MOST 1048576: true; the input reads as it did. -/
def txsTellsUptoRow : OpenClaim := { program := "ytafcngnophlhgaa", sum := "53a3a17a1ba891e0637fc9cc3fcc160c19cfd26492c0d29dbc737033c4bdcaf8", func := "narrows/narrowslaw09.TxsTells", spec := "txsTells", unfollowed := true, recurses := true, apart := false, narrowed := true }
def TxsTellsUptoSaid : Prop := txsTellsUptoRow.holds Try.pinned (OpenSpec.upto txsTellsSpec)

/-- 'narrowslaw09.TxsReads', WHERE WHAT IT READS IS OF BULK AT MOST 1048576: true; the input reads as it did. -/
def txsReadsUptoRow : OpenClaim := { program := "ytafcngnophlhgaa", sum := "53a3a17a1ba891e0637fc9cc3fcc160c19cfd26492c0d29dbc737033c4bdcaf8", func := "narrows/narrowslaw09.TxsReads", spec := "txsReads", unfollowed := true, recurses := true, apart := false, narrowed := true }
def TxsReadsUptoSaid : Prop := txsReadsUptoRow.holds Try.pinned (OpenSpec.upto txsReadsSpec)

/-- 'narrowslaw09.TxsBack', WHERE WHAT IT READS IS OF BULK AT MOST 1048576: true; the input reads as it did. -/
def txsBackUptoRow : OpenClaim := { program := "ytafcngnophlhgaa", sum := "53a3a17a1ba891e0637fc9cc3fcc160c19cfd26492c0d29dbc737033c4bdcaf8", func := "narrows/narrowslaw09.TxsBack", spec := "txsBack", unfollowed := true, recurses := true, apart := false, narrowed := true }
def TxsBackUptoSaid : Prop := txsBackUptoRow.holds Try.pinned (OpenSpec.upto txsBackSpec)

/-- 'narrowslaw09.TxsPuts', WHERE WHAT IT READS IS OF BULK AT MOST 1048576: true; the input reads as it did. -/
def txsPutsUptoRow : OpenClaim := { program := "ytafcngnophlhgaa", sum := "53a3a17a1ba891e0637fc9cc3fcc160c19cfd26492c0d29dbc737033c4bdcaf8", func := "narrows/narrowslaw09.TxsPuts", spec := "txsPuts", unfollowed := true, recurses := true, apart := false, narrowed := true }
def TxsPutsUptoSaid : Prop := txsPutsUptoRow.holds Try.pinned (OpenSpec.upto txsPutsSpec)

end Rows
end Go.Proofs.Ytafcngnophlhgaa
