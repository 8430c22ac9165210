/-
  A region that draws, inside a fence of activations: operation by operation.
-/
import Derived.OrdersIn
import Derived.WalkKit
import Derived.CallsIn
import Derived.TacticsInMore
namespace Go.Proofs.Ytneilnfjnbecbaa
open Go.RowKit

theorem wpIn_fence_any {F : Fence} {n id : Nat} {P : Program} {Q : Exit → Act → World → Prop} {a : Act} {w : World} {l : List Oper} (hm : P.follows .mixedOrders = true)
    (h : wpAnyIn F n P .any l.toArray (Exit.then (fun a w => Q .normal a w) (fun _ _ _ => False)) l.length (Array.replicate l.length false) a w.drew) : (Code.region id l.toArray true).wpIn F n P Q a w := by
  refine wpIn_mono (wpIn_region_any (Q := Exit.then (fun a w => Q .normal a w) (fun _ _ _ => False)) hm (by simpa using h)) ?_
  intro e a w hq
  cases e <;> first | exact hq | exact hq.elim
end Go.Proofs.Ytneilnfjnbecbaa
