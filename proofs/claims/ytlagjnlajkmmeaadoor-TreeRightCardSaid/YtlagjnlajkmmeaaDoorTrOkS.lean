/-
What the law TreeRight asks of package tree's Same.
-/
import Derived.Test.YtlagjnlajkmmeaaDoorTrOk
namespace Go.Proofs.YtlagjnlajkmmeaaDoor
open Go.RowKit
structure TreeSm (E : World → Prop) : Prop where
  same : ∀ (x y : Tr) v u w, E w → nodes x ≤ 200 → nodes y ≤ 200 → RdN AnyB w x v → RdN AnyB w y u → Calls Tryd.prog 18 #[v, u] w fun e w' => e = .returned (.bool (sameF x y)) ∧ Below w.heap.size w w'
end Go.Proofs.YtlagjnlajkmmeaaDoor
