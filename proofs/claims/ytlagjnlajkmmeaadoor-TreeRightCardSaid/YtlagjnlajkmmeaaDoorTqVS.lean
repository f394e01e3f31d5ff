/-
What the law TreeRight asks of package tree's Same: it holds of its own text.
-/
import Derived.Test.YtlagjnlajkmmeaaDoorTqV
import Derived.Test.YtlagjnlajkmmeaaDoorTrOkS
namespace Go.Proofs.YtlagjnlajkmmeaaDoor
open Go.RowKit
theorem treeSm : TreeSm EnvP := { same := fun x y v u w _ _ _ hv hu => psame_any x y v u w hv hu }
end Go.Proofs.YtlagjnlajkmmeaaDoor
