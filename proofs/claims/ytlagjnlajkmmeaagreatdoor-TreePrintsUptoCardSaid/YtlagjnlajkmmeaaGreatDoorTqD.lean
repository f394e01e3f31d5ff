/-
Package tree's own text: equal and Same of trees whose node has 6 cells, by contracts.
-/
import Derived.Test.YtlagjnlajkmmeaaGreatDoorTqC
import Derived.Test.YtlagjnlajkmmeaaGreatDoorTrSame
import Derived.Defers
import Derived.Recover
namespace Go.Proofs.YtlagjnlajkmmeaaGreatDoor
open Go.RowKit

end Go.Proofs.YtlagjnlajkmmeaaGreatDoor
