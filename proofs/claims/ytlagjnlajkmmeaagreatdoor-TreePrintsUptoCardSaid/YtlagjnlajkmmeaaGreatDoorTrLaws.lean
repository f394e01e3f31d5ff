/-
The law TreePrints as the card calls it.
-/
import Derived.Test.YtlagjnlajkmmeaaGreatDoorTrOpen
import Derived.Test.YtlagjnlajkmmeaaGreatDoorTrLawC
namespace Go.Proofs.YtlagjnlajkmmeaaGreatDoor
open Go.RowKit

theorem reach_le : reachBytes ≤ 140737488355328 := by have := reachBytes_lt; omega
theorem law_prints {E : World → Prop} (K : TreeOk E reachBytes) (x : Tr) (v : Value) (w : World) (hv : RdN AnyB w x v) (hm : maxT x ≤ reachBytes) (hE : E w) :
    Calls Tryz.prog 3 #[v] w fun e w' => e = .returned (.bool true) ∧ Below w.heap.size w w' :=
  prints_law K (by decide) reach_le x v w hv hm hE
/-- Where no text of the tree is longer than 2^20 bytes. -/
theorem law_prints20 {E : World → Prop} (K : TreeOk E 1048576) (x : Tr) (v : Value) (w : World) (hv : RdN AnyB w x v) (hm : maxT x ≤ 1048576) (hE : E w) :
    Calls Tryz.prog 3 #[v] w fun e w' => e = .returned (.bool true) ∧ Below w.heap.size w w' :=
  prints_law K (by decide) (by decide) x v w hv hm hE
end Go.Proofs.YtlagjnlajkmmeaaGreatDoor
