/-
The reference of stage 9: Same, by a contract.
-/
import Derived.Test.YtlagjnlajkmmeaaGreatDoorTrRight
import Derived.Test.YtlagjnlajkmmeaaGreatDoorBHeld
namespace Go.Proofs.YtlagjnlajkmmeaaGreatDoor
open Go.RowKit

theorem sameL_drop {l m : List Tr} {i : Nat} {x y : Tr} (h : l[i]? = some x) (h2 : m[i]? = some y) : sameL (l.drop i) (m.drop i) = (sameF x y && sameL (l.drop (i + 1)) (m.drop (i + 1))) := by
  rw [drop_at h, drop_at h2]
  conv => lhs; unfold sameL
theorem int_ne {a b : Int} (h : a ≠ b) : (a == b) = false ∧ (a != b) = true := by
  have : (a == b) = false := beq_eq_false_iff_ne.2 h
  exact ⟨this, by simp [bne, this]⟩

end Go.Proofs.YtlagjnlajkmmeaaGreatDoor
