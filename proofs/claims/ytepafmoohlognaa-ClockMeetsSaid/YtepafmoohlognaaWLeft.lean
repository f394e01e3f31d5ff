/-
What is left behind a value that is read. Of no function of the program.
-/
import Derived.Test.YtepafmoohlognaaWMath
namespace Go.Proofs.Ytepafmoohlognaa
open Wire (numL valL takeL runL bytesL)

theorem valL_step {b : List Nat} {k x : Nat} (h : b[k]? = some x) : valL (b.take (k + 1)) = valL (b.take k) + 128 ^ k * (x % 128) := by
  have hk := (List.getElem?_eq_some_iff.1 h).1
  rw [List.take_add_one, h]
  show valL (b.take k ++ [x]) = _
  rw [Wire.valL_snoc, show (b.take k).length = k from by simp; omega]

/-- What is left, and whether it has failed, behind a value of m bytes (0: there is none). -/
def leftS (xs : List Nat) (bad : Bool) (m : Nat) : List Nat × Bool := if m = 0 then ([], true) else (xs.drop m, bad)
/-- How many bytes an integer has that is at most most; 0: there is none. -/
noncomputable def intN (xs : List Nat) (most : Int) : Nat := if (takeL xs).2 = 0 ∨ most < ((takeL xs).1 : Int) then 0 else (takeL xs).2
noncomputable def intV (xs : List Nat) (most : Int) : Nat := if (takeL xs).2 = 0 ∨ most < ((takeL xs).1 : Int) then 0 else (takeL xs).1
end Go.Proofs.Ytepafmoohlognaa
