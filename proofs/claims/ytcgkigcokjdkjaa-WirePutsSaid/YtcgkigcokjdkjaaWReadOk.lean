/-
What the laws of stage 4 ask of a Reader: its contracts, over whatever says that block g is a Reader.
-/
import Derived.Test.YtcgkigcokjdkjaaWWrite2
import Derived.Test.YtcgkigcokjdkjaaWRun
namespace Go.Proofs.Ytcgkigcokjdkjaa
open Go.RowKit
open Wire (numL valL takeL runL bytesL)

/-- What is left, and whether it has failed, behind a value of m bytes (0: there is none). -/
def leftS (xs : List Nat) (bad : Bool) (m : Nat) : List Nat × Bool := if m = 0 then ([], true) else (xs.drop m, bad)
/-- How many bytes an integer has that is at most most; 0: there is none. -/
noncomputable def intN (xs : List Nat) (most : Int) : Nat := if (takeL xs).2 = 0 ∨ most < ((takeL xs).1 : Int) then 0 else (takeL xs).2
noncomputable def intV (xs : List Nat) (most : Int) : Nat := if (takeL xs).2 = 0 ∨ most < ((takeL xs).1 : Int) then 0 else (takeL xs).1

structure ReaderOk (R : Nat → World → Nat → List Nat → Bool → Prop) : Prop where
  keep : ∀ {B w w' g xs bad}, R B w g xs bad → Below w.heap.size w w' → R B w' g xs bad
  base : ∀ {B B' w g xs bad}, R B w g xs bad → B' ≤ B → R B' w g xs bad
  fails : ∀ {B w g xs bad}, R B w g xs bad → bad = true → xs = []
  read : ∀ (v : Value) (xs : List Nat) (w : World), Rd w v xs → xs.length ≤ 100000 → (∀ x ∈ xs, x < 256) →
    Calls Try.prog 13 #[v] w fun e w' => ∃ g, e = .returned (.pointer (some ⟨g, 0, none⟩)) ∧ R w.heap.size w' g xs false ∧ Below w.heap.size w w'
  num : ∀ (B g : Nat) (xs : List Nat) (bad : Bool) (w : World), R B w g xs bad → B ≤ w.heap.size → xs.length ≤ 100000 → (∀ x ∈ xs, x < 256) →
    Calls Try.prog 16 #[.pointer (some ⟨g, 0, none⟩)] w fun e w' => e = .returned (.int .u64 ((takeL xs).1 : Nat)) ∧ R B w' g (leftS xs bad (takeL xs).2).1 (leftS xs bad (takeL xs).2).2 ∧ Below B w w'
  int : ∀ (B g : Nat) (xs : List Nat) (bad : Bool) (most : Int) (w : World), R B w g xs bad → B ≤ w.heap.size → xs.length ≤ 100000 → (∀ x ∈ xs, x < 256) → -9223372036854775808 ≤ most → most ≤ 9223372036854775807 →
    Calls Try.prog 17 #[.pointer (some ⟨g, 0, none⟩), .int .i64 most] w fun e w' => e = .returned (.int .i64 (intV xs most : Nat)) ∧ R B w' g (leftS xs bad (intN xs most)).1 (leftS xs bad (intN xs most)).2 ∧ Below B w w'
  bytes : ∀ (B g : Nat) (xs : List Nat) (bad : Bool) (w : World), R B w g xs bad → B ≤ w.heap.size → xs.length ≤ 100000 → (∀ x ∈ xs, x < 256) →
    Calls Try.prog 18 #[.pointer (some ⟨g, 0, none⟩)] w fun e w' => ∃ v', e = .returned v' ∧ Rd w' v' (runL xs).1 ∧ R B w' g (leftS xs bad (runL xs).2).1 (leftS xs bad (runL xs).2).2 ∧ Below B w w'
  text : ∀ (B g : Nat) (xs : List Nat) (bad : Bool) (w : World), R B w g xs bad → B ≤ w.heap.size → xs.length ≤ 100000 → (∀ x ∈ xs, x < 256) →
    Calls Try.prog 19 #[.pointer (some ⟨g, 0, none⟩)] w fun e w' => e = .returned (.string (strN (runL xs).1)) ∧ R B w' g (leftS xs bad (runL xs).2).1 (leftS xs bad (runL xs).2).2 ∧ Below B w w'
  left : ∀ (B g : Nat) (xs : List Nat) (bad : Bool) (w : World), R B w g xs bad → xs.length ≤ 100000 →
    Calls Try.prog 20 #[.pointer (some ⟨g, 0, none⟩)] w fun e w' => e = .returned (.int .i64 (xs.length : Nat)) ∧ w = w'
  fine : ∀ (B g : Nat) (xs : List Nat) (bad : Bool) (w : World), R B w g xs bad →
    Calls Try.prog 21 #[.pointer (some ⟨g, 0, none⟩)] w fun e w' => e = .returned (.bool (!bad)) ∧ w = w'
  end_ : ∀ (B g : Nat) (xs : List Nat) (bad : Bool) (w : World), R B w g xs bad → xs.length ≤ 100000 →
    Calls Try.prog 22 #[.pointer (some ⟨g, 0, none⟩)] w fun e w' => e = .returned (.bool (!bad && decide (xs.length = 0))) ∧ w = w'
  leftNil : ∀ w : World, Calls Try.prog 20 #[.pointer none] w fun e w' => e = .returned (.int .i64 0) ∧ w = w'
  fineNil : ∀ w : World, Calls Try.prog 21 #[.pointer none] w fun e w' => e = .returned (.bool false) ∧ w = w'
  endNil : ∀ w : World, Calls Try.prog 22 #[.pointer none] w fun e w' => e = .returned (.bool false) ∧ w = w'
end Go.Proofs.Ytcgkigcokjdkjaa
