/-
What the cards of stage 8 share: the laws as the cards call them.
-/
import Derived.Test.YtdjidkhkgmbhfaaDoorBOpen
import Derived.Test.YtdjidkhkgmbhfaaDoorToQuot
import Derived.Test.YtdjidkhkgmbhfaaDoorToBlk
namespace Go.Proofs.YtdjidkhkgmbhfaaDoor
open Go.RowKit
theorem law_splits {E : World → Prop} (K : TokOk E) (s : ByteArray) (W : World) (h0 : s.size ≤ maxLen) (hE : E W) :
    Calls Tryd.prog 3 #[.string s] W fun e w' => e = .returned (.bool true) ∧ Below W.heap.size W w' :=
  splits_any K s (by unfold maxLen at h0; omega) W hE
theorem law_quotes {E : World → Prop} (K : TokOk E) (Q : TokQ E) (s : ByteArray) (W : World) (h0 : s.size ≤ maxLen) (hE : E W) :
    Calls Tryd.prog 4 #[.string s] W fun e w' => e = .returned (.bool true) ∧ Below W.heap.size W w' :=
  quotes_any K Q s (by unfold maxLen at h0; omega) W hE
theorem law_blanks {E : World → Prop} (K : TokOk E) (s : ByteArray) (v : Value) (xs : List Nat) (W : World) (h0 : s.size ≤ maxLen) (h1 : Rd W v xs ∧ ∀ x ∈ xs, x < 256) (hE : E W) :
    Calls Tryd.prog 5 #[.string s, v] W fun e w' => e = .returned (.bool true) ∧ Below W.heap.size W w' :=
  blanks_any K s (by unfold maxLen at h0; omega) v xs h1.2 W hE h1.1
/-- Where nothing of the library's is listed. -/
abbrev AnyT : World → Prop := fun _ => True
theorem law_splits0 (K : TokOk AnyT) (s : ByteArray) (W : World) (h0 : s.size ≤ maxLen) :
    Calls Tryd.prog 3 #[.string s] W fun e w' => e = .returned (.bool true) ∧ Below W.heap.size W w' :=
  law_splits K s W h0 trivial
theorem law_quotes0 (K : TokOk AnyT) (Q : TokQ AnyT) (s : ByteArray) (W : World) (h0 : s.size ≤ maxLen) :
    Calls Tryd.prog 4 #[.string s] W fun e w' => e = .returned (.bool true) ∧ Below W.heap.size W w' :=
  law_quotes K Q s W h0 trivial
theorem law_blanks0 (K : TokOk AnyT) (s : ByteArray) (v : Value) (xs : List Nat) (W : World) (h0 : s.size ≤ maxLen) (h1 : Rd W v xs ∧ ∀ x ∈ xs, x < 256) :
    Calls Tryd.prog 5 #[.string s, v] W fun e w' => e = .returned (.bool true) ∧ Below W.heap.size W w' :=
  law_blanks K s v xs W h0 h1 trivial
end Go.Proofs.YtdjidkhkgmbhfaaDoor
