/-
The law GaussNorms: it answers true at every input.
-/
import Derived.Test.YtkppkojpdhgicaaDoorGLawN
import Derived.Test.YtkppkojpdhgicaaDoorGLawM
import Derived.Test.YtkppkojpdhgicaaDoorGLawO
namespace Go.Proofs.YtkppkojpdhgicaaDoor
open Go.RowKit Go.Proofs.YtkppkojpdhgicaaDoor.Gf

/-- The law. -/
theorem law_norms (a b c d : Int) (w : World) (hE : Env w) :
    Calls Tryd.prog 6 #[.agg #[.int .i64 a, .int .i64 b], .agg #[.int .i64 c, .int .i64 d]] w fun e w' => e = .returned (.bool true) ∧ Below w.heap.size w w' := by
  by_cases hr : Rg a b
  · by_cases hr2 : Rg c d
    · by_cases hg : Rg (a * c - b * d) (a * d + b * c)
      · exact norms_in a b c d hr hr2 hg w hE
      · exact norms_over a b c d hr hr2 hg w hE
    · exact norms_outy a b c d hr hr2 w hE
  · exact norms_outx a b c d hr w hE
end Go.Proofs.YtkppkojpdhgicaaDoor
