/-
What the cards of stage 9 share: what the row's list gives (the program's own signs, the table of FormatUint).
-/
import Derived.Test.YtlagjnlajkmmeaaDoorCards
import Derived.Test.YtlagjnlajkmmeaaDoorTie
import Derived.Test.YtlagjnlajkmmeaaDoorTqV
import Derived.Test.YtlagjnlajkmmeaaDoorStrTab
import Derived.Test.YtlagjnlajkmmeaaDoorTrOpen
namespace Go.Proofs.YtlagjnlajkmmeaaDoor
open Go.ChangeShapes Go.WideShapes Go.ChangeAt Go.RowKit Go.Deep Go.Proofs.YtlagjnlajkmmeaaDoor.Tok

theorem pow_eq : (Rows.laid_internal_strconv_uint64pow10 : DataW Unit) = Lib.tabData .u64 Lib.pow10Tab := by kernel_rfl
theorem gPow : Tryd.prog.globalNamed "internal/strconv.uint64pow10" = some 1 := by kernel_rfl
theorem gPowType : (Tryd.prog.globals[1]?).map (·.type) = some 110 := by kernel_rfl
theorem cellsPow : Tryd.prog.cellsOf 110 = 20 := by kernel_rfl
theorem cellsU64 : Tryd.prog.cellsOf 82 = 1 := by kernel_rfl
theorem tab_of {W : World} {rest : List (String × DataW Unit)} (h : laidMet Tryd.prog (("internal/strconv.uint64pow10", Rows.laid_internal_strconv_uint64pow10) :: rest) W) : Lib.TabIs Tryd.prog W "internal/strconv.uint64pow10" .u64 Lib.pow10Tab := by
  rw [pow_eq] at h
  exact Lib.tabIs_of_head gPow gPowType Tryd.underlying110 Tryd.underlying82 cellsU64 cellsPow h
/-- The row's list. -/
abbrev theList : List (String × DataW Unit) := [("math/bits.deBruijn32tab", Rows.laid_math_bits_deBruijn32tab), ("math/bits.deBruijn64tab", Rows.laid_math_bits_deBruijn64tab), ("internal/strconv.uint64pow10", Rows.laid_internal_strconv_uint64pow10), ("unicode/utf8.acceptRanges", Rows.laid_unicode_utf8_acceptRanges), ("quadrille/token.signs", Rows.laid_quadrille_token_signs), ("unicode/utf8.first", Rows.laid_unicode_utf8_first)]
theorem env_of {W : World} (h : laidMet Tryd.prog theList W) (hsh : W.ShapedOpen Tryd.prog) : EnvP W := by
  have h2 := h.tail.tail.tail.tail
  rw [signs_eq] at h2
  exact ⟨⟨Tryd.laysM155.s1_3 W hsh, strs_of_head gSigns gSignsType Tryd.underlying86 Tryd.underlying9 cellsStr1 cellsSigns h2⟩, ⟨tab_of h.tail.tail, Tryd.laysM155.s1_3 W hsh⟩⟩
theorem i64_ofT {x : Int} (wx : (Lit.int .i64 x).wf = true) : In64 x := in64_of wx
end Go.Proofs.YtlagjnlajkmmeaaDoor
