/-
What the cards of stage 9 share: what the row's list gives (the program's own signs, the table of FormatUint).
-/
import Derived.Test.YtlagjnlajkmmeaaGreatDoorCards
import Derived.Test.YtlagjnlajkmmeaaGreatDoorTie
import Derived.Test.YtlagjnlajkmmeaaGreatDoorTqV
import Derived.Test.YtlagjnlajkmmeaaGreatDoorStrTab
import Derived.Test.YtlagjnlajkmmeaaGreatDoorTrOpen
namespace Go.Proofs.YtlagjnlajkmmeaaGreatDoor
open Go.ChangeShapes Go.WideShapes Go.ChangeAt Go.RowKit Go.Deep Go.Proofs.YtlagjnlajkmmeaaGreatDoor.Tok

theorem pow_eq : (Rows.laid_internal_strconv_uint64pow10 : DataW Unit) = Lib.tabData .u64 Lib.pow10Tab := by kernel_rfl
theorem gPow : Tryz.prog.globalNamed "internal/strconv.uint64pow10" = some 0 := by kernel_rfl
theorem gPowType : (Tryz.prog.globals[0]?).map (·.type) = some 118 := by kernel_rfl
theorem cellsPow : Tryz.prog.cellsOf 118 = 20 := by kernel_rfl
theorem cellsU64 : Tryz.prog.cellsOf 69 = 1 := by kernel_rfl
theorem tab_of {W : World} {rest : List (String × DataW Unit)} (h : laidMet Tryz.prog (("internal/strconv.uint64pow10", Rows.laid_internal_strconv_uint64pow10) :: rest) W) : Lib.TabIs Tryz.prog W "internal/strconv.uint64pow10" .u64 Lib.pow10Tab := by
  rw [pow_eq] at h
  exact Lib.tabIs_of_head gPow gPowType Tryz.underlying118 Tryz.underlying69 cellsU64 cellsPow h
/-- The row's list. -/
abbrev theList : List (String × DataW Unit) := [("math/bits.deBruijn32tab", Rows.laid_math_bits_deBruijn32tab), ("math/bits.deBruijn64tab", Rows.laid_math_bits_deBruijn64tab), ("internal/strconv.uint64pow10", Rows.laid_internal_strconv_uint64pow10), ("unicode/utf8.acceptRanges", Rows.laid_unicode_utf8_acceptRanges), ("quadrille/token.signs", Rows.laid_quadrille_token_signs), ("unicode/utf8.first", Rows.laid_unicode_utf8_first)]
theorem env_of {W : World} (h : laidMet Tryz.prog theList W) (hsh : W.ShapedOpen Tryz.prog) : EnvP W := by
  have h2 := h.tail.tail.tail.tail
  rw [signs_eq] at h2
  exact ⟨⟨Tryz.laysM155.s1_3 W hsh, strs_of_head gSigns gSignsType Tryz.underlying134 Tryz.underlying9 cellsStr1 cellsSigns h2⟩, ⟨tab_of h.tail.tail, Tryz.laysM155.s1_3 W hsh⟩⟩
theorem i64_ofT {x : Int} (wx : (Lit.int .i64 x).wf = true) : In64 x := in64_of wx
end Go.Proofs.YtlagjnlajkmmeaaGreatDoor
