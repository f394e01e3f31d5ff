/-
What the cards of stage 5 share: what the row's list gives, and the laws as the cards ask them.
-/
import Derived.Test.YtfgopiopeidfmaaDoorCards
import Derived.Test.YtfgopiopeidfmaaDoorTie
import Derived.Test.YtfgopiopeidfmaaDoorTText
import Derived.Test.YtfgopiopeidfmaaDoorTPut
import Derived.Test.YtfgopiopeidfmaaDoorTSort
import Derived.Test.YtfgopiopeidfmaaDoorBIds
import Derived.WalkKit
import Derived.ProofKit
import Derived.OpenShut
import Derived.Deep.DeepHandedRow
import Derived.Deep.Matrix
import Derived.Carry
import Derived.Lib.LaidTab
import Derived.Stop.LaidErr
import Derived.Lay
import Derived.SevenTiedAt
namespace Go.Proofs.YtfgopiopeidfmaaDoor
open Go.ChangeShapes Go.WideShapes Go.ChangeAt Go.RowKit Go.Deep

theorem pow_eq : (Rows.laid_internal_strconv_uint64pow10 : DataW Unit) = Lib.tabData .u64 Lib.pow10Tab := by kernel_rfl
theorem gPow : Tryd.prog.globalNamed "internal/strconv.uint64pow10" = some 3 := by kernel_rfl
theorem gPowType : (Tryd.prog.globals[3]?).map (·.type) = some 114 := by kernel_rfl
theorem cellsPow : Tryd.prog.cellsOf 114 = 20 := by kernel_rfl
theorem cellsU64 : Tryd.prog.cellsOf 22 = 1 := by kernel_rfl
theorem tab_of {W : World} {rest : List (String × DataW Unit)} (h : laidMet Tryd.prog (("internal/strconv.uint64pow10", Rows.laid_internal_strconv_uint64pow10) :: rest) W) : Lib.TabIs Tryd.prog W "internal/strconv.uint64pow10" .u64 Lib.pow10Tab := by
  rw [pow_eq] at h
  exact Lib.tabIs_of_head gPow gPowType Tryd.underlying114 Tryd.underlying22 cellsU64 cellsPow h
theorem star : "*" ++ "errors.errorString" = "*errors.errorString" := by decide
theorem row_err (u : TypeId) (h : Tryd.prog.typeName? 3 u = some "*errors.errorString") : u = 124 :=
  typeName_ptr_named (nm := "errors.errorString") (by rw [star]; kernel_rfl) (by kernel_rfl) (by decide) u (by rw [star]; exact h)
theorem gSyn : Tryd.prog.globalNamed "strconv.ErrSyntax" = some 1 := by kernel_rfl
theorem gSynType : (Tryd.prog.globals[1]?).map (·.type) = some 66 := by kernel_rfl
theorem gRng : Tryd.prog.globalNamed "strconv.ErrRange" = some 2 := by kernel_rfl
theorem gRngType : (Tryd.prog.globals[2]?).map (·.type) = some 66 := by kernel_rfl
theorem cellsErr : Tryd.prog.cellsOf 126 = 1 := by kernel_rfl
theorem cellsStr : Tryd.prog.cellsOf 9 = 1 := by kernel_rfl

/-- The lists of the rows. -/
abbrev theList0 : List (String × DataW Unit) := [("math/bits.deBruijn32tab", Rows.laid_math_bits_deBruijn32tab), ("math/bits.deBruijn64tab", Rows.laid_math_bits_deBruijn64tab), ("internal/strconv.uint64pow10", Rows.laid_internal_strconv_uint64pow10)]
abbrev theList : List (String × DataW Unit) := [("math/bits.deBruijn32tab", Rows.laid_math_bits_deBruijn32tab), ("math/bits.deBruijn64tab", Rows.laid_math_bits_deBruijn64tab), ("internal/strconv.uint64pow10", Rows.laid_internal_strconv_uint64pow10), ("strconv.ErrRange", Rows.laid_strconv_ErrRange), ("strconv.ErrSyntax", Rows.laid_strconv_ErrSyntax)]

theorem env0_of {W : World} (h : laidMet Tryd.prog theList0 W) (hsh : W.ShapedOpen Tryd.prog) : Env0 W := ⟨tab_of h.tail.tail, Tryd.laysM145.s1_3 W hsh⟩
theorem env_of {W : World} (h : laidMet Tryd.prog theList W) (hsh : W.ShapedOpen Tryd.prog) : Env W := by
  refine ⟨⟨tab_of h.tail.tail, Tryd.laysM145.s1_3 W hsh⟩, ?_, ?_⟩
  · obtain ⟨a, s, hv, _⟩ := laid_sentinel h.tail.tail.tail.tail gSyn gSynType Tryd.underlying66 row_err Tryd.underlying124 Tryd.underlying126 rfl rfl Tryd.underlying9 cellsErr cellsStr
    exact ⟨_, _, hv⟩
  · obtain ⟨a, s, hv, _⟩ := laid_sentinel h.tail.tail.tail gRng gRngType Tryd.underlying66 row_err Tryd.underlying124 Tryd.underlying126 rfl rfl Tryd.underlying9 cellsErr cellsStr
    exact ⟨_, _, hv⟩
theorem i64_of {x : Int} (wx : (Lit.int .i64 x).wf = true) : -9223372036854775808 ≤ x ∧ x ≤ 9223372036854775807 := by
  simpa [Lit.wf, IntKind.min, IntKind.max, IntKind.signed, IntKind.bits] using wx

theorem ordersOk : OrdersOk Env0 := { keep := fun h hb => h.below hb, compare := fun t r t' r' w _ _ => compare_any t r t' r' w, less := fun t r t' r' w _ _ => less_any t r t' r' w, right := fun t r w _ => right_any t r w, awake := fun w h => awake_any w h }
theorem sortsOk : SortsOk Env0 := { keep := fun h hb => h.below hb, sort := fun l n c A w hn hl _ h => sort_any l n c A w hn hl h, awake := fun w h => awake_any w h }
theorem bytesOk : BytesOk Env0 := { keep := fun h hb => h.below hb, put := fun B g v xs t rn w ht hr h hl hB => put_any B g v xs t rn w ht hr h hl hB, take := fun B g v xs bad w h hl hx => take_any B g v xs bad w h hl hx, awake := fun w h => awake_any w h }
theorem textsOk : TextsOk Env := { keep := fun h hb => h.below hb, decimal := fun n w h h0 h1 => decimal_any n w h.toEnv0 h0 h1, number := fun l most w h hl h0 h1 => number_any l most w h hl h0 h1, text := fun t rn w h ht hr => text_any t rn w h.toEnv0 ht hr, parse := fun l w h hl => parse_any l w h hl, awake := fun w h => awake_any w h.toEnv0 }

theorem law_orders (t : Nat) (r : Int) (t' : Nat) (r' : Int) (w : World) (h1 : FitI (t, r)) (h2 : FitI (t', r')) (hE : Env0 w) :
    Calls Tryd.prog 3 #[idV t r, idV t' r'] w fun e w' => e = .returned (.bool true) ∧ Below w.heap.size w w' :=
  orders_any ordersOk t r t' r' h1 h2 w hE
theorem law_sorts (v : Value) (l : List (Nat × Int)) (w : World) (h : RdI w v l ∧ ∀ x ∈ l, FitI x) (hE : Env0 w) :
    Calls Tryd.prog 4 #[v] w fun e w' => e = .returned (.bool true) ∧ Below w.heap.size w w' := by
  obtain ⟨h1, h2⟩ := h
  have hm : l.length ≤ 9223372036854775807 := by
    rcases h1 with ⟨p, c, _, rfl, _⟩ | ⟨b, off, cap, _, hc, hm, _⟩
    · simp
    · unfold maxLen at hm; omega
  obtain ⟨A, n, c, rfl, hn⟩ := h1.named
  exact sorts_form sortsOk l n c A hn h2 w hE h1 (by omega)
theorem law_bytes (t : Nat) (r : Int) (w : World) (h1 : FitI (t, r)) (hE : Env0 w) :
    Calls Tryd.prog 5 #[idV t r] w fun e w' => e = .returned (.bool true) ∧ Below w.heap.size w w' :=
  bytes_any bytesOk t r h1.1 w hE
theorem law_texts (t : Nat) (r n : Int) (s : ByteArray) (most : Int) (w : World) (h1 : FitI (t, r)) (h2 : -9223372036854775808 ≤ n ∧ n ≤ 9223372036854775807) (hs : s.size ≤ maxLen) (h3 : -9223372036854775808 ≤ most ∧ most ≤ 9223372036854775807) (hE : Env w) :
    Calls Tryd.prog 6 #[idV t r, .int .i64 n, .string s, .int .i64 most] w fun e w' => e = .returned (.bool true) ∧ Below w.heap.size w w' :=
  texts_any textsOk t r n s most h1.2.1 h1.2.2 h2.1 h2.2 (by unfold maxLen at hs; omega) h3.1 h3.2 w hE
end Go.Proofs.YtfgopiopeidfmaaDoor
