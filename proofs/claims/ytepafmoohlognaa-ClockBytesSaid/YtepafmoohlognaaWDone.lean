/-
A Writer: Done, by a contract; a new Writer.
-/
import Derived.Test.YtepafmoohlognaaWWriter
import Derived.Test.YtepafmoohlognaaWClone
namespace Go.Proofs.Ytepafmoohlognaa
open Go.RowKit
open Wire (numL valL takeL runL bytesL)

theorem Wr.base {B : Nat} {w : World} {g : Nat} {v : Value} {xs : List Nat} (h : Wr B w g v xs) : ∀ k, v.ownBlock = some k → B ≤ k := h.2.2.base_le

set_option maxRecDepth 20000 in
theorem wdone_any (B g : Nat) (v : Value) (xs : List Nat) (w : World) (h : Wr B w g v xs) (hl : xs.length ≤ 500000) :
    Calls Try.prog 20 #[.pointer (some ⟨g, 0, none⟩)] w fun e w' => ∃ v', e = .returned v' ∧ Own w.heap.size w' v' xs ∧ Below w.heap.size w w' := by
  have hcell := h.cell
  have hcl := clone_any v xs w h.2.2.rd hl
  have HC := Lib.hid hcl
  clear h hl hcl
  go_enter Try.func20, Try.ntmps20
  go_wp2_with (go_at_call 34; (with_reducible refine (HC.out).mono ?_); rintro e w1 ⟨v1, rfl, hown1, hb1⟩)
  go_ret
  exact ⟨_, rfl, hown1, hb1⟩

/-- A new Writer. -/
theorem Wr.new (w : World) : Wr w.heap.size (w.alloc (.cells #[.slice none 0 0] 42)) w.heap.size (.slice none 0 0) [] :=
  ⟨Nat.le_refl _, heap_new rfl, Own.nil _ _⟩
end Go.Proofs.Ytepafmoohlognaa
