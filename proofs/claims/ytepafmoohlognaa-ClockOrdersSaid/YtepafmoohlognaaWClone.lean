/-
bytes.Clone, by a contract: a slice of the call's own with the same bytes.
-/
import Derived.Test.YtepafmoohlognaaBRead
import Derived.Lib.LazyBuf
namespace Go.Proofs.Ytepafmoohlognaa
open Go.RowKit

theorem eq_nil (w : World) (a : Option Addr) (n c : Nat) : (binOp .eql 40 (.slice a n c) (.slice none 0 0)).run Try.prog w = .ok (.bool a.isNone) w :=
  Lib.run_eql_slice_nil w _ _ a n c 0 0 Try.underlying40

/-- The empty slice that the call makes is its own. -/
theorem Own.empty (w : World) : Own w.heap.size (w.alloc (.cells #[] 5)) (.slice (some ⟨w.heap.size, 0, none⟩) 0 0) [] :=
  ⟨rfl, .inr ⟨w.heap.size, 0, #[], rfl, Nat.le_refl _, heap_new rfl, Nat.le_refl _, Nat.zero_le _, rfl, rfl⟩⟩

set_option maxRecDepth 20000 in
theorem clone_any (v : Value) (xs : List Nat) (w : World) (h : Rd w v xs) (hl : xs.length ≤ 500000) :
    Calls Try.prog 34 #[v] w fun e w' => ∃ v', e = .returned v' ∧ Own w.heap.size w' v' xs ∧ Below w.heap.size w w' := by
  obtain ⟨A, n, c, rfl, hn⟩ := h.named
  have HR := Lib.hid h
  have HL := Lib.hid hl
  have hq := eq_nil
  rcases A with _ | a
  · have hx : xs = [] := by
      rcases h with ⟨_, _, _, hx, _⟩ | ⟨_, _, _, hv, _⟩
      · exact hx
      · simp at hv
    clear h hl hn HR HL
    subst hx
    go_enter Try.func34, Try.ntmps34
    go_wp2
    go_ret
    exact ⟨_, rfl, Own.nil _ _, Below.refl _ _⟩
  · clear h hl hn
    go_enter Try.func34, Try.ntmps34
    go_wp2_with (at_builtin; refine wp_appR rfl _ _ rfl w.heap.size _ [] rfl (Own.empty w) _ xs rfl (HR.out.below (below_alloc _ _)) (by have := HL.out; simp; omega) (by simp) ?_; intro v1 w1 hown1 hbel1 hsz1)
    go_ret
    exact ⟨_, rfl, hown1, (below_alloc w _).trans hbel1⟩
end Go.Proofs.Ytepafmoohlognaa
