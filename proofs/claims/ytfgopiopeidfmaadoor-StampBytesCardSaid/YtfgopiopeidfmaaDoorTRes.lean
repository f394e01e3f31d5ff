/-
A result that is a stamp in a cell of the call's own. Of no function of the program.
-/
import Derived.Test.YtfgopiopeidfmaaDoorSRef
namespace Go.Proofs.YtfgopiopeidfmaaDoor
open Go.RowKit
theorem loadVar_id {w : World} {b : Nat} {x y : Value} (c0 : w.cell? ⟨b, 0, none⟩ = some x) (c1 : w.cell? ⟨b, 1, none⟩ = some y) : (loadVar 24 ⟨b, 0, none⟩).run Tryd.prog w = .ok (.agg #[x, y]) w := by
  unfold loadVar
  go_simp
theorem results_id {fn : Func} {t : Tmp} (h : fn.results = #[.cell t 24]) {tmps : Array Value} {w : World} {b : Nat} {x y : Value} (ht : tmps.getD t undef = .pointer (some ⟨b, 0, none⟩))
    (c0 : w.cell? ⟨b, 0, none⟩ = some x) (c1 : w.cell? ⟨b, 1, none⟩ = some y) : (results fn tmps).run Tryd.prog w = .ok (.agg #[x, y]) w := by
  have ht' : tmps[t]?.getD undef = .pointer (some ⟨b, 0, none⟩) := by simpa using ht
  simp [results, h, ht', asAddr, loadVar_id c0 c1]
theorem results_id2 {fn : Func} {t u : Tmp} (h : fn.results = #[.cell t 24, .tmp u]) {tmps : Array Value} {w : World} {b : Nat} {x y : Value} (ht : tmps.getD t undef = .pointer (some ⟨b, 0, none⟩))
    (c0 : w.cell? ⟨b, 0, none⟩ = some x) (c1 : w.cell? ⟨b, 1, none⟩ = some y) : (results fn tmps).run Tryd.prog w = .ok (.tuple #[.agg #[x, y], tmps.getD u undef]) w := by
  have ht' : tmps[t]?.getD undef = .pointer (some ⟨b, 0, none⟩) := by simpa using ht
  simp [results, h, ht', asAddr, loadVar_id c0 c1]
/-- Two stores, read again. -/
theorem set2 {w : World} {b : Nat} {x y x' y' : Value} {T : TypeId} (h : w.heap[b]? = some (.cells #[x', y'] T (0, 0))) :
    ((w.setCell ⟨b, 0, none⟩ x).setCell ⟨b, 1, none⟩ y).cell? ⟨b, 0, none⟩ = some x ∧ ((w.setCell ⟨b, 0, none⟩ x).setCell ⟨b, 1, none⟩ y).cell? ⟨b, 1, none⟩ = some y := by
  have h1 : ((w.setCell ⟨b, 0, none⟩ x).setCell ⟨b, 1, none⟩ y).heap[b]? = some (.cells #[x, y] T (0, 0)) := by
    simp [World.setCell, Array.getElem?_modify, h]
  exact ⟨by rw [cell_of_row _ _ 0 _ _ _ h1]; rfl, by rw [cell_of_row _ _ 1 _ _ _ h1]; rfl⟩
theorem heap_set {w : World} {b g i : Nat} {v : Value} (h : b ≠ g) : (w.setCell ⟨b, i, none⟩ v).heap[g]? = w.heap[g]? := by
  simp [World.setCell, Array.getElem?_modify, h]
/-- The cell of the result is laid. -/
theorem fin_set {w w' : World} (hb : Below w.heap.size w w') {x' y' : Value} {T : TypeId} (hrow : w'.heap[w.heap.size]? = some (.cells #[x', y'] T (0, 0))) (x y : Value) :
    Below w.heap.size w ((w'.setCell ⟨w.heap.size, 0, none⟩ x).setCell ⟨w.heap.size, 1, none⟩ y) ∧ ((w'.setCell ⟨w.heap.size, 0, none⟩ x).setCell ⟨w.heap.size, 1, none⟩ y).cell? ⟨w.heap.size, 0, none⟩ = some x ∧ ((w'.setCell ⟨w.heap.size, 0, none⟩ x).setCell ⟨w.heap.size, 1, none⟩ y).cell? ⟨w.heap.size, 1, none⟩ = some y := by
  refine ⟨⟨hb.os, hb.tape, hb.output, ?_, fun i hi => ?_⟩, set2 hrow⟩
  · have := hb.size
    simpa [World.setCell] using this
  · rw [heap_set (by omega), heap_set (by omega)]; exact hb.block i hi
theorem fin_set_alloc {w w' : World} (hb : Below w.heap.size w w') {x' y' : Value} {T : TypeId} (hrow : w'.heap[w.heap.size]? = some (.cells #[x', y'] T (0, 0))) (x y : Value) (o : Obj) :
    Below w.heap.size w (((w'.setCell ⟨w.heap.size, 0, none⟩ x).setCell ⟨w.heap.size, 1, none⟩ y).alloc o) ∧ (((w'.setCell ⟨w.heap.size, 0, none⟩ x).setCell ⟨w.heap.size, 1, none⟩ y).alloc o).cell? ⟨w.heap.size, 0, none⟩ = some x ∧ (((w'.setCell ⟨w.heap.size, 0, none⟩ x).setCell ⟨w.heap.size, 1, none⟩ y).alloc o).cell? ⟨w.heap.size, 1, none⟩ = some y := by
  obtain ⟨a, b, c⟩ := fin_set hb hrow x y
  have hk := below_alloc ((w'.setCell ⟨w.heap.size, 0, none⟩ x).setCell ⟨w.heap.size, 1, none⟩ y) o
  exact ⟨a.trans (hk.mono a.size), by rw [bcell hk _ _ (World.block_lt_of_cell? _ _ b)]; exact b, by rw [bcell hk _ _ (World.block_lt_of_cell? _ _ c)]; exact c⟩
end Go.Proofs.YtfgopiopeidfmaaDoor
