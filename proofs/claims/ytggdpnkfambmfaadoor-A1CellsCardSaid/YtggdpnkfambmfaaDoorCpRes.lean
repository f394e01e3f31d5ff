/-
A result that is a name's cell in a cell of the call's own. Of no function of the program.
-/
import Derived.Test.YtggdpnkfambmfaaDoorCpRText
namespace Go.Proofs.YtggdpnkfambmfaaDoor
open Go.RowKit
theorem loadVar_cel {w : World} {b : Nat} {x y : Value} (c0 : w.cell? ⟨b, 0, none⟩ = some x) (c1 : w.cell? ⟨b, 1, none⟩ = some y) : (loadVar 27 ⟨b, 0, none⟩).run Tryd.prog w = .ok (.agg #[x, y]) w := by
  unfold loadVar
  go_simp
theorem results_cel {fn : Func} {t : Tmp} (h : fn.results = #[.cell t 27]) {tmps : Array Value} {w : World} {b : Nat} {x y : Value} (ht : tmps.getD t undef = .pointer (some ⟨b, 0, none⟩))
    (c0 : w.cell? ⟨b, 0, none⟩ = some x) (c1 : w.cell? ⟨b, 1, none⟩ = some y) : (results fn tmps).run Tryd.prog w = .ok (.agg #[x, y]) w := by
  have ht' : tmps[t]?.getD undef = .pointer (some ⟨b, 0, none⟩) := by simpa using ht
  simp [results, h, ht', asAddr, loadVar_cel c0 c1]
theorem results_cel2 {fn : Func} {t u : Tmp} (h : fn.results = #[.cell t 27, .tmp u]) {tmps : Array Value} {w : World} {b : Nat} {x y : Value} (ht : tmps.getD t undef = .pointer (some ⟨b, 0, none⟩))
    (c0 : w.cell? ⟨b, 0, none⟩ = some x) (c1 : w.cell? ⟨b, 1, none⟩ = some y) : (results fn tmps).run Tryd.prog w = .ok (.tuple #[.agg #[x, y], tmps.getD u undef]) w := by
  have ht' : tmps[t]?.getD undef = .pointer (some ⟨b, 0, none⟩) := by simpa using ht
  simp [results, h, ht', asAddr, loadVar_cel c0 c1]
/-- Two stores, read again. -/
theorem set2C {w : World} {b : Nat} {x y x' y' : Value} {T : TypeId} (h : w.heap[b]? = some (.cells #[x', y'] T (0, 0))) :
    ((w.setCell ⟨b, 0, none⟩ x).setCell ⟨b, 1, none⟩ y).cell? ⟨b, 0, none⟩ = some x ∧ ((w.setCell ⟨b, 0, none⟩ x).setCell ⟨b, 1, none⟩ y).cell? ⟨b, 1, none⟩ = some y := by
  have h1 : ((w.setCell ⟨b, 0, none⟩ x).setCell ⟨b, 1, none⟩ y).heap[b]? = some (.cells #[x, y] T (0, 0)) := by
    simp [World.setCell, Array.getElem?_modify, h]
  exact ⟨by rw [cell_of_row _ _ 0 _ _ _ h1]; rfl, by rw [cell_of_row _ _ 1 _ _ _ h1]; rfl⟩
theorem heap_setC {w : World} {b g i : Nat} {v : Value} (h : b ≠ g) : (w.setCell ⟨b, i, none⟩ v).heap[g]? = w.heap[g]? := by
  simp [World.setCell, Array.getElem?_modify, h]
/-- The cell of the result is laid. -/
theorem fin_setC {w w' : World} (hb : Below w.heap.size w w') {x' y' : Value} {T : TypeId} (hrow : w'.heap[w.heap.size]? = some (.cells #[x', y'] T (0, 0))) (x y : Value) :
    Below w.heap.size w ((w'.setCell ⟨w.heap.size, 0, none⟩ x).setCell ⟨w.heap.size, 1, none⟩ y) ∧ ((w'.setCell ⟨w.heap.size, 0, none⟩ x).setCell ⟨w.heap.size, 1, none⟩ y).cell? ⟨w.heap.size, 0, none⟩ = some x ∧ ((w'.setCell ⟨w.heap.size, 0, none⟩ x).setCell ⟨w.heap.size, 1, none⟩ y).cell? ⟨w.heap.size, 1, none⟩ = some y := by
  refine ⟨⟨hb.os, hb.tape, hb.output, ?_, fun i hi => ?_⟩, set2C hrow⟩
  · have := hb.size
    simpa [World.setCell] using this
  · rw [heap_setC (by omega), heap_setC (by omega)]; exact hb.block i hi
theorem fin_setC_alloc {w w' : World} (hb : Below w.heap.size w w') {x' y' : Value} {T : TypeId} (hrow : w'.heap[w.heap.size]? = some (.cells #[x', y'] T (0, 0))) (x y : Value) (o : Obj) :
    Below w.heap.size w (((w'.setCell ⟨w.heap.size, 0, none⟩ x).setCell ⟨w.heap.size, 1, none⟩ y).alloc o) ∧ (((w'.setCell ⟨w.heap.size, 0, none⟩ x).setCell ⟨w.heap.size, 1, none⟩ y).alloc o).cell? ⟨w.heap.size, 0, none⟩ = some x ∧ (((w'.setCell ⟨w.heap.size, 0, none⟩ x).setCell ⟨w.heap.size, 1, none⟩ y).alloc o).cell? ⟨w.heap.size, 1, none⟩ = some y := by
  obtain ⟨a, b, c⟩ := fin_setC hb hrow x y
  have hk := below_alloc ((w'.setCell ⟨w.heap.size, 0, none⟩ x).setCell ⟨w.heap.size, 1, none⟩ y) o
  exact ⟨a.trans (hk.mono a.size), by rw [bcell hk _ _ (World.block_lt_of_cell? _ _ b)]; exact b, by rw [bcell hk _ _ (World.block_lt_of_cell? _ _ c)]; exact c⟩
theorem row_belowC {w w' : World} {b : Nat} {o : Obj} (h : w.heap[b]? = some o) (hb : Below w.heap.size w w') : w'.heap[b]? = some o :=
  (hb.block b (Array.getElem?_eq_some_iff.1 h).1).trans h
theorem cells2C {w : World} {b : Nat} {x y : Value} {T : TypeId} (h : w.heap[b]? = some (.cells #[x, y] T (0, 0))) : (w.cell? ⟨b, 0, none⟩ = some x ∧ w.cell? ⟨b, 1, none⟩ = some y) ∧ w.frozen? ⟨b, 0, none⟩ = false ∧ w.frozen? ⟨b, 1, none⟩ = false :=
  ⟨⟨by rw [cell_of_row _ _ 0 _ _ _ h]; rfl, by rw [cell_of_row _ _ 1 _ _ _ h]; rfl⟩, by simp [World.frozen?, h], by simp [World.frozen?, h]⟩
end Go.Proofs.YtggdpnkfambmfaaDoor
