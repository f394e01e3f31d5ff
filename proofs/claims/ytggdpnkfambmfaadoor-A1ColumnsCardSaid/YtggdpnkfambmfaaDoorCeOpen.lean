/-
Cells and rectangles as arguments, opened.
-/
import Derived.Test.YtggdpnkfambmfaaDoorBOpen
import Derived.Test.YtggdpnkfambmfaaDoorCeOk
namespace Go.Proofs.YtggdpnkfambmfaaDoor
open Go.ChangeShapes Go.WideShapes Go.ChangeAt Go.RowKit Go.Deep

theorem cellsCell : Tryd.prog.cellsOf 27 = 2 := by kernel_rfl
theorem cellsRect : Tryd.prog.cellsOf 38 = 4 := by kernel_rfl
theorem cellsInt : Tryd.prog.cellsOf 3 = 1 := by kernel_rfl
theorem i64_of {x : Int} (wx : (Lit.int .i64 x).wf = true) : I64 x := by
  simpa [Lit.wf, IntKind.min, IntKind.max, IntKind.signed, IntKind.bits] using wx
section
variable {H : Type} {enc : TypeId × Value → H}
theorem cell_of_trods {W : World} {n : Nat} {v0 v1 : Value} {y0 y1 : DataW H × List MemPlace} (g0 : DataW.trod enc Tryd.prog W 0 (fun _ => true) true n 3 [v0] = some y0) (g1 : DataW.trod enc Tryd.prog W 0 (fun _ => true) true n 3 [v1] = some y1) :
    ∃ x : Int × Int, v0 = .int .i64 x.1 ∧ v1 = .int .i64 x.2 ∧ I64 x.1 ∧ I64 x.2 := by
  obtain ⟨z0, e0, _, w0⟩ := DataW.trod_int Tryd.underlying3 g0
  obtain ⟨z1, e1, _, w1⟩ := DataW.trod_int Tryd.underlying3 g1
  simp at e0 e1
  subst e0 e1
  exact ⟨(z0, z1), rfl, rfl, i64_of w0, i64_of w1⟩
set_option maxRecDepth 100000 in
theorem cell_of_trod {W : World} {f : Nat} {v0 v1 : Value} {y : DataW H × List MemPlace} (hf : DataW.trod enc Tryd.prog W 0 (fun _ => true) true f 27 [v0, v1] = some y) :
    ∃ x : Int × Int, v0 = .int .i64 x.1 ∧ v1 = .int .i64 x.2 ∧ I64 x.1 ∧ I64 x.2 := by
  obtain ⟨xs, k, hk, hxy, _, hxl, hff⟩ := DataW.trod_struct Tryd.underlying27 hf
  match xs, hxl with
  | [y0, y1], _ =>
    have g0 := hff 0 _ rfl
    have g1 := hff 1 _ rfl
    simp [cellsInt] at g0 g1
    exact cell_of_trods g0 g1
set_option maxRecDepth 100000 in
theorem open_cell {W : World} {base : Nat} {v : Value} {d : DataW H} {p : List MemPlace} (hv : Value.okWide Tryd.prog W .any base 27 v)
    (h : DataW.Trod enc Tryd.prog W 0 (fun _ => true) true 27 v d p) : ∃ x : Int × Int, v = cellV x.1 x.2 ∧ I64 x.1 ∧ I64 x.2 := by
  obtain ⟨cs, rfl, hcs⟩ := okWide_struct Tryd.underlying27 hv
  rw [cellsCell] at hcs
  obtain ⟨fuel, hf⟩ := h
  obtain ⟨v0, v1, rfl⟩ : ∃ v0 v1, cs = #[v0, v1] := by
    obtain ⟨l⟩ := cs
    match l, hcs with
    | [a, b], _ => exact ⟨a, b, rfl⟩
  obtain ⟨x, rfl, rfl, hx⟩ := cell_of_trod hf
  exact ⟨x, rfl, hx⟩
set_option maxRecDepth 100000 in
theorem open_rect {W : World} {base : Nat} {v : Value} {d : DataW H} {p : List MemPlace} (hv : Value.okWide Tryd.prog W .any base 38 v)
    (h : DataW.Trod enc Tryd.prog W 0 (fun _ => true) true 38 v d p) : ∃ x : (Int × Int) × Int × Int, v = rectV x.1.1 x.1.2 x.2.1 x.2.2 ∧ (I64 x.1.1 ∧ I64 x.1.2) ∧ I64 x.2.1 ∧ I64 x.2.2 := by
  obtain ⟨cs, rfl, hcs⟩ := okWide_struct Tryd.underlying38 hv
  rw [cellsRect] at hcs
  obtain ⟨fuel, hf⟩ := h
  obtain ⟨v0, v1, v2, v3, rfl⟩ : ∃ v0 v1 v2 v3, cs = #[v0, v1, v2, v3] := by
    obtain ⟨l⟩ := cs
    match l, hcs with
    | [a, b, c, d], _ => exact ⟨a, b, c, d, rfl⟩
  obtain ⟨xs, k, hk, hxy, _, hxl, hff⟩ := DataW.trod_struct Tryd.underlying38 hf
  match xs, hxl with
  | [y0, y1], _ =>
    have g0 := hff 0 _ rfl
    have g1 := hff 1 _ rfl
    simp [Value.cells, cellsCell] at g0 g1
    obtain ⟨x, rfl, rfl, hx⟩ := cell_of_trod g0
    obtain ⟨z, rfl, rfl, hz⟩ := cell_of_trod g1
    exact ⟨(x, z), rfl, hx, hz⟩
end
end Go.Proofs.YtggdpnkfambmfaaDoor
