/-
An argument that is a slice of Pairs: opened, and shut again in a later world.
-/
import Derived.Test.YtkppkojpdhgicaaDoorGFrame
import Derived.Test.YtkppkojpdhgicaaDoorGFewW
import Derived.Deep.SlicePairs
namespace Go.Proofs.YtkppkojpdhgicaaDoor
open Go.ChangeShapes Go.WideShapes Go.ChangeAt Go.RowKit Go.Deep

section
variable {H : Type} {enc : TypeId × Value → H}
set_option maxRecDepth 100000 in
theorem open_pairs {W : World} {base : Nat} {v : Value} {d : DataW H} {p : List MemPlace} (hv : Value.okWide Tryd.prog W .any base 33 v)
    (h : DataW.Trod enc Tryd.prog W 0 (fun _ => true) true 33 v d p) :
    ∃ ls, RdA W v ls ∧ ∀ W', Below W.heap.size W W' → ∀ sp : Nat → Bool, (∀ q ∈ p, sp q.block = true) → DataW.Trod enc Tryd.prog W' 0 sp true 33 v d p := by
  obtain ⟨a, l, c, rfl⟩ := okWide_slice Tryd.underlying33 hv
  obtain ⟨fuel, hf⟩ := h
  have hf' : DataW.trod enc Tryd.prog W 0 (fun _ => true) true fuel 33 [.slice a l c] = some (d, p) := hf
  rcases open_slice_pairs Tryd.underlying33 Tryd.underlying28 cellsPair rfl rfl (by kernel_rfl) (by kernel_rfl) hf' with ⟨hcs, hx⟩ | ⟨a', len, cap, m, n, V0, V1, D0, D1, P0, P1, hcs, hb, hl, hm, hmm, hx, hi⟩
  · simp at hcs hx
    obtain ⟨rfl, rfl, rfl⟩ := hcs
    obtain ⟨rfl, rfl⟩ := hx
    refine ⟨[], .inl ⟨rfl, none, 0, rfl⟩, fun W' _ sp _ => ⟨1, ?_⟩⟩
    show DataW.trod enc Tryd.prog W' 0 sp true 1 33 [.slice none 0 0] = _
    simp [DataW.trod, Tryd.underlying33]
  · simp [Value.cells] at hcs
    obtain ⟨rfl, rfl, rfl⟩ := hcs
    simp only [Prod.mk.injEq] at hx
    obtain ⟨rfl, rfl⟩ := hx
    simp only [if_true] at hmm
    obtain rfl : m = c := hmm
    obtain ⟨b, off, spot⟩ := a'
    have hVV : ∀ i, i < m → V0 i = .int .i64 (intOf (V0 i)) ∧ V1 i = .int .i64 (intOf (V1 i)) ∧ D0 i = .lit (.int .i64 (intOf (V0 i))) ∧ D1 i = .lit (.int .i64 (intOf (V1 i))) ∧ P0 i = [] ∧ P1 i = [] ∧ (Lit.int .i64 (intOf (V0 i))).wf = true ∧ (Lit.int .i64 (intOf (V1 i))).wf = true := by
      intro i hi'
      obtain ⟨_, _, g0, g1⟩ := hi i hi'
      obtain ⟨x0, e0, y0, w0⟩ := DataW.trod_int Tryd.underlying3 g0
      obtain ⟨x1, e1, y1, w1⟩ := DataW.trod_int Tryd.underlying3 g1
      simp only [List.cons.injEq, and_true] at e0 e1
      simp only [Prod.mk.injEq] at y0 y1
      rw [e0, e1]
      exact ⟨rfl, rfl, y0.1, y1.1, y0.2, y1.2, w0, w1⟩
    by_cases hc0 : m = 0
    · subst hc0
      obtain rfl : l = 0 := by omega
      refine ⟨[], .inl ⟨rfl, _, _, rfl⟩, fun W' _ sp _ => ?_⟩
      have targ : ∃ n, DataW.trod enc Tryd.prog W' 0 sp true n 33 [.slice (some ⟨b, off, spot⟩) 0 0] = some (.slice [] [], []) := by
        cases hsp : sp b
        · simpa [MemPlace.row] using shut_slice_cells (enc := enc) (w := W') (base := 0) (spare := sp) (held := true) (a := ⟨b, off, spot⟩) (len := 0) (cap := 0) Tryd.underlying33 (Nat.zero_le _) (Nat.le_refl _) (Nat.zero_le _) hsp (fun _ => .nil) (fun _ => []) (fun i hi => absurd hi (Nat.not_lt_zero _))
        · simpa [MemPlace.row] using shut_slice_whole_cells (enc := enc) (w := W') (base := 0) (spare := sp) (held := true) (a := ⟨b, off, spot⟩) (len := 0) (cap := 0) Tryd.underlying33 (Nat.zero_le _) (Nat.le_refl _) (Nat.zero_le _) hsp (fun _ => .nil) (fun _ => []) (fun i hi => absurd hi (Nat.not_lt_zero _))
      obtain ⟨n2, hn2⟩ := targ
      exact ⟨n2, by simpa [MemPlace.row, Value.cells] using hn2⟩
    · have hspot : spot = none := by simpa [Addr.add] using World.cell?_spot (hi 0 (by omega)).1
      subst hspot
      have hcell : ∀ i, i < m → W.cell? ⟨b, off + i * 2, none⟩ = some (V0 i) ∧ W.cell? ⟨b, off + i * 2 + 1, none⟩ = some (V1 i) := fun i hi' => by
        obtain ⟨g0, g1, _, _⟩ := hi i hi'
        rw [add_plain] at g0 g1
        exact ⟨g0, g1⟩
      have hbl : b < W.heap.size := World.block_lt_of_cell? _ _ (hcell 0 (by omega)).1
      refine ⟨(List.range l).map fun i => (intOf (V0 i), intOf (V1 i)), .inr ⟨b, off, m, by simp, by simpa using hl, hm, hbl, fun j x hx => ?_⟩, fun W' hb' sp hsp => ?_⟩
      · have hjl : j < l := by
          have := (List.getElem?_eq_some_iff.1 hx).1
          simpa using this
        have hx' : (intOf (V0 j), intOf (V1 j)) = x := by
          rw [List.getElem?_map, List.getElem?_range hjl] at hx
          simpa using hx
        subst hx'
        obtain ⟨e0, e1, _⟩ := hVV j (by omega)
        obtain ⟨g0, g1⟩ := hcell j (by omega)
        exact ⟨g0.trans (congrArg some e0), g1.trans (congrArg some e1)⟩
      · have hsb : sp b = true := hsp (.cell b (off + 0)) (List.mem_append_left _ (MemPlace.mem_row.2 ⟨0, by omega, rfl⟩))
        obtain ⟨n2, hn2⟩ := shut_slice_pairs_whole (enc := enc) (w := W') (base := 0) (spare := sp) (held := true) Tryd.underlying33 Tryd.underlying28 cellsPair rfl rfl (by kernel_rfl) (by kernel_rfl)
          (b := b) (off := off) (len := l) (cap := m) (Nat.zero_le _) hl hm hsb V0 V1 D0 D1 P0 P1
          (fun i hi' => by rw [bcell hb' _ _ hbl]; exact (hcell i hi').1) (fun i hi' => by rw [bcell hb' _ _ hbl]; exact (hcell i hi').2)
          (fun i hi' => by
            obtain ⟨e0, _, y0, _, z0, _, w0, _⟩ := hVV i hi'
            generalize intOf (V0 i) = q at e0 y0 w0
            exact ⟨1, by rw [e0, y0, z0]; simp [DataW.trod, Tryd.underlying3, w0]⟩)
          (fun i hi' => by
            obtain ⟨_, e0, _, y0, _, z0, _, w0⟩ := hVV i hi'
            generalize intOf (V1 i) = q at e0 y0 w0
            exact ⟨1, by rw [e0, y0, z0]; simp [DataW.trod, Tryd.underlying3, w0]⟩)
        exact ⟨n2, hn2⟩
end
end Go.Proofs.YtkppkojpdhgicaaDoor
