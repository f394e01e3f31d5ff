/-
What the cards of stage 4 share: acts as an argument, opened.
-/
import Derived.Test.YtcgkigcokjdkjaaBOpen
import Derived.Test.YtcgkigcokjdkjaaWPuts
import Derived.Test.YtcgkigcokjdkjaaWBack
namespace Go.Proofs.Ytcgkigcokjdkjaa
open Go.ChangeShapes Go.WideShapes Go.ChangeAt Go.RowKit Go.Deep

theorem cellsAct : Try.prog.cellsOf 28 = 3 := by kernel_rfl
section
variable {H : Type} {enc : TypeId × Value → H}
theorem open_acts {W : World} {base : Nat} {v : Value} {d : DataW H} {p : List MemPlace} (hv : Value.okWide Try.prog W .any base 22 v)
    (h : DataW.Trod enc Try.prog W 0 (fun _ => true) true 22 v d p) : ∃ l, RdAct W v l ∧ FitAct l := by
  obtain ⟨a, l, c, rfl⟩ := okWide_slice Try.underlying22 hv
  obtain ⟨fuel, hf⟩ := h
  have hf' : DataW.trod enc Try.prog W 0 (fun _ => true) true fuel 22 [.slice a l c] = some (d, p) := hf
  rcases open_triples Try.underlying22 Try.underlying28 cellsAct rfl rfl rfl (by kernel_rfl) (by kernel_rfl) (by kernel_rfl) hf' with hcs | ⟨a', l', c', hcs, hl, hm, hx⟩
  · simp at hcs
    obtain ⟨rfl, rfl, rfl⟩ := hcs
    exact ⟨[], .inl ⟨none, 0, rfl, rfl⟩, by simp [FitAct]⟩
  · simp at hcs
    obtain ⟨rfl, rfl, rfl⟩ := hcs
    by_cases hl0 : l = 0
    · subst hl0
      exact ⟨[], .inl ⟨_, c, rfl, rfl⟩, by simp [FitAct]⟩
    · obtain ⟨b, off, spot⟩ := a'
      have hspot : spot = none := by
        obtain ⟨v0, _, _, _, _, _, _, h0, _⟩ := hx 0 (by omega)
        simpa [Addr.add] using World.cell?_spot h0
      subst hspot
      have each : ∀ i, i < l → ∃ q : Int × Nat × List Nat, (W.cell? ⟨b, off + i * 3, none⟩ = some (.int .i64 q.1) ∧ W.cell? ⟨b, off + i * 3 + 1, none⟩ = some (.int .u64 (q.2.1 : Nat)) ∧ ∃ u, W.cell? ⟨b, off + i * 3 + 2, none⟩ = some u ∧ Rd W u q.2.2) ∧
          ((-9223372036854775808 ≤ q.1 ∧ q.1 ≤ 9223372036854775807) ∧ q.2.1 < 18446744073709551616 ∧ ∀ x ∈ q.2.2, x < 256) := by
        intro i hi
        obtain ⟨v0, v1, v2, n, y0, y1, y2, h0, h1, h2, g0, g1, g2⟩ := hx i (by omega)
        rw [add_plain] at h0 h1 h2
        obtain ⟨z0, e0, _, w0⟩ := DataW.trod_int Try.underlying3 g0
        obtain ⟨z1, e1, _, w1⟩ := DataW.trod_int Try.underlying26 g1
        simp at e0 e1
        subst e0 e1
        obtain ⟨xs, hr, hb⟩ := rd_of_trod g2
        have b0 : -9223372036854775808 ≤ z0 ∧ z0 ≤ 9223372036854775807 := by simpa [Lit.wf, IntKind.min, IntKind.max, IntKind.signed, IntKind.bits] using w0
        have b1 : 0 ≤ z1 ∧ z1 ≤ 18446744073709551615 := by simpa [Lit.wf, IntKind.min, IntKind.max, IntKind.signed, IntKind.bits] using w1
        refine ⟨(z0, z1.toNat, xs), ⟨h0, ?_, v2, h2, hr⟩, b0, by simp only; omega, hb⟩
        show _ = some (Value.int .u64 ((z1.toNat : Nat) : Int))
        rw [Int.toNat_of_nonneg b1.1]; exact h1
      obtain ⟨f, hf⟩ := choose_lt each
      have hlt : b < W.heap.size := World.block_lt_of_cell? _ _ (hf 0 (by omega)).1.1
      refine ⟨(List.range l).map f, .inr ⟨b, off, c, by simp, by simpa using hl, hm, hlt, fun j q hj => ?_⟩, fun q hq => ?_⟩
      · have hjl : j < l := by
          have := (List.getElem?_eq_some_iff.1 hj).1
          simpa using this
        have e : f j = q := by
          rw [List.getElem?_map, List.getElem?_range hjl] at hj
          simpa using hj
        subst e
        exact (hf j hjl).1
      · obtain ⟨r, hr, rfl⟩ := List.mem_map.1 hq
        exact (hf r (by simpa using hr)).2
theorem cellsU64 : Try.prog.cellsOf 26 = 1 := by kernel_rfl
theorem open_nums {W : World} {base : Nat} {v : Value} {d : DataW H} {p : List MemPlace} (hv : Value.okWide Try.prog W .any base 49 v)
    (h : DataW.Trod enc Try.prog W 0 (fun _ => true) true 49 v d p) : ∃ ns, RdU W v ns ∧ ∀ n ∈ ns, n < 18446744073709551616 := by
  obtain ⟨a, l, c, rfl⟩ := okWide_slice Try.underlying49 hv
  obtain ⟨fuel, hf⟩ := h
  have hf' : DataW.trod enc Try.prog W 0 (fun _ => true) true fuel 49 [.slice a l c] = some (d, p) := hf
  rcases open_ints Try.underlying49 Try.underlying26 cellsU64 hf' with ⟨hcs, _⟩ | ⟨a', l', c', zs, hcs, hb, hl, hm, hz, _, hc, hw⟩
  · simp at hcs
    obtain ⟨rfl, rfl, rfl⟩ := hcs
    exact ⟨[], .inl ⟨none, 0, rfl, rfl⟩, by simp⟩
  · simp at hcs
    obtain ⟨rfl, rfl, rfl⟩ := hcs
    simp only [if_true] at hz
    by_cases hl0 : l = 0
    · subst hl0
      exact ⟨[], .inl ⟨_, c, rfl, rfl⟩, by simp⟩
    · obtain ⟨b, off, spot⟩ := a'
      have hspot : spot = none := by simpa [Addr.add] using World.cell?_spot (hc 0 (by omega))
      subst hspot
      have hu : ∀ z ∈ zs, 0 ≤ z ∧ z ≤ 18446744073709551615 := fun z hz' => by
        have := hw z hz'
        simpa [Lit.wf, IntKind.min, IntKind.max, IntKind.signed, IntKind.bits] using this
      refine ⟨(zs.take l).map Int.toNat, .inr ⟨b, off, c, by simp; omega, by simp; omega, hm, World.block_lt_of_cell? _ _ (hc 0 (by omega)), fun j x hj => ?_⟩, fun x hx => ?_⟩
      · have hjl : j < l := by
          have := (List.getElem?_eq_some_iff.1 hj).1
          simp at this
          omega
        have hjz : j < zs.length := by omega
        have hx : zs[j].toNat = x := by simpa [hjl, hjz] using hj
        have hg := hc j (by omega)
        rw [add_plain] at hg
        have := hu _ (List.getElem_mem hjz)
        rw [hg]
        have e : zs.getD j 0 = (x : Int) := by
          rw [← hx]
          simp [List.getD, List.getElem?_eq_getElem hjz]
          omega
        rw [e]
      · obtain ⟨z, hz', rfl⟩ := List.mem_map.1 hx
        have := hu z (List.mem_of_mem_take hz')
        omega
end
end Go.Proofs.Ytcgkigcokjdkjaa
