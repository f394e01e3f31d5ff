/-
Unsigned integers, and slices of them, as arguments, opened.
-/
import Derived.Test.YtepafmoohlognaaBOpen
import Derived.Test.YtepafmoohlognaaKRows
namespace Go.Proofs.Ytepafmoohlognaa
open Go.ChangeShapes Go.WideShapes Go.ChangeAt Go.RowKit Go.Deep

theorem cellsU64 : Try.prog.cellsOf 26 = 1 := by kernel_rfl
theorem cellsU64s : Try.prog.cellsOf 22 = 1 := by kernel_rfl
theorem u64_of {z : Int} (h : (Lit.int .u64 z).wf = true) : 0 ≤ z ∧ z ≤ 18446744073709551615 := by simpa [Lit.wf, IntKind.min, IntKind.max, IntKind.signed, IntKind.bits] using h
theorem rdU_of_ints {W : World} {A : Option Addr} {l c : Nat} {zs : List Int} (h1 : l ≤ c) (hm : c ≤ maxLen) (h2 : zs.length = c) (hw : ∀ n ∈ zs, (Lit.int .u64 n).wf = true) (h0 : A = none → c = 0)
    (hc : ∀ a, A = some a → ∀ i, i < c → W.cell? (a.add i) = some (.int .u64 (zs.getD i 0))) :
    ∃ xs : List Nat, RdU W (.slice A l c) xs ∧ ∀ x ∈ xs, x < 18446744073709551616 := by
  rcases A with _ | a
  · have := h0 rfl
    subst this
    obtain rfl : l = 0 := by omega
    exact ⟨[], .inl ⟨none, 0, rfl, rfl, fun _ => rfl⟩, by simp⟩
  · by_cases hl : l = 0
    · subst hl
      exact ⟨[], .inl ⟨some a, c, rfl, rfl, fun h => by cases h⟩, by simp⟩
    · obtain ⟨b, off, spot⟩ := a
      have hc' := hc _ rfl
      have hspot : spot = none := by simpa [Addr.add] using World.cell?_spot (hc' 0 (by omega))
      subst hspot
      refine ⟨(zs.take l).map Int.toNat, .inr ⟨b, off, c, by simp; omega, by simp; omega, hm, World.block_lt_of_cell? _ _ (hc' 0 (by omega)), fun j x hj => ?_⟩, fun x hx => ?_⟩
      · have hjl : j < l := by
          have := (List.getElem?_eq_some_iff.1 hj).1
          simp at this
          omega
        have hjz : j < zs.length := by omega
        have hx : zs[j].toNat = x := by simpa [hjl, hjz] using hj
        have hg := hc' j (by omega)
        rw [add_plain] at hg
        have hu := u64_of (hw _ (List.getElem_mem hjz))
        rw [hg]
        have e : zs.getD j 0 = (x : Int) := by
          rw [← hx]
          simp [List.getD, List.getElem?_eq_getElem hjz]
          omega
        rw [e]
      · obtain ⟨z, hz, rfl⟩ := List.mem_map.1 hx
        have hu := u64_of (hw z (List.mem_of_mem_take hz))
        omega
section
variable {H : Type} {enc : TypeId × Value → H}
theorem open_nums {W : World} {base : Nat} {v : Value} {d : DataW H} {p : List MemPlace} (hv : Value.okWide Try.prog W .any base 22 v)
    (h : DataW.Trod enc Try.prog W 0 (fun _ => true) true 22 v d p) : ∃ ns, RdU W v ns ∧ ∀ n ∈ ns, n < 18446744073709551616 := by
  obtain ⟨a, l, c, rfl⟩ := okWide_slice Try.underlying22 hv
  obtain ⟨fuel, hf⟩ := h
  have hf' : DataW.trod enc Try.prog W 0 (fun _ => true) true fuel 22 [.slice a l c] = some (d, p) := hf
  rcases open_ints Try.underlying22 Try.underlying26 cellsU64 hf' with ⟨hcs, _⟩ | ⟨a', l', c', zs, hcs, hb, hl, hm, hz, _, hc, hw⟩
  · simp at hcs
    obtain ⟨rfl, rfl, rfl⟩ := hcs
    exact ⟨[], .inl ⟨none, 0, rfl, rfl, fun _ => rfl⟩, by simp⟩
  · simp at hcs
    obtain ⟨rfl, rfl, rfl⟩ := hcs
    simp only [if_true] at hz
    exact rdU_of_ints hl hm hz hw (fun e => by cases e) (fun a ha i hi => by obtain rfl := Option.some.inj ha; exact hc i (by omega))
theorem open_clocks {W : World} {base : Nat} {v : Value} {d : DataW H} {p : List MemPlace} (hv : Value.okWide Try.prog W .any base 37 v)
    (h : DataW.Trod enc Try.prog W 0 (fun _ => true) true 37 v d p) : ∃ ls, RdC W v ls ∧ ∀ xs ∈ ls, ∀ x ∈ xs, x < 18446744073709551616 := by
  obtain ⟨a, l, c, rfl⟩ := okWide_slice Try.underlying37 hv
  obtain ⟨fuel, hf⟩ := h
  have hf' : DataW.trod enc Try.prog W 0 (fun _ => true) true fuel 37 [.slice a l c] = some (d, p) := hf
  rcases open_int_rows Try.underlying37 Try.underlying22 Try.underlying26 cellsU64s cellsU64 hf' with ⟨hcs, _⟩ | ⟨a', l', c', A, L, C, Z, hcs, hb, hl, hm, _, hrow⟩
  · simp at hcs
    obtain ⟨rfl, rfl, rfl⟩ := hcs
    exact ⟨[], .inl ⟨none, 0, rfl, rfl, fun _ => rfl⟩, by simp⟩
  · simp at hcs
    obtain ⟨rfl, rfl, rfl⟩ := hcs
    by_cases hl0 : l = 0
    · subst hl0
      exact ⟨[], .inl ⟨_, c, rfl, rfl, fun e => by cases e⟩, by simp⟩
    · obtain ⟨b, off, spot⟩ := a'
      have hspot : spot = none := by simpa [Addr.add] using World.cell?_spot (hrow 0 (by omega)).1
      subst hspot
      have each : ∀ r, r < l → ∃ xs : List Nat, RdU W (.slice (A r) (L r) (C r)) xs ∧ ∀ x ∈ xs, x < 18446744073709551616 := fun r hr => by
        obtain ⟨_, h1, h2, h3, h4, h5, h6⟩ := hrow r (by omega)
        exact rdU_of_ints h1 h2 h3 h4 h5 (fun a ha i hi => (h6 a ha).2 i hi)
      obtain ⟨f, hf⟩ := choose_lt each
      refine ⟨(List.range l).map f, .inr ⟨b, off, c, by simp, by simpa using hl, hm, World.block_lt_of_cell? _ _ (hrow 0 (by omega)).1, fun j ps hj => ?_⟩, fun ps hp x hx => ?_⟩
      · have hjl : j < l := by
          have := (List.getElem?_eq_some_iff.1 hj).1
          simpa using this
        have e : f j = ps := by
          rw [List.getElem?_map, List.getElem?_range hjl] at hj
          simpa using hj
        subst e
        have hg := (hrow j (by omega)).1
        rw [add_plain] at hg
        exact ⟨_, hg, (hf j hjl).1⟩
      · obtain ⟨r, hr, rfl⟩ := List.mem_map.1 hp
        exact (hf r (by simpa using hr)).2 x hx
end
end Go.Proofs.Ytepafmoohlognaa
