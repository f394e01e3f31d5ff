/-
Stamps, and slices of stamps, as arguments, opened.
-/
import Derived.Test.YtfgopiopeidfmaaDoorBOpen
import Derived.Test.YtfgopiopeidfmaaDoorSIDs
namespace Go.Proofs.YtfgopiopeidfmaaDoor
open Go.ChangeShapes Go.WideShapes Go.ChangeAt Go.RowKit Go.Deep

theorem cellsID : Tryd.prog.cellsOf 24 = 2 := by kernel_rfl
def FitI (x : Nat × Int) : Prop := x.1 < 18446744073709551616 ∧ -9223372036854775808 ≤ x.2 ∧ x.2 ≤ 9223372036854775807
section
variable {H : Type} {enc : TypeId × Value → H}
theorem id_of_trods {W : World} {n : Nat} {v0 v1 : Value} {y0 y1 : DataW H × List MemPlace} (g0 : DataW.trod enc Tryd.prog W 0 (fun _ => true) true n 22 [v0] = some y0) (g1 : DataW.trod enc Tryd.prog W 0 (fun _ => true) true n 3 [v1] = some y1) :
    ∃ x : Nat × Int, v0 = .int .u64 (x.1 : Int) ∧ v1 = .int .i64 x.2 ∧ FitI x := by
  obtain ⟨z0, e0, _, w0⟩ := DataW.trod_int Tryd.underlying22 g0
  obtain ⟨z1, e1, _, w1⟩ := DataW.trod_int Tryd.underlying3 g1
  simp at e0 e1
  subst e0 e1
  have b0 : 0 ≤ z0 ∧ z0 ≤ 18446744073709551615 := by simpa [Lit.wf, IntKind.min, IntKind.max, IntKind.signed, IntKind.bits] using w0
  have b1 : -9223372036854775808 ≤ z1 ∧ z1 ≤ 9223372036854775807 := by simpa [Lit.wf, IntKind.min, IntKind.max, IntKind.signed, IntKind.bits] using w1
  refine ⟨(z0.toNat, z1), ?_, rfl, ?_, b1⟩
  · show Value.int .u64 z0 = Value.int .u64 ((z0.toNat : Nat) : Int)
    rw [Int.toNat_of_nonneg b0.1]
  · show z0.toNat < 18446744073709551616
    omega
set_option maxRecDepth 100000 in
theorem open_id {W : World} {base : Nat} {v : Value} {d : DataW H} {p : List MemPlace} (hv : Value.okWide Tryd.prog W .any base 24 v)
    (h : DataW.Trod enc Tryd.prog W 0 (fun _ => true) true 24 v d p) : ∃ x : Nat × Int, v = idV x.1 x.2 ∧ FitI x := by
  obtain ⟨cs, rfl, hcs⟩ := okWide_struct Tryd.underlying24 hv
  rw [cellsID] at hcs
  obtain ⟨fuel, hf⟩ := h
  obtain ⟨xs, k, hk, hxy, _, hxl, hff⟩ := DataW.trod_struct Tryd.underlying24 hf
  obtain ⟨v0, v1, rfl⟩ : ∃ v0 v1, cs = #[v0, v1] := by
    obtain ⟨l⟩ := cs
    match l, hcs with
    | [a, b], _ => exact ⟨a, b, rfl⟩
  have c0 : Tryd.prog.cellsOf 22 = 1 := by kernel_rfl
  have c1 : Tryd.prog.cellsOf 3 = 1 := by kernel_rfl
  match xs, hxl with
  | [y0, y1], _ =>
    have g0 := hff 0 _ rfl
    have g1 := hff 1 _ rfl
    simp [Value.cells, c0, c1] at g0 g1
    obtain ⟨x, rfl, rfl, hx⟩ := id_of_trods g0 g1
    exact ⟨x, rfl, hx⟩
set_option maxRecDepth 100000 in
theorem open_ids {W : World} {base : Nat} {v : Value} {d : DataW H} {p : List MemPlace} (hv : Value.okWide Tryd.prog W .any base 29 v)
    (h : DataW.Trod enc Tryd.prog W 0 (fun _ => true) true 29 v d p) : ∃ l, RdI W v l ∧ ∀ x ∈ l, FitI x := by
  obtain ⟨a, l, c, rfl⟩ := okWide_slice Tryd.underlying29 hv
  obtain ⟨fuel, hf⟩ := h
  have hf' : DataW.trod enc Tryd.prog W 0 (fun _ => true) true fuel 29 [.slice a l c] = some (d, p) := hf
  rcases open_slice Tryd.underlying29 hf' with h0 | ⟨a', len, cap, m, n, D, Pl, hcs, hb, hl, hm, hmm, _, hx⟩
  · have hcs := h0.1
    simp at hcs
    obtain ⟨rfl, rfl, rfl⟩ := hcs
    exact ⟨[], .inl ⟨none, 0, rfl, rfl, fun _ => rfl⟩, by simp⟩
  · simp at hcs
    obtain ⟨rfl, rfl, rfl⟩ := hcs
    simp only [if_true] at hmm
    subst hmm
    by_cases hl0 : l = 0
    · subst hl0
      exact ⟨[], .inl ⟨_, _, rfl, rfl, fun e => by cases e⟩, by simp⟩
    · have two : ∀ i, i < m → ∃ x : Nat × Int, W.cell? (a'.add (i * 2)) = some (.int .u64 (x.1 : Int)) ∧ W.cell? (a'.add (i * 2 + 1)) = some (.int .i64 x.2) ∧ FitI x := by
        intro i hi
        obtain ⟨cs', h1, h2⟩ := hx i hi
        rw [cellsID] at h1
        obtain ⟨_, hlen, hcell⟩ := World.cells?_some h1
        obtain ⟨xs, k, hk, hxy, _, hxl, hff⟩ := DataW.trod_struct Tryd.underlying24 h2
        have c0 : Tryd.prog.cellsOf 22 = 1 := by kernel_rfl
        have c1 : Tryd.prog.cellsOf 3 = 1 := by kernel_rfl
        match xs, hxl, cs', hlen with
        | [y0, y1], _, [v0, v1], _ =>
          have g0 := hff 0 _ rfl
          have g1 := hff 1 _ rfl
          simp [c0, c1] at g0 g1
          obtain ⟨x, rfl, rfl, hx⟩ := id_of_trods g0 g1
          have e0 := hcell 0 (by omega)
          have e1 := hcell 1 (by omega)
          rw [add_add] at e0 e1
          exact ⟨x, by simpa using e0, by simpa using e1, hx⟩
      obtain ⟨b, off, spot⟩ := a'
      have hspot : spot = none := by
        obtain ⟨x, h0, _⟩ := two 0 (by omega)
        simpa [Addr.add] using World.cell?_spot h0
      subst hspot
      have each : ∀ i, i < l → ∃ q : Nat × Int, (W.cell? ⟨b, off + i * 2, none⟩ = some (.int .u64 (q.1 : Int)) ∧ W.cell? ⟨b, off + i * 2 + 1, none⟩ = some (.int .i64 q.2)) ∧ FitI q := by
        intro i hi
        obtain ⟨x, h0, h1, hx⟩ := two i (by omega)
        rw [add_plain] at h0 h1
        exact ⟨x, ⟨h0, h1⟩, hx⟩
      obtain ⟨f, hf⟩ := choose_lt each
      have hlt : b < W.heap.size := World.block_lt_of_cell? _ _ (hf 0 (by omega)).1.1
      refine ⟨(List.range l).map f, .inr ⟨b, off, _, by simp, by simpa using hl, hm, hlt, fun j q hj => ?_⟩, fun q hq => ?_⟩
      · have hjl : j < l := by
          have := (List.getElem?_eq_some_iff.1 hj).1
          simpa using this
        have e : f j = q := by
          rw [List.getElem?_map, List.getElem?_range hjl] at hj
          simpa using hj
        subst e
        exact (hf j hjl).1
      · obtain ⟨r, hr, rfl⟩ := List.mem_map.1 hq
        exact (hf r (by simpa using hr)).2
end
end Go.Proofs.YtfgopiopeidfmaaDoor
