/-
A tree as an argument, opened: how long its texts are, by the bulk of what it reads.
-/
import Derived.Test.YtlagjnlajkmmeaaGreatDoorTrOpen
namespace Go.Proofs.YtlagjnlajkmmeaaGreatDoor.U
open Go.ChangeShapes Go.WideShapes Go.ChangeAt Go.RowKit Go.Deep

section
variable {H : Type} {enc : TypeId × Value → H}
theorem bulk_mem : ∀ (l : List (DataW H × List MemPlace)) (i : Nat) z, l[i]? = some z → Rows.uptoBulk z.1 ≤ Rows.uptoBulkAll (l.map (·.1))
  | [], _, _, h => by simp at h
  | a :: l, 0, z, h => by
    simp at h
    subst h
    simp only [List.map_cons, Rows.uptoBulkAll]
    omega
  | a :: l, i + 1, z, h => by
    have := bulk_mem l i z (by simpa using h)
    simp only [List.map_cons, Rows.uptoBulkAll]
    omega
theorem maxTL_of {B : Nat} : ∀ (l : List Tr), (∀ x ∈ l, maxT x ≤ B) → maxTL l ≤ B
  | [], _ => Nat.zero_le _
  | a :: l, h => by
    unfold maxTL
    have h1 := h a List.mem_cons_self
    have h2 := maxTL_of l (fun z hz => h z (List.mem_cons_of_mem _ hz))
    omega
set_option maxRecDepth 100000 in
theorem node_of_trod (W : World) : ∀ (f : Nat) (cs : List Value) (y : DataW H × List MemPlace), DataW.trod enc Tryz.prog W 0 (fun _ => true) true f 24 cs = some y →
    ∃ (x : Tr) (u : Value), cs = [.int .i64 x.kind, .int .i64 x.num, .string ⟨x.text.toArray⟩, .int .i64 x.a, .int .i64 x.b, u] ∧ FitN x ∧ RdA (fun _ => True) W x.args u ∧ maxT x ≤ Rows.uptoBulk y.1 := by
  intro f
  induction f using Nat.strongRecOn with
  | _ f ih =>
  intro cs y hf
  obtain ⟨xs, k, hk, hxy, hlen, hxl, hff⟩ := DataW.trod_struct Tryz.underlying24 hf
  rw [cellsNode] at hlen
  match xs, hxl, cs, hlen with
  | [y0, y1, y2, y3, y4, y5], _, [v0, v1, v2, v3, v4, v5], _ =>
    have g0 := hff 0 _ rfl
    have g1 := hff 1 _ rfl
    have g2 := hff 2 _ rfl
    have g3 := hff 3 _ rfl
    have g4 := hff 4 _ rfl
    have g5 := hff 5 _ rfl
    simp [cellsIntN, cellsI64N, cellsStrN, cellsNodes] at g0 g1 g2 g3 g4 g5
    obtain ⟨kd, nm, s, a, b, rfl, rfl, rfl, rfl, rfl, b0, b1, b2, b3, b4⟩ := parts_of g0 g1 g2 g3 g4
    have ey2 : y2.1 = .lit (.string s) := by
      obtain ⟨s', e2, ex, _⟩ := DataW.trod_string Tryz.underlying9 g2
      simp at e2
      rw [ex, ← e2]
    have hagg : y.1 = .agg [y0.1, y1.1, y2.1, y3.1, y4.1, y5.1] := by rw [hxy]; rfl
    suffices h : ∃ (l : List Tr), RdA (fun _ => True) W l v5 ∧ maxTL l ≤ Rows.uptoBulk y5.1 by
      obtain ⟨l, hl, hw⟩ := h
      refine ⟨.mk kd nm s a b l, v5, rfl, ⟨b0, b1, b2, b3, b4⟩, hl, ?_⟩
      rw [hagg, maxT_eq]
      simp only [Tr.text, Tr.args, Rows.uptoBulk, Rows.uptoBulkAll]
      rw [ey2]
      simp only [Rows.uptoBulk]
      omega
    rcases DataW.trod_slice Tryz.underlying22 g5 with ⟨h0, _⟩ | ⟨ad, len, cap, elems, rest, n, hn, hcs, hy5, hb, hl, hm, hlen, hel, _, _⟩
    · simp at h0
      subst h0
      exact ⟨[], .inl ⟨none, 0, rfl, rfl, fun _ => rfl⟩, Nat.zero_le _⟩
    · simp at hcs
      subst hcs
      by_cases hl0 : len = 0
      · subst hl0
        exact ⟨[], .inl ⟨some ad, cap, rfl, rfl, fun e => by cases e⟩, Nat.zero_le _⟩
      · have each : ∀ i, i < len → ∃ q : Tr × Value, (W.cell? (ad.add (i * 6)) = some (.int .i64 q.1.kind) ∧ W.cell? (ad.add (i * 6 + 1)) = some (.int .i64 q.1.num) ∧ W.cell? (ad.add (i * 6 + 2)) = some (.string ⟨q.1.text.toArray⟩) ∧
            W.cell? (ad.add (i * 6 + 3)) = some (.int .i64 q.1.a) ∧ W.cell? (ad.add (i * 6 + 4)) = some (.int .i64 q.1.b) ∧ W.cell? (ad.add (i * 6 + 5)) = some q.2) ∧ FitN q.1 ∧ RdA (fun _ => True) W q.1.args q.2 ∧ ∀ z, elems[i]? = some z → maxT q.1 ≤ Rows.uptoBulk z.1 := by
          intro i hi
          have h := hel i hi
          rw [List.getElem?_eq_getElem (by omega), cellsNode] at h
          obtain ⟨cs', h1, h2⟩ := Option.bind_eq_some_iff.1 h
          obtain ⟨q, u, rfl, hq, hr, hwq⟩ := ih n (by omega) cs' _ h2
          obtain ⟨_, _, hcell⟩ := World.cells?_some h1
          have e0 := hcell 0 (by omega)
          have e1 := hcell 1 (by omega)
          have e2 := hcell 2 (by omega)
          have e3 := hcell 3 (by omega)
          have e4 := hcell 4 (by omega)
          have e5 := hcell 5 (by omega)
          rw [add_add] at e0 e1 e2 e3 e4 e5
          exact ⟨(q, u), ⟨by simpa using e0, by simpa using e1, by simpa using e2, by simpa using e3, by simpa using e4, by simpa using e5⟩, hq, hr, fun z hz => by rw [List.getElem?_eq_getElem (by omega)] at hz; injection hz with hz; subst hz; exact hwq⟩
        obtain ⟨bk, off, spot⟩ := ad
        have hspot : spot = none := by
          obtain ⟨q, ⟨h0, _⟩, _⟩ := each 0 (by omega)
          simpa [Addr.add] using World.cell?_spot h0
        subst hspot
        obtain ⟨g, hg⟩ := choose_lt each
        have hlt : bk < W.heap.size := World.block_lt_of_cell? _ _ (hg 0 (by omega)).1.1
        have hwts : maxTL ((List.range len).map fun i => (g i).1) ≤ Rows.uptoBulk y5.1 := by
          rw [hy5]
          simp only [Rows.uptoBulk]
          have h1 := maxTL_of (B := Rows.uptoBulkAll (elems.map (·.1))) ((List.range len).map fun i => (g i).1) (fun x hx => by
            obtain ⟨i, hi, rfl⟩ := List.mem_map.1 hx
            have hil : i < len := by simpa using hi
            have he : elems[i]? = some (elems[i]'(by omega)) := List.getElem?_eq_getElem (by omega)
            exact Nat.le_trans ((hg i hil).2.2.2 _ he) (bulk_mem elems i _ he))
          omega
        refine ⟨(List.range len).map fun i => (g i).1, .inr ⟨bk, off, cap, by simp, by simpa using hl, hm, hlt, trivial, RdL.of _ _ _ fun i x hx => ?_⟩, hwts⟩
        have hil : i < len := by
          have := (List.getElem?_eq_some_iff.1 hx).1
          simpa using this
        have e : (g i).1 = x := by
          rw [List.getElem?_map, List.getElem?_range hil] at hx
          simpa using hx
        subst e
        obtain ⟨⟨c0, c1, c2, c3, c4, c5⟩, hq, hr, _⟩ := hg i hil
        rw [add_plain] at c0 c1 c2 c3 c4 c5
        exact RdC_iff.2 ⟨hq, _, ⟨c0, c1, c2, c3, c4, c5⟩, hr⟩
set_option maxRecDepth 100000 in
theorem open_node {W : World} {base : Nat} {v : Value} {d : DataW H} {p : List MemPlace} (hv : Value.okWide Tryz.prog W .any base 24 v)
    (h : DataW.Trod enc Tryz.prog W 0 (fun _ => true) true 24 v d p) : ∃ x : Tr, RdN (fun _ => True) W x v ∧ maxT x ≤ Rows.uptoBulk d := by
  obtain ⟨cs, rfl, hcs⟩ := okWide_struct Tryz.underlying24 hv
  obtain ⟨fuel, hf⟩ := h
  obtain ⟨x, u, he, hq, hr, hw⟩ := node_of_trod W fuel _ _ hf
  refine ⟨x, ⟨hq, u, ?_, hr⟩, hw⟩
  have : cs.toList = _ := he
  unfold nodeV
  congr 1
  exact Array.toList_inj.1 this
end
end Go.Proofs.YtlagjnlajkmmeaaGreatDoor.U
