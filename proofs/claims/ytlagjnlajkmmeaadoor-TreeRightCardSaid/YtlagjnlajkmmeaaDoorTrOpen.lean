/-
A tree as an argument, opened.
-/
import Derived.Test.YtlagjnlajkmmeaaDoorBOpen
import Derived.Test.YtlagjnlajkmmeaaDoorTrPrM
import Derived.SizedLaws
namespace Go.Proofs.YtlagjnlajkmmeaaDoor
open Go.ChangeShapes Go.WideShapes Go.ChangeAt Go.RowKit Go.Deep

theorem cellsNode : Tryd.prog.cellsOf 30 = 6 := by kernel_rfl
theorem cellsNodes : Tryd.prog.cellsOf 28 = 1 := by kernel_rfl
theorem cellsIntN : Tryd.prog.cellsOf 3 = 1 := by kernel_rfl
theorem cellsI64N : Tryd.prog.cellsOf 2 = 1 := by kernel_rfl
theorem cellsStrN : Tryd.prog.cellsOf 9 = 1 := by kernel_rfl
theorem in64_of {x : Int} (wx : (Lit.int .i64 x).wf = true) : In64 x := by
  simpa [Lit.wf, IntKind.min, IntKind.max, IntKind.signed, IntKind.bits] using wx
section
variable {H : Type} {enc : TypeId × Value → H}
set_option maxRecDepth 100000 in
theorem parts_of {W : World} {v0 v1 v2 v3 v4 : Value} {n : Nat} {y0 y1 y2 y3 y4 : DataW H × List MemPlace}
    (g0 : DataW.trod enc Tryd.prog W 0 (fun _ => true) true n 3 [v0] = some y0) (g1 : DataW.trod enc Tryd.prog W 0 (fun _ => true) true n 2 [v1] = some y1)
    (g2 : DataW.trod enc Tryd.prog W 0 (fun _ => true) true n 9 [v2] = some y2) (g3 : DataW.trod enc Tryd.prog W 0 (fun _ => true) true n 3 [v3] = some y3) (g4 : DataW.trod enc Tryd.prog W 0 (fun _ => true) true n 3 [v4] = some y4) :
    ∃ (k m : Int) (s : List UInt8) (a b : Int), v0 = .int .i64 k ∧ v1 = .int .i64 m ∧ v2 = .string ⟨s.toArray⟩ ∧ v3 = .int .i64 a ∧ v4 = .int .i64 b ∧ In64 k ∧ In64 m ∧ In64 a ∧ In64 b ∧ s.length ≤ maxLen := by
  obtain ⟨z0, e0, _, w0⟩ := DataW.trod_int Tryd.underlying3 g0
  obtain ⟨z1, e1, _, w1⟩ := DataW.trod_int Tryd.underlying2 g1
  obtain ⟨s, e2, _, w2⟩ := DataW.trod_string Tryd.underlying9 g2
  obtain ⟨z3, e3, _, w3⟩ := DataW.trod_int Tryd.underlying3 g3
  obtain ⟨z4, e4, _, w4⟩ := DataW.trod_int Tryd.underlying3 g4
  simp at e0 e1 e2 e3 e4
  subst e0 e1 e2 e3 e4
  exact ⟨z0, z1, s.data.toList, z3, z4, rfl, rfl, rfl, rfl, rfl, in64_of w0, in64_of w1, in64_of w3, in64_of w4, by rw [Array.length_toList]; exact w2⟩
set_option maxRecDepth 100000 in
theorem node_of_trod (W : World) : ∀ (f : Nat) (cs : List Value) (y : DataW H × List MemPlace), DataW.trod enc Tryd.prog W 0 (fun _ => true) true f 30 cs = some y →
    ∃ (x : Tr) (u : Value), cs = [.int .i64 x.kind, .int .i64 x.num, .string ⟨x.text.toArray⟩, .int .i64 x.a, .int .i64 x.b, u] ∧ FitN x ∧ RdA (fun _ => True) W x.args u ∧ ∀ B, (DataW.weights Tryd.prog 30 y.1).all (· ≤ B) = true → maxT x ≤ B := by
  intro f
  induction f using Nat.strongRecOn with
  | _ f ih =>
  intro cs y hf
  obtain ⟨xs, k, hk, hxy, hlen, hxl, hff⟩ := DataW.trod_struct Tryd.underlying30 hf
  rw [cellsNode] at hlen
  match xs, hxl, cs, hlen with
  | [y0, y1, y2, y3, y4, y5], _, [v0, v1, v2, v3, v4, v5], _ =>
    have g0 := hff 0 _ rfl
    have g1 := hff 1 _ rfl
    have g2 := hff 2 _ rfl
    have g3 := hff 3 _ rfl
    have g4 := hff 4 _ rfl
    have g5 := hff 5 _ rfl
    simp [cellsIntN, cellsI64N, cellsStrN, cellsNodes] at g0 g1 g2 g3 g4 g5
    obtain ⟨kd, nm, s, a, b, rfl, rfl, rfl, rfl, rfl, b0, b1, b2, b3, b4⟩ := parts_of g0 g1 g2 g3 g4
    have ey2 : y2.1 = .lit (.string s) := by
      obtain ⟨s', e2, ex, _⟩ := DataW.trod_string Tryd.underlying9 g2
      simp at e2
      rw [ex, ← e2]
    have hagg : y.1 = .agg [y0.1, y1.1, y2.1, y3.1, y4.1, y5.1] := by rw [hxy]; rfl
    suffices h : ∃ (l : List Tr), RdA (fun _ => True) W l v5 ∧ ∀ B, (DataW.weights Tryd.prog 28 y5.1).all (· ≤ B) = true → maxTL l ≤ B by
      obtain ⟨l, hl, hw⟩ := h
      refine ⟨.mk kd nm s a b l, v5, rfl, ⟨b0, b1, b2, b3, b4⟩, hl, fun B hB => ?_⟩
      rw [hagg] at hB
      unfold DataW.weights at hB
      rw [Tryd.underlying30] at hB
      simp only [List.map_cons, List.map_nil, DataW.weightsEach, List.all_append, Bool.and_eq_true] at hB
      obtain ⟨_, _, h2, _, _, h5, _⟩ := hB
      rw [ey2] at h2
      simp only [DataW.weights, List.all_cons, List.all_nil, Bool.and_true, decide_eq_true_eq] at h2
      have := hw B h5
      rw [maxT_eq]
      simp only [Tr.text, Tr.args]
      omega
    rcases DataW.trod_slice Tryd.underlying28 g5 with ⟨h0, _⟩ | ⟨ad, len, cap, elems, rest, n, hn, hcs, hy5, hb, hl, hm, hlen, hel, _, _⟩
    · simp at h0
      subst h0
      exact ⟨[], .inl ⟨none, 0, rfl, rfl, fun _ => rfl⟩, fun B _ => Nat.zero_le _⟩
    · simp at hcs
      subst hcs
      by_cases hl0 : len = 0
      · subst hl0
        exact ⟨[], .inl ⟨some ad, cap, rfl, rfl, fun e => by cases e⟩, fun B _ => Nat.zero_le _⟩
      · have each : ∀ i, i < len → ∃ q : Tr × Value, (W.cell? (ad.add (i * 6)) = some (.int .i64 q.1.kind) ∧ W.cell? (ad.add (i * 6 + 1)) = some (.int .i64 q.1.num) ∧ W.cell? (ad.add (i * 6 + 2)) = some (.string ⟨q.1.text.toArray⟩) ∧
            W.cell? (ad.add (i * 6 + 3)) = some (.int .i64 q.1.a) ∧ W.cell? (ad.add (i * 6 + 4)) = some (.int .i64 q.1.b) ∧ W.cell? (ad.add (i * 6 + 5)) = some q.2) ∧ FitN q.1 ∧ RdA (fun _ => True) W q.1.args q.2 ∧ ∀ B, (∀ z, elems[i]? = some z → (DataW.weights Tryd.prog 30 z.1).all (· ≤ B) = true) → maxT q.1 ≤ B := by
          intro i hi
          have h := hel i hi
          rw [List.getElem?_eq_getElem (by omega), cellsNode] at h
          obtain ⟨cs', h1, h2⟩ := Option.bind_eq_some_iff.1 h
          obtain ⟨q, u, rfl, hq, hr, hwq⟩ := ih n (by omega) cs' _ h2
          obtain ⟨_, _, hcell⟩ := World.cells?_some h1
          have e0 := hcell 0 (by omega)
          have e1 := hcell 1 (by omega)
          have e2 := hcell 2 (by omega)
          have e3 := hcell 3 (by omega)
          have e4 := hcell 4 (by omega)
          have e5 := hcell 5 (by omega)
          rw [add_add] at e0 e1 e2 e3 e4 e5
          exact ⟨(q, u), ⟨by simpa using e0, by simpa using e1, by simpa using e2, by simpa using e3, by simpa using e4, by simpa using e5⟩, hq, hr, fun B hB => hwq B (hB _ (List.getElem?_eq_getElem (by omega)))⟩
        obtain ⟨bk, off, spot⟩ := ad
        have hspot : spot = none := by
          obtain ⟨q, ⟨h0, _⟩, _⟩ := each 0 (by omega)
          simpa [Addr.add] using World.cell?_spot h0
        subst hspot
        obtain ⟨g, hg⟩ := choose_lt each
        have hlt : bk < W.heap.size := World.block_lt_of_cell? _ _ (hg 0 (by omega)).1.1
        have hwts : ∀ B, (DataW.weights Tryd.prog 28 y5.1).all (· ≤ B) = true → maxTL ((List.range len).map fun i => (g i).1) ≤ B := fun B hB => by
          have hall : ∀ (l : List (DataW H × List MemPlace)), (DataW.weightsAll Tryd.prog 30 (l.map (·.1))).all (· ≤ B) = true → ∀ (i : Nat) z, l[i]? = some z → (DataW.weights Tryd.prog 30 z.1).all (· ≤ B) = true := by
            intro l
            induction l with
            | nil => intro _ i z hz; simp at hz
            | cons a l ihl =>
              intro h i z hz
              simp only [List.map_cons, DataW.weightsAll, List.all_append, Bool.and_eq_true] at h
              rcases i with _ | i
              · simp at hz; subst hz; exact h.1
              · exact ihl h.2 i z (by simpa using hz)
          rw [hy5] at hB
          unfold DataW.weights at hB
          rw [Tryd.underlying28] at hB
          simp only [List.all_cons, List.all_append, Bool.and_eq_true] at hB
          have hel2 := hall elems hB.2.1
          have hmx : ∀ (l : List Tr), (∀ x ∈ l, maxT x ≤ B) → maxTL l ≤ B := by
            intro l
            induction l with
            | nil => intro _; exact Nat.zero_le _
            | cons a l ihl =>
              intro h
              unfold maxTL
              have h1 := h a List.mem_cons_self
              have h2 := ihl (fun z hz => h z (List.mem_cons_of_mem _ hz))
              omega
          refine hmx _ fun x hx => ?_
          obtain ⟨i, hi, rfl⟩ := List.mem_map.1 hx
          exact (hg i (by simpa using hi)).2.2.2 B (fun z hz => hel2 i z hz)
        refine ⟨(List.range len).map fun i => (g i).1, .inr ⟨bk, off, cap, by simp, by simpa using hl, hm, hlt, trivial, RdL.of _ _ _ fun i x hx => ?_⟩, hwts⟩
        have hil : i < len := by
          have := (List.getElem?_eq_some_iff.1 hx).1
          simpa using this
        have e : (g i).1 = x := by
          rw [List.getElem?_map, List.getElem?_range hil] at hx
          simpa using hx
        subst e
        obtain ⟨⟨c0, c1, c2, c3, c4, c5⟩, hq, hr, _⟩ := hg i hil
        rw [add_plain] at c0 c1 c2 c3 c4 c5
        exact RdC_iff.2 ⟨hq, _, ⟨c0, c1, c2, c3, c4, c5⟩, hr⟩
set_option maxRecDepth 100000 in
theorem open_node {W : World} {base : Nat} {v : Value} {d : DataW H} {p : List MemPlace} (hv : Value.okWide Tryd.prog W .any base 30 v)
    (h : DataW.Trod enc Tryd.prog W 0 (fun _ => true) true 30 v d p) : ∃ x : Tr, RdN (fun _ => True) W x v ∧ ∀ B, (DataW.weights Tryd.prog 30 d).all (· ≤ B) = true → maxT x ≤ B := by
  obtain ⟨cs, rfl, hcs⟩ := okWide_struct Tryd.underlying30 hv
  obtain ⟨fuel, hf⟩ := h
  obtain ⟨x, u, he, hq, hr, hw⟩ := node_of_trod W fuel _ _ hf
  refine ⟨x, ⟨hq, u, ?_, hr⟩, hw⟩
  have : cs.toList = _ := he
  unfold nodeV
  congr 1
  exact Array.toList_inj.1 this
end
end Go.Proofs.YtlagjnlajkmmeaaDoor
