/-
What frames share: the world of the witness; arguments that are bytes, parts, integers, or structs of three cells, opened.
-/
import Derived.Test.YtlagjnlajkmmeaaDoorRows
import Derived.Test.YtlagjnlajkmmeaaDoorBRead
import Derived.WalkKit
import Derived.ProofKit
import Derived.OpenShut
import Derived.Deep.DeepHandedRow
import Derived.Deep.Matrix
import Derived.Carry
import Derived.Lib.LaidTab
import Derived.Stop.LaidErr
import Derived.Lay
import Derived.SevenTiedAt
namespace Go.Proofs.YtlagjnlajkmmeaaDoor
open Go.ChangeShapes Go.WideShapes Go.ChangeAt Go.RowKit Go.Deep

theorem own : ownKnob Tryd.prog.godebug = none := by kernel_rfl
theorem laidOut : laidOutB Tryd.prog = true := by kernel_rfl

/-- 'There is an input that fits', at a world in which the listed variables are laid. -/
theorem witness_row_zip {H : Type} {enc : TypeId × Value → H} {C : Checked} {os : Os} {f : FuncId} {fn : Func} {s : OpenSpec} {conds : List PathCond} {apart : Bool} {laid : List (String × DataW Unit)} (modest : Bool) (w0 : World) (args : Array Value) (hos : w0.os = os)
    (hv : (w0.forCall (fun _ _ => 0) ⟨#[], args, []⟩).variablesZipB C.prog = true)
    (hr : ((w0.forCall (fun _ _ => 0) ⟨#[], args, []⟩).heap.toList.drop C.prog.globals.size).take ((begin C.prog (fun _ _ => 0) default).world.heap.size - C.prog.globals.size) =
      (begin C.prog (fun _ _ => 0) default).world.heap.toList.drop C.prog.globals.size)
    (hok : Input.okWideB C.prog (w0.forCall (fun _ _ => 0) ⟨#[], args, []⟩) f ⟨#[], args, []⟩ = true)
    (hrow : s.preRow enc C.prog fn conds apart laid (w0.forCall (fun _ _ => 0) ⟨#[], args, []⟩).memory args) :
    ∃ (w : World) (tape : Tape) (i : Input), w.os = os ∧ (w.forCall tape i).Shaped C.prog ∧ i.vars = [] ∧ Input.okWide C.prog (w.forCall tape i) .any w.heap.size f i ∧
      s.preRow enc C.prog fn conds apart laid (w.forCall tape i).memory i.args ∧ ({ modest := modest } : Assume).holds C.prog (lone (Frame.enter C.prog f i.args .normal) [] (w.forCall tape i)) :=
  ⟨w0, fun _ _ => 0, ⟨#[], args, []⟩, hos, World.shaped_of_ZipB hv hr, (Input.okWide_of_okWideB (base := 0) hok).1, (Input.okWide_of_okWideB hok).2, hrow, by
    simp only [Assume.holds]
    exact ⟨by simp, by simp, fun _ => Modest.zero, by simp, by simp⟩⟩


theorem cellsU8 : Tryd.prog.cellsOf 5 = 1 := by kernel_rfl
theorem cellsBytes : Tryd.prog.cellsOf 57 = 1 := by kernel_rfl
theorem u8_of {n : Int} (h : (Lit.int .u8 n).wf = true) : 0 ≤ n ∧ n < 256 := by
  have : 0 ≤ n ∧ n ≤ 255 := by simpa [Lit.wf, IntKind.min, IntKind.max, IntKind.signed, IntKind.bits] using h
  omega

section
variable {H : Type} {enc : TypeId × Value → H}

/-- One slice of bytes, from its cells. -/
theorem rd_of_ints {W : World} {A : Option Addr} {l c : Nat} {zs : List Int} (h1 : l ≤ c) (hm : c ≤ maxLen) (h2 : zs.length = c) (hw : ∀ n ∈ zs, (Lit.int .u8 n).wf = true) (h0 : A = none → c = 0)
    (hc : ∀ a, A = some a → ∀ i, i < c → W.cell? (a.add i) = some (.int .u8 (zs.getD i 0))) :
    ∃ xs : List Nat, Rd W (.slice A l c) xs ∧ ∀ x ∈ xs, x < 256 := by
  rcases A with _ | a
  · have := h0 rfl
    subst this
    obtain rfl : l = 0 := by omega
    exact ⟨[], .inl ⟨none, 0, rfl, rfl, fun _ => rfl⟩, by simp⟩
  · by_cases hl : l = 0
    · subst hl
      exact ⟨[], .inl ⟨some a, c, rfl, rfl, fun h => by cases h⟩, by simp⟩
    · obtain ⟨b, off, spot⟩ := a
      have hc' := hc _ rfl
      have hspot : spot = none := by simpa [Addr.add] using World.cell?_spot (hc' 0 (by omega))
      subst hspot
      refine ⟨(zs.take l).map Int.toNat, .inr ⟨b, off, c, by simp; omega, by simp; omega, hm, World.block_lt_of_cell? _ _ (hc' 0 (by omega)), fun j x hj => ?_⟩, fun x hx => ?_⟩
      · have hjl : j < l := by
          have := (List.getElem?_eq_some_iff.1 hj).1
          simp at this
          omega
        have hjz : j < zs.length := by omega
        have hx : zs[j].toNat = x := by simpa [hjl, hjz] using hj
        have hg := hc' j (by omega)
        rw [add_plain] at hg
        have hu := u8_of (hw _ (List.getElem_mem hjz))
        rw [hg]
        have e : zs.getD j 0 = (x : Int) := by
          rw [← hx]
          simp [List.getD, List.getElem?_eq_getElem hjz]
          omega
        rw [e]; rfl
      · obtain ⟨z, hz, rfl⟩ := List.mem_map.1 hx
        have hu := u8_of (hw z (List.mem_of_mem_take hz))
        omega

/-- The same, from the reading of one cell. -/
theorem rd_of_trod {W : World} {fuel : Nat} {u : Value} {y : DataW H × List MemPlace} (h : DataW.trod enc Tryd.prog W 0 (fun _ => true) true fuel 57 [u] = some y) : ∃ xs, Rd W u xs ∧ ∀ x ∈ xs, x < 256 := by
  rcases open_ints Tryd.underlying57 Tryd.underlying5 cellsU8 h with ⟨hcs, _⟩ | ⟨a', l', c', zs, hcs, hb, hl, hm, hz, _, hc, hw⟩
  · simp at hcs
    subst hcs
    exact ⟨[], .inl ⟨none, 0, rfl, rfl, fun _ => rfl⟩, by simp⟩
  · simp at hcs
    subst hcs
    simp only [if_true] at hz
    refine rd_of_ints hl hm hz hw (fun h => by cases h) (fun a ha i hi => ?_)
    obtain rfl := Option.some.inj ha
    exact hc i (by omega)
set_option maxRecDepth 100000 in
theorem open_bytes {W : World} {base : Nat} {v : Value} {d : DataW H} {p : List MemPlace} (hv : Value.okWide Tryd.prog W .any base 57 v)
    (h : DataW.Trod enc Tryd.prog W 0 (fun _ => true) true 57 v d p) : ∃ xs, Rd W v xs ∧ ∀ x ∈ xs, x < 256 := by
  obtain ⟨a, l, c, rfl⟩ := okWide_slice Tryd.underlying57 hv
  obtain ⟨fuel, hf⟩ := h
  exact rd_of_trod (u := .slice a l c) hf

/-- A slice of structs of three one-cell fields, opened at every index. -/
theorem open_triples {P : Program} {w : World} {base : Nat} {held : Bool} {t e : TypeId} {f0 f1 f2 : Field} {fuel : Nat} {cs : List Value} {x : DataW H × List MemPlace} (ht : P.underlying t = some (.slice e)) (he : P.underlying e = some (.struct #[f0, f1, f2]))
    (ce : P.cellsOf e = 3) (o0 : f0.offset = 0) (o1 : f1.offset = 1) (o2 : f2.offset = 2) (c0 : P.cellsOf f0.type = 1) (c1 : P.cellsOf f1.type = 1) (c2 : P.cellsOf f2.type = 1)
    (h : DataW.trod enc P w base (fun _ => true) held fuel t cs = some x) :
    cs = [.slice none 0 0] ∨
    ∃ (a : Addr) (len cap : Nat), cs = [.slice (some a) len cap] ∧ len ≤ cap ∧ cap ≤ maxLen ∧
      ∀ i, i < cap → ∃ v0 v1 v2 n y0 y1 y2, w.cell? (a.add (i * 3)) = some v0 ∧ w.cell? (a.add (i * 3 + 1)) = some v1 ∧ w.cell? (a.add (i * 3 + 2)) = some v2 ∧
        DataW.trod enc P w base (fun _ => true) held n f0.type [v0] = some y0 ∧ DataW.trod enc P w base (fun _ => true) held n f1.type [v1] = some y1 ∧ DataW.trod enc P w base (fun _ => true) held n f2.type [v2] = some y2 := by
  rcases open_slice ht h with h0 | ⟨a, len, cap, m, n, D, Pl, rfl, hb, hl, hm, hmm, rfl, hx⟩
  · exact Or.inl h0.1
  right
  simp only [if_true] at hmm
  subst hmm
  refine ⟨a, len, m, rfl, hl, hm, fun i hi => ?_⟩
  obtain ⟨cs', h1, h2⟩ := hx i hi
  rw [ce] at h1
  obtain ⟨_, hlen, hcell⟩ := World.cells?_some h1
  obtain ⟨xs, k, hk, hxy, _, hxl, hf⟩ := DataW.trod_struct he h2
  match xs, hxl, cs', hlen with
  | [y0, y1, y2], _, [v0, v1, v2], _ =>
    have g0 := hf 0 f0 rfl
    have g1 := hf 1 f1 rfl
    have g2 := hf 2 f2 rfl
    simp [o0, o1, o2, c0, c1, c2] at g0 g1 g2
    have e0 := hcell 0 (by omega)
    have e1 := hcell 1 (by omega)
    have e2 := hcell 2 (by omega)
    rw [add_add] at e0 e1 e2
    exact ⟨v0, v1, v2, k, y0, y1, y2, by simpa using e0, by simpa using e1, by simpa using e2, g0, g1, g2⟩
end
end Go.Proofs.YtlagjnlajkmmeaaDoor
