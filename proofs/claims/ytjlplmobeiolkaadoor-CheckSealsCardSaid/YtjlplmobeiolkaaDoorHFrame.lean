/-
What the cards' frames share: the world of the witness, the program's table, and arguments that are bytes or parts, opened.
-/
import Derived.Test.YtjlplmobeiolkaaDoorCards
import Derived.Test.YtjlplmobeiolkaaDoorTie
import Derived.Test.YtjlplmobeiolkaaDoorHWorld
import Derived.WalkKit
import Derived.ProofKit
import Derived.OpenShut
import Derived.Deep.DeepHandedRow
import Derived.Deep.Matrix
import Derived.Carry
import Derived.Lib.LaidTab
import Derived.Stop.LaidErr
import Derived.Lay
import Derived.SevenTiedAt
namespace Go.Proofs.YtjlplmobeiolkaaDoor
open Go.ChangeShapes Go.WideShapes Go.ChangeAt Go.RowKit Go.Deep

theorem own : ownKnob Tryd.prog.godebug = none := by kernel_rfl
theorem laidOut : laidOutB Tryd.prog = true := by kernel_rfl

/-- 'There is an input that fits', at a world in which the listed variables are laid. -/
theorem witness_row_zip {H : Type} {enc : TypeId × Value → H} {C : Checked} {os : Os} {f : FuncId} {fn : Func} {s : OpenSpec} {conds : List PathCond} {apart : Bool} {laid : List (String × DataW Unit)} (modest : Bool) (w0 : World) (args : Array Value) (hos : w0.os = os)
    (hv : (w0.forCall (fun _ _ => 0) ⟨#[], args, []⟩).variablesZipB C.prog = true)
    (hr : ((w0.forCall (fun _ _ => 0) ⟨#[], args, []⟩).heap.toList.drop C.prog.globals.size).take ((begin C.prog (fun _ _ => 0) default).world.heap.size - C.prog.globals.size) =
      (begin C.prog (fun _ _ => 0) default).world.heap.toList.drop C.prog.globals.size)
    (hok : Input.okWideB C.prog (w0.forCall (fun _ _ => 0) ⟨#[], args, []⟩) f ⟨#[], args, []⟩ = true)
    (hrow : s.preRow enc C.prog fn conds apart laid (w0.forCall (fun _ _ => 0) ⟨#[], args, []⟩).memory args) :
    ∃ (w : World) (tape : Tape) (i : Input), w.os = os ∧ (w.forCall tape i).Shaped C.prog ∧ i.vars = [] ∧ Input.okWide C.prog (w.forCall tape i) .any w.heap.size f i ∧
      s.preRow enc C.prog fn conds apart laid (w.forCall tape i).memory i.args ∧ ({ modest := modest } : Assume).holds C.prog (lone (Frame.enter C.prog f i.args .normal) [] (w.forCall tape i)) :=
  ⟨w0, fun _ _ => 0, ⟨#[], args, []⟩, hos, World.shaped_of_ZipB hv hr, (Input.okWide_of_okWideB (base := 0) hok).1, (Input.okWide_of_okWideB hok).2, hrow, by
    simp only [Assume.holds]
    exact ⟨by simp, by simp, fun _ => Modest.zero, by simp, by simp⟩⟩


theorem gSteps : Tryd.prog.globalNamed "quadrille/check.steps" = some 0 := by kernel_rfl
theorem gStepsType : (Tryd.prog.globals[0]?).map (·.type) = some 34 := by kernel_rfl
theorem cellsSteps : Tryd.prog.cellsOf 34 = 16 := by kernel_rfl
theorem cellsU32 : Tryd.prog.cellsOf 25 = 1 := by kernel_rfl
theorem cellsU8 : Tryd.prog.cellsOf 5 = 1 := by kernel_rfl
theorem cellsBytes : Tryd.prog.cellsOf 23 = 1 := by kernel_rfl
def tabZ : List Int := Crc.tab.map Int.ofNat
theorem steps_eq : (Rows.laid_quadrille_check_steps : DataW Unit) = Lib.tabData .u32 tabZ := by kernel_rfl

/-- What the row lists gives the table. -/
theorem env_of {W : World} {rest : List (String × DataW Unit)} (h : laidMet Tryd.prog (("quadrille/check.steps", Rows.laid_quadrille_check_steps) :: rest) W) : Tab W := by
  rw [steps_eq] at h
  have hT := Lib.tabIs_of_head gSteps gStepsType Tryd.underlying34 Tryd.underlying25 cellsU32 cellsSteps h
  intro r hr
  have h1 := hT.cell gSteps r hr
  rw [h1]
  have : ∀ r, r < 16 → tabZ.getD r 0 = ((Crc.tab[r]?.getD 0 : Nat) : Int) := by decide
  rw [this r hr]

theorem u8_of {n : Int} (h : (Lit.int .u8 n).wf = true) : 0 ≤ n ∧ n < 256 := by
  have : 0 ≤ n ∧ n ≤ 255 := by simpa [Lit.wf, IntKind.min, IntKind.max, IntKind.signed, IntKind.bits] using h
  omega

section
variable {H : Type} {enc : TypeId × Value → H}

/-- One slice of bytes, from its cells. -/
theorem rd_of_ints {W : World} {A : Option Addr} {l c : Nat} {zs : List Int} (h1 : l ≤ c) (hm : c ≤ maxLen) (h2 : zs.length = c) (hw : ∀ n ∈ zs, (Lit.int .u8 n).wf = true) (h0 : A = none → c = 0)
    (hc : ∀ a, A = some a → ∀ i, i < c → W.cell? (a.add i) = some (.int .u8 (zs.getD i 0))) :
    ∃ xs : List Nat, Rd W (.slice A l c) xs ∧ ∀ x ∈ xs, x < 256 := by
  rcases A with _ | a
  · have := h0 rfl
    subst this
    obtain rfl : l = 0 := by omega
    exact ⟨[], .inl ⟨none, 0, rfl, rfl, fun _ => rfl⟩, by simp⟩
  · by_cases hl : l = 0
    · subst hl
      exact ⟨[], .inl ⟨some a, c, rfl, rfl, fun h => by cases h⟩, by simp⟩
    · obtain ⟨b, off, spot⟩ := a
      have hc' := hc _ rfl
      have hspot : spot = none := by simpa [Addr.add] using World.cell?_spot (hc' 0 (by omega))
      subst hspot
      refine ⟨(zs.take l).map Int.toNat, .inr ⟨b, off, c, by simp; omega, by simp; omega, hm, World.block_lt_of_cell? _ _ (hc' 0 (by omega)), fun j x hj => ?_⟩, fun x hx => ?_⟩
      · have hjl : j < l := by
          have := (List.getElem?_eq_some_iff.1 hj).1
          simp at this
          omega
        have hjz : j < zs.length := by omega
        have hx : zs[j].toNat = x := by simpa [hjl, hjz] using hj
        have hg := hc' j (by omega)
        rw [add_plain] at hg
        have hu := u8_of (hw _ (List.getElem_mem hjz))
        rw [hg]
        have e : zs.getD j 0 = (x : Int) := by
          rw [← hx]
          simp [List.getD, List.getElem?_eq_getElem hjz]
          omega
        rw [e]; rfl
      · obtain ⟨z, hz, rfl⟩ := List.mem_map.1 hx
        have hu := u8_of (hw z (List.mem_of_mem_take hz))
        omega

theorem open_bytes {W : World} {base : Nat} {v : Value} {d : DataW H} {p : List MemPlace} (hv : Value.okWide Tryd.prog W .any base 23 v)
    (h : DataW.Trod enc Tryd.prog W 0 (fun _ => true) true 23 v d p) : ∃ xs, Rd W v xs ∧ ∀ x ∈ xs, x < 256 := by
  obtain ⟨a, l, c, rfl⟩ := okWide_slice Tryd.underlying23 hv
  obtain ⟨fuel, hf⟩ := h
  have hf' : DataW.trod enc Tryd.prog W 0 (fun _ => true) true fuel 23 [.slice a l c] = some (d, p) := hf
  rcases open_ints Tryd.underlying23 Tryd.underlying5 cellsU8 hf' with ⟨hcs, _⟩ | ⟨a', l', c', zs, hcs, hb, hl, hm, hz, _, hc, hw⟩
  · simp at hcs
    obtain ⟨rfl, rfl, rfl⟩ := hcs
    exact ⟨[], .inl ⟨none, 0, rfl, rfl, fun _ => rfl⟩, by simp⟩
  · simp at hcs
    obtain ⟨rfl, rfl, rfl⟩ := hcs
    simp only [if_true] at hz
    refine rd_of_ints hl hm hz hw (fun h => by cases h) (fun a ha i hi => ?_)
    obtain rfl := Option.some.inj ha
    exact hc i (by omega)

theorem open_parts {W : World} {base : Nat} {v : Value} {d : DataW H} {p : List MemPlace} (hv : Value.okWide Tryd.prog W .any base 22 v)
    (h : DataW.Trod enc Tryd.prog W 0 (fun _ => true) true 22 v d p) : ∃ pss, RdP W v pss ∧ ∀ ps ∈ pss, ∀ x ∈ ps, x < 256 := by
  obtain ⟨a, l, c, rfl⟩ := okWide_slice Tryd.underlying22 hv
  obtain ⟨fuel, hf⟩ := h
  have hf' : DataW.trod enc Tryd.prog W 0 (fun _ => true) true fuel 22 [.slice a l c] = some (d, p) := hf
  rcases open_int_rows Tryd.underlying22 Tryd.underlying23 Tryd.underlying5 cellsBytes cellsU8 hf' with ⟨hcs, _⟩ | ⟨a', l', c', A, L, C, Z, hcs, hb, hl, hm, _, hrow⟩
  · simp at hcs
    obtain ⟨rfl, rfl, rfl⟩ := hcs
    exact ⟨[], .inl ⟨none, 0, rfl, rfl⟩, by simp⟩
  · simp at hcs
    obtain ⟨rfl, rfl, rfl⟩ := hcs
    by_cases hl0 : l = 0
    · subst hl0
      exact ⟨[], .inl ⟨_, c, rfl, rfl⟩, by simp⟩
    · obtain ⟨b, off, spot⟩ := a'
      have hspot : spot = none := by simpa [Addr.add] using World.cell?_spot (hrow 0 (by omega)).1
      subst hspot
      have each : ∀ r, r < l → ∃ xs : List Nat, Rd W (.slice (A r) (L r) (C r)) xs ∧ ∀ x ∈ xs, x < 256 := fun r hr => by
        obtain ⟨_, h1, h2, h3, h4, h5, h6⟩ := hrow r (by omega)
        exact rd_of_ints h1 h2 h3 h4 h5 (fun a ha i hi => (h6 a ha).2 i hi)
      obtain ⟨f, hf⟩ := choose_lt each
      refine ⟨(List.range l).map f, .inr ⟨b, off, c, by simp, by simpa using hl, hm, World.block_lt_of_cell? _ _ (hrow 0 (by omega)).1, fun j ps hj => ?_⟩, fun ps hp x hx => ?_⟩
      · have hjl : j < l := by
          have := (List.getElem?_eq_some_iff.1 hj).1
          simpa using this
        have e : f j = ps := by
          rw [List.getElem?_map, List.getElem?_range hjl] at hj
          simpa using hj
        subst e
        have hg := (hrow j (by omega)).1
        rw [add_plain] at hg
        exact ⟨_, hg, (hf j hjl).1⟩
      · obtain ⟨r, hr, rfl⟩ := List.mem_map.1 hp
        exact (hf r (by simpa using hr)).2 x hx
end
end Go.Proofs.YtjlplmobeiolkaaDoor
