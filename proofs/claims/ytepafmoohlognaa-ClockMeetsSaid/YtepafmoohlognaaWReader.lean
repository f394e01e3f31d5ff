/-
A Reader that is a slice of bytes and a mark behind a pointer: Read, fail, Left, Fine, End, by contracts.
-/
import Derived.Test.YtepafmoohlognaaWDone
import Derived.Test.YtepafmoohlognaaWLeft
namespace Go.Proofs.Ytepafmoohlognaa
open Go.RowKit
open Wire (numL valL takeL runL bytesL)

/-- Nothing that was there has turned but block g. -/
abbrev KeptG (g : Nat) (w w' : World) : Prop := Kept g (.slice none 0 0) (.slice none 0 0) w w'
theorem KeptG.below {g B : Nat} {w w' : World} (h : KeptG g w w') (hg : B ≤ g) (hB : B ≤ w.heap.size) : Below B w w' := Kept.below h hg (fun k hk => by simp [Value.ownBlock] at hk) hB
theorem Rd.keptG {g : Nat} {w w' : World} {v : Value} {xs : List Nat} (h : Rd w v xs) (hk : KeptG g w w') (hne : v.ownBlock ≠ some g) : Rd w' v xs := by
  rcases h with h | ⟨b, off, cap, rfl, hcap, hm, hlt, hc⟩
  · exact .inl h
  · have hbg : b ≠ g := fun e => hne (by rw [e]; rfl)
    have hb := hk.block b hlt hbg (by simp [Value.ownBlock])
    exact .inr ⟨b, off, cap, rfl, hcap, hm, Nat.lt_of_lt_of_le hlt hk.size, fun j x hx => (World.cell?_of_block (a := ⟨b, off + j, none⟩) hb).trans (hc j x hx)⟩

/-- Block g is a Reader: the bytes xs are left, in the slice v; bad: it has failed (and nothing is left). -/
def Rr (B : Nat) (w : World) (g : Nat) (v : Value) (xs : List Nat) (bad : Bool) : Prop :=
  B ≤ g ∧ w.heap[g]? = some (.cells #[v, .bool bad] 63 (0, 0)) ∧ Rd w v xs ∧ v.ownBlock ≠ some g ∧ (bad = true → xs = [])
section
variable {B : Nat} {w w' : World} {g : Nat} {v : Value} {xs : List Nat} {bad : Bool}
theorem Rr.lt (h : Rr B w g v xs bad) : g < w.heap.size := (Array.getElem?_eq_some_iff.1 h.2.1).1
theorem Rr.cell0 (h : Rr B w g v xs bad) : w.cell? ⟨g, 0, none⟩ = some v := by rw [cell_of_row w g 0 _ _ _ h.2.1]; rfl
theorem Rr.cell1 (h : Rr B w g v xs bad) : w.cell? ⟨g, 1, none⟩ = some (.bool bad) := by rw [cell_of_row w g 1 _ _ _ h.2.1]; rfl
theorem Rr.fr0 (h : Rr B w g v xs bad) : w.frozen? ⟨g, 0, none⟩ = false := by have := h.2.1; simp [World.frozen?, this]
theorem Rr.fr1 (h : Rr B w g v xs bad) : w.frozen? ⟨g, 1, none⟩ = false := by have := h.2.1; simp [World.frozen?, this]
theorem Rr.keep (h : Rr B w g v xs bad) (hb : Below w.heap.size w w') : Rr B w' g v xs bad :=
  ⟨h.1, (hb.block g h.lt).trans h.2.1, h.2.2.1.below hb, h.2.2.2⟩
/-- What is left is less. -/
theorem Rr.set0 (h : Rr B w g v xs bad) {v' : Value} {ys : List Nat} (hr : Rd w v' ys) (hv : v'.ownBlock ≠ some g) (hb : bad = true → ys = []) :
    Rr B (w.setCell ⟨g, 0, none⟩ v') g v' ys bad ∧ KeptG g w (w.setCell ⟨g, 0, none⟩ v') := by
  have hk : KeptG g w (w.setCell ⟨g, 0, none⟩ v') := Kept.set g _ w 0 v'
  refine ⟨⟨h.1, ?_, hr.keptG hk hv, hv, hb⟩, hk⟩
  have := h.2.1
  simp [World.setCell, Array.getElem?_modify, this]
/-- It has failed. -/
theorem Rr.fail (h : Rr B w g v xs bad) : Rr B ((w.setCell ⟨g, 0, none⟩ (.slice none 0 0)).setCell ⟨g, 1, none⟩ (.bool true)) g (.slice none 0 0) [] true ∧ KeptG g w ((w.setCell ⟨g, 0, none⟩ (.slice none 0 0)).setCell ⟨g, 1, none⟩ (.bool true)) := by
  have hk : KeptG g w ((w.setCell ⟨g, 0, none⟩ (.slice none 0 0)).setCell ⟨g, 1, none⟩ (.bool true)) := (Kept.set g _ w 0 _).trans (Kept.set g _ _ 1 _)
  refine ⟨⟨h.1, ?_, .inl ⟨none, 0, rfl, rfl, fun _ => rfl⟩, by simp [Value.ownBlock], fun _ => rfl⟩, hk⟩
  have := h.2.1
  simp [World.setCell, Array.getElem?_modify, this]
end

set_option maxRecDepth 20000 in
theorem fail_any (B g : Nat) (v : Value) (xs : List Nat) (bad : Bool) (w : World) (h : Rr B w g v xs bad) :
    Calls Try.prog 40 #[.pointer (some ⟨g, 0, none⟩)] w fun e w' => (∃ r, e = .returned r) ∧ Rr B w' g (.slice none 0 0) [] true ∧ KeptG g w w' := by
  have c0 := h.cell0
  have c1 := h.cell1
  have f0 := h.fr0
  have f1 := h.fr1
  have HF := Lib.hid h.fail
  clear h
  go_enter Try.func40, Try.ntmps40
  go_wp2
  refine bodyPost_end (results_none rfl _ _ _) rfl ?_
  exact ⟨⟨_, rfl⟩, HF.out⟩

set_option maxRecDepth 20000 in
theorem left_any (B g : Nat) (v : Value) (xs : List Nat) (bad : Bool) (w : World) (h : Rr B w g v xs bad) (hl : xs.length ≤ 100000) :
    Calls Try.prog 23 #[.pointer (some ⟨g, 0, none⟩)] w fun e w' => e = .returned (.int .i64 (xs.length : Nat)) ∧ w = w' := by
  have c0 := h.cell0
  obtain ⟨A, n, c, rfl, hn⟩ := h.2.2.1.named
  clear h
  rw [← hn] at hl ⊢
  clear hn
  go_enter Try.func23, Try.ntmps23
  go_wp2
  go_ret
  exact ⟨rfl, rfl⟩
theorem left_nil (w : World) :
    Calls Try.prog 23 #[.pointer none] w fun e w' => e = .returned (.int .i64 0) ∧ w = w' := by
  go_enter Try.func23, Try.ntmps23
  go_wp2
  go_ret
  exact ⟨rfl, rfl⟩

set_option maxRecDepth 20000 in
theorem fine_any (B g : Nat) (v : Value) (xs : List Nat) (bad : Bool) (w : World) (h : Rr B w g v xs bad) :
    Calls Try.prog 37 #[.pointer (some ⟨g, 0, none⟩)] w fun e w' => e = .returned (.bool (!bad)) ∧ w = w' := by
  have c1 := h.cell1
  clear h
  cases bad
  all_goals
    go_enter Try.func37, Try.ntmps37
    go_wp2
    go_ret
    exact ⟨rfl, rfl⟩
theorem fine_nil (w : World) :
    Calls Try.prog 37 #[.pointer none] w fun e w' => e = .returned (.bool false) ∧ w = w' := by
  go_enter Try.func37, Try.ntmps37
  go_wp2
  go_ret
  exact ⟨rfl, rfl⟩

set_option maxRecDepth 20000 in
theorem end_any (B g : Nat) (v : Value) (xs : List Nat) (bad : Bool) (w : World) (h : Rr B w g v xs bad) (hl : xs.length ≤ 100000) :
    Calls Try.prog 25 #[.pointer (some ⟨g, 0, none⟩)] w fun e w' => e = .returned (.bool (!bad && decide (xs.length = 0))) ∧ w = w' := by
  have hf := fine_any B g v xs bad w h
  have hle := left_any B g v xs bad w h hl
  generalize xs.length = n at *
  have HFI := Lib.hid hf
  have HLE := Lib.hid hle
  clear hf hle h hl
  cases bad
  · by_cases h0 : n = 0
    · subst h0
      go_enter Try.func25, Try.ntmps25
      go_wp2_with (first
        | (go_at_call 37; (with_reducible refine (HFI.out).mono ?_); rintro e w1 ⟨rfl, rfl⟩)
        | (go_at_call 23; (with_reducible refine (HLE.out).mono ?_); rintro e w1 ⟨rfl, rfl⟩))
      go_ret
      exact ⟨rfl, rfl⟩
    · rw [decide_eq_false h0]
      have t0 : ((n : Int) == 0) = false := by simp; exact h0
      clear h0
      go_enter Try.func25, Try.ntmps25
      go_wp2_with (first
        | (go_at_call 37; (with_reducible refine (HFI.out).mono ?_); rintro e w1 ⟨rfl, rfl⟩)
        | (go_at_call 23; (with_reducible refine (HLE.out).mono ?_); rintro e w1 ⟨rfl, rfl⟩))
      go_ret
      exact ⟨rfl, rfl⟩
  · go_enter Try.func25, Try.ntmps25
    go_wp2_with (go_at_call 37; (with_reducible refine (HFI.out).mono ?_); rintro e w1 ⟨rfl, rfl⟩)
    go_ret
    exact ⟨rfl, rfl⟩
theorem end_nil (w : World) :
    Calls Try.prog 25 #[.pointer none] w fun e w' => e = .returned (.bool false) ∧ w = w' := by
  go_enter Try.func25, Try.ntmps25
  go_wp2_with (go_at_call 37; (with_reducible refine (fine_nil _).mono ?_); rintro e w1 ⟨rfl, rfl⟩)
  go_ret
  exact ⟨rfl, rfl⟩

set_option maxRecDepth 20000 in
theorem read_any (v : Value) (xs : List Nat) (w : World) (h : Rd w v xs) (hl : xs.length ≤ 100000) :
    Calls Try.prog 19 #[v] w fun e w' => ∃ g v', e = .returned (.pointer (some ⟨g, 0, none⟩)) ∧ Rr w.heap.size w' g v' xs false ∧ Below w.heap.size w w' := by
  have hcl := clone_any v xs w h (by omega)
  have HC := Lib.hid hcl
  clear h hl hcl
  go_enter Try.func19, Try.ntmps19
  go_wp2_with (go_at_call 34; (with_reducible refine (HC.out).mono ?_); rintro e w1 ⟨v1, rfl, hown1, hbel1⟩; have HO := Lib.hid hown1; have hsz1 := hbel1.size; (obtain ⟨A1, n1, c1, rfl, hn1⟩ := hown1.rd.named); clear hn1 hown1)
  go_ret
  have hlt : ∀ k, (Value.slice A1 n1 c1).ownBlock = some k → k < w1.heap.size := fun k hk => (World.ownsRow.lt HO.out k hk).2
  have hrd : Rd w1 (.slice A1 n1 c1) xs := HO.out.rd
  exact ⟨w1.heap.size, _, rfl, ⟨hsz1, heap_new rfl, hrd.below (below_alloc _ _), fun e => absurd (hlt _ e) (Nat.lt_irrefl _), fun h => by cases h⟩, hbel1.alloc hsz1 _⟩
end Go.Proofs.Ytepafmoohlognaa
