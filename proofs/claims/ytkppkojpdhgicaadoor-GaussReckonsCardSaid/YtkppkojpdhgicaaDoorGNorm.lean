/-
What the law GaussNorms needs: both arguments' cells through drawn regions; the norm of a product.
-/
import Derived.Test.YtkppkojpdhgicaaDoorGLawT
import Derived.IntWalk
import Derived.Deep.RegionWith
import Derived.StillTailTactics
namespace Go.Proofs.YtkppkojpdhgicaaDoor
open Go.RowKit Go.Proofs.YtkppkojpdhgicaaDoor.Gf

/-- What a drawn region keeps: both arguments' cells, the library's tables, and all that was there. -/
abbrev Hd2 (W : World) (g : Nat) (a b c d : Int) (w' : World) : Prop :=
  (w'.cell? ⟨g, 0, none⟩ = some (.int .i64 a) ∧ w'.cell? ⟨g, 1, none⟩ = some (.int .i64 b)) ∧ (w'.cell? ⟨g + 1, 0, none⟩ = some (.int .i64 c) ∧ w'.cell? ⟨g + 1, 1, none⟩ = some (.int .i64 d)) ∧ Env w' ∧ Below W.heap.size W w'
theorem Hd2.below {W : World} {g : Nat} {a b c d : Int} {w1 w2 : World} (h : Hd2 W g a b c d w1) (hb : Below w1.heap.size w1 w2) : Hd2 W g a b c d w2 := by
  obtain ⟨⟨h1, h2⟩, ⟨h1', h2'⟩, h3, h4⟩ := h
  exact ⟨⟨by rw [bcell hb _ _ (World.block_lt_of_cell? _ _ h1)]; exact h1, by rw [bcell hb _ _ (World.block_lt_of_cell? _ _ h2)]; exact h2⟩,
    ⟨by rw [bcell hb _ _ (World.block_lt_of_cell? _ _ h1')]; exact h1', by rw [bcell hb _ _ (World.block_lt_of_cell? _ _ h2')]; exact h2'⟩, h3.below hb, h4.trans (hb.mono h4.size)⟩
theorem Hd2.env {W : World} {g : Nat} {a b c d : Int} {w1 : World} (h : Hd2 W g a b c d w1) : Env w1 := h.2.2.1
theorem Hd2.start {w w1 : World} {a b c d : Int} {T : TypeId} (hE : Env w) (hb : Below ((w.alloc (.cells #[.int .i64 a, .int .i64 b] T)).alloc (.cells #[.int .i64 c, .int .i64 d] T)).heap.size ((w.alloc (.cells #[.int .i64 a, .int .i64 b] T)).alloc (.cells #[.int .i64 c, .int .i64 d] T)) w1) :
    Hd2 w w.heap.size a b c d w1 := by
  obtain ⟨⟨h1, h2, _, _⟩, ⟨h1', h2', _, _⟩, _⟩ := four_cells hb
  have h4 := (((Below.refl _ w).alloc (Nat.le_refl _) (.cells #[.int .i64 a, .int .i64 b] T)).alloc (by simp) (.cells #[.int .i64 c, .int .i64 d] T)).trans (hb.mono (by simp; omega))
  exact ⟨⟨h1, h2⟩, ⟨h1', h2'⟩, hE.below h4, h4⟩
/-- Hd2 behind a new block. -/
theorem Hd2.al {W : World} {g : Nat} {a b c d : Int} {w1 : World} (h : Hd2 W g a b c d w1) (o : Obj) : Hd2 W g a b c d (w1.alloc o) := h.below ((Below.refl _ w1).alloc (Nat.le_refl _) o)

theorem norm_mul (a b c d : Int) : (a * c - b * d) * (a * c - b * d) + (a * d + b * c) * (a * d + b * c) = (a * a + b * b) * (c * c + d * d) := by
  have e1 : (a * c - b * d) * (a * c - b * d) = a * c * (a * c) - 2 * (a * c * (b * d)) + b * d * (b * d) := by
    rw [Int.sub_mul, Int.mul_sub, Int.mul_sub, Int.mul_comm (b * d) (a * c)]; omega
  have e2 : (a * d + b * c) * (a * d + b * c) = a * d * (a * d) + 2 * (a * d * (b * c)) + b * c * (b * c) := by
    rw [Int.add_mul, Int.mul_add, Int.mul_add, Int.mul_comm (b * c) (a * d)]; omega
  have e3 : a * c * (b * d) = a * d * (b * c) := by ac_rfl
  have e4 : (a * a + b * b) * (c * c + d * d) = a * c * (a * c) + a * d * (a * d) + (b * c * (b * c) + b * d * (b * d)) := by
    rw [Int.add_mul, Int.mul_add, Int.mul_add]
    rw [show a * a * (c * c) = a * c * (a * c) by ac_rfl, show a * a * (d * d) = a * d * (a * d) by ac_rfl, show b * b * (c * c) = b * c * (b * c) by ac_rfl, show b * b * (d * d) = b * d * (b * d) by ac_rfl]
  rw [e1, e2, e3, e4]; omega

theorem mul_self_nonneg' (x : Int) : 0 ≤ x * x := by
  rcases Int.le_total 0 x with h | h
  · exact Int.mul_nonneg h h
  · exact Int.mul_nonneg_of_nonpos_of_nonpos h h

theorem mul_pair (a b c d : Int) (h1 : Rg a b) (h2 : Rg c d) (w : World) (T : TypeId) :
    Calls Tryd.prog 14 #[.slice (some ⟨w.heap.size, 0, none⟩) 2 2] (w.alloc (.cells #[cv a b, cv c d] T)) fun e w' =>
      e = .returned (.tuple #[(chk (a * c - b * d) (a * d + b * c)).1, .int .i64 (chk (a * c - b * d) (a * d + b * c)).2]) ∧ w.alloc (.cells #[cv a b, cv c d] T) = w' := by
  have h := mul_two a b c d h1 h2 w T
  have e : runS mulO (1, 0) [(a, b), (c, d)] = if Rg (a * c - b * d) (a * d + b * c) then some (a * c - b * d, a * d + b * c) else none := by
    have em : mulO (1, 0) (a, b) = (a, b) := by unfold mulO; simp
    rw [runS, em, if_pos h1, runS]
    rfl
  rw [e] at h
  by_cases hg : Rg (a * c - b * d) (a * d + b * c)
  · rw [if_pos hg] at h; rw [chk_in hg]; exact h
  · rw [if_neg hg] at h; rw [chk_out hg]; exact h

end Go.Proofs.YtkppkojpdhgicaaDoor
