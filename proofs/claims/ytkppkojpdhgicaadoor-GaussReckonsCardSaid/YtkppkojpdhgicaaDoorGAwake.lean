/-
The law's awake, by its contract: it answers true.
-/
import Derived.Test.YtkppkojpdhgicaaDoorGParse
import Derived.Test.YtkppkojpdhgicaaDoorGSum
namespace Go.Proofs.YtkppkojpdhgicaaDoor
open Go.RowKit Go.Proofs.YtkppkojpdhgicaaDoor.Gf

theorem awake_parse (w : World) (hE : Env w) :
    Calls Tryd.prog 18 #[.string ⟨#[51, 43, 52, 105]⟩] w fun e w' => e = .returned (.tuple #[cv 3 4, .bool true]) ∧ Below w.heap.size w w' := by
  have ht : ([51, 43, 52, 105] : List UInt8) = textL 3 4 := by decide +kernel
  refine (parse_any ⟨#[51, 43, 52, 105]⟩ (by decide) w hE).mono fun e w' ⟨h, hb⟩ => ⟨?_, hb⟩
  rcases h with ⟨a, b, hr, he, h⟩ | ⟨h, _⟩
  · obtain ⟨rfl, rfl⟩ := text_inj hr (show Rg 3 4 by decide) (he.symm.trans ht)
    exact h
  · exact absurd ht (h 3 4 (by decide))
theorem awake_text (w : World) (hE : Env w) :
    Calls Tryd.prog 21 #[cv 25 0] w fun e w' => e = .returned (.string ⟨#[50, 53]⟩) ∧ Below w.heap.size w w' := by
  have h := text_any 25 0 (by decide) w hE
  rw [show textL 25 0 = [50, 53] by decide +kernel] at h
  exact h
theorem awake_i (w : World) (hE : Env w) :
    Calls Tryd.prog 21 #[cv 0 (-1)] w fun e w' => e = .returned (.string ⟨#[45, 105]⟩) ∧ Below w.heap.size w w' := by
  have h := text_any 0 (-1) (by decide) w hE
  rw [show textL 0 (-1) = [45, 105] by decide +kernel] at h
  exact h
theorem to_in (a b : Int) (h : Rg a b) (w : World) :
    Calls Tryd.prog 20 #[.agg #[.int .i64 a, .int .i64 b]] w fun e w' => e = .returned (cv a b) ∧ w' = w.alloc (.cells #[.int .i64 a, .int .i64 b] 28) := by
  have h' := to_any a b w
  rw [chk_in h] at h'
  exact h'

/-- A product of two, of a slice just made. -/
theorem mul_two (a b c d : Int) (h1 : Rg a b) (h2 : Rg c d) (w : World) (T : TypeId) :
    Calls Tryd.prog 14 #[.slice (some ⟨w.heap.size, 0, none⟩) 2 2] (w.alloc (.cells #[cv a b, cv c d] T)) fun e w' =>
      e = .returned (.tuple #[(resV (runS mulO (1, 0) [(a, b), (c, d)])).1, .int .i64 (resV (runS mulO (1, 0) [(a, b), (c, d)])).2]) ∧ w.alloc (.cells #[cv a b, cv c d] T) = w' := by
  have h0 : (w.alloc (.cells #[cv a b, cv c d] T)).heap[w.heap.size]? = some (.cells #[cv a b, cv c d] T (0, 0)) := heap_alloc_new w _
  refine mul_any _ [(a, b), (c, d)] _ (.inr ⟨w.heap.size, 2, rfl, Nat.le_refl _, fun j x hx => ?_⟩) (by simp) (fun x hx => ?_)
  · rw [cell_of_row _ _ j _ _ _ h0]
    match j, hx with
    | 0, hx => cases hx; rfl
    | 1, hx => cases hx; rfl
    | j + 2, hx => simp at hx
  · rcases List.mem_cons.1 hx with rfl | hx
    · exact h1
    · rw [List.mem_singleton.1 hx]; exact h2
theorem awake_mul (w : World) (T : TypeId) :
    Calls Tryd.prog 14 #[.slice (some ⟨w.heap.size, 0, none⟩) 2 2] (w.alloc (.cells #[cv 3 4, cv 3 (-4)] T)) fun e w' =>
      e = .returned (.tuple #[cv 25 0, .int .i64 0]) ∧ w.alloc (.cells #[cv 3 4, cv 3 (-4)] T) = w' := by
  have h := mul_two 3 4 3 (-4) (by decide) (by decide) w T
  rw [show runS mulO (1, 0) [(3, 4), (3, -4)] = some (25, 0) by decide] at h
  exact h

set_option maxRecDepth 20000 in
set_option maxHeartbeats 2000000 in
/-- awake. -/
theorem awake_any (w : World) (hE : Env w) :
    Calls Tryd.prog 10 #[] w fun e w' => e = .returned (.bool true) ∧ Below w.heap.size w w' := by
  go_enter Tryd.func10, Tryd.ntmps10
  go_wp2_with fail
  go_must (refine (awake_parse _ hE).mono ?_); rintro e w1 ⟨rfl, hb1⟩
  have hE1 := hE.below hb1
  go_wp2_with fail
  go_must (refine (conj_any 3 4 (by decide) _).mono ?_); rintro e w2 ⟨rfl, rfl⟩
  go_wp2_with fail
  go_must (refine (awake_mul w1 _).mono ?_); rintro e w3 ⟨rfl, rfl⟩
  have hbA : Below w1.heap.size w1 (w1.alloc (.cells #[cv 3 4, cv 3 (-4)] 23)) := (Below.refl _ w1).alloc (Nat.le_refl _) _
  have hE2 := hE1.below hbA
  have hb2 := hb1.trans (hbA.mono hb1.size)
  go_wp2_with fail
  go_must (refine (awake_text _ hE2).mono ?_); rintro e w4 ⟨rfl, hb4⟩
  have hb14 := hb2.trans (hb4.mono hb2.size)
  go_wp2_with fail
  go_must (refine (to_in 0 (-1) (by decide) _).mono ?_); rintro e w5 ⟨rfl, rfl⟩
  have hbB : Below w4.heap.size w4 (w4.alloc (.cells #[.int .i64 0, .int .i64 (-1)] 28)) := (Below.refl _ w4).alloc (Nat.le_refl _) _
  have hb15 := hb14.trans (hbB.mono hb14.size)
  have hE5 := hE.below hb15
  go_wp2_with fail
  go_must (refine (awake_i _ hE5).mono ?_); rintro e w6 ⟨rfl, hb6⟩
  have hb16 := hb15.trans (hb6.mono hb15.size)
  go_wp2
  go_ret
  exact ⟨rfl, hb16⟩
end Go.Proofs.YtkppkojpdhgicaaDoor
