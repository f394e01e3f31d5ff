/-
The law GaussParts: it answers true at every input.
-/
import Derived.Test.YtkppkojpdhgicaaDoorGAwake
namespace Go.Proofs.YtkppkojpdhgicaaDoor
open Go.RowKit Go.Proofs.YtkppkojpdhgicaaDoor.Gf

theorem below_alloc {B : Nat} {w w1 : World} (hb : Below B w w1) (h : B ≤ w1.heap.size) (o : Obj) : Below B w (w1.alloc o) := hb.alloc h o

theorem is_zero (w : World) :
    Calls Tryd.prog 9 #[cv 0 0, .agg #[.int .i64 0, .int .i64 0]] w fun e w' => e = .returned (.bool true) ∧ w' = w.alloc (.cells #[.int .i64 0, .int .i64 0] 28) := is_same 0 0 (by decide) w
theorem fits_t (a b : Int) (h : Rg a b) (w : World) :
    Calls Tryd.prog 8 #[.agg #[.int .i64 a, .int .i64 b]] w fun e w' => e = .returned (.bool true) ∧ w' = w.alloc (.cells #[.int .i64 a, .int .i64 b] 28) := by
  have h' := fits_any a b w
  rw [decide_eq_true h] at h'; exact h'
theorem fits_f (a b : Int) (h : ¬ Rg a b) (w : World) :
    Calls Tryd.prog 8 #[.agg #[.int .i64 a, .int .i64 b]] w fun e w' => e = .returned (.bool false) ∧ w' = w.alloc (.cells #[.int .i64 a, .int .i64 b] 28) := by
  have h' := fits_any a b w
  rw [decide_eq_false h] at h'; exact h'

set_option maxRecDepth 20000 in
set_option maxHeartbeats 2000000 in
theorem parts_in (a b : Int) (h : Rg a b) (w : World) (hE : Env w) :
    Calls Tryd.prog 3 #[.int .i64 a, .int .i64 b] w fun e w' => e = .returned (.bool true) ∧ Below w.heap.size w w' := by
  go_enter Tryd.func3, Tryd.ntmps3
  go_wp2_with fail
  go_must (refine (of_in a b h _).mono ?_); rintro e w1 ⟨rfl, rfl⟩
  go_wp2_with fail
  go_must (refine (fits_t a b h _).mono ?_); rintro e w2 ⟨rfl, rfl⟩
  go_wp2_with fail
  go_must (refine (is_same a b h _).mono ?_); rintro e w3 ⟨rfl, rfl⟩
  have hb : Below w.heap.size w (((w.alloc (.cells #[.int .i64 a, .int .i64 b] 28)).alloc (.cells #[.int .i64 a, .int .i64 b] 28)).alloc (.cells #[.int .i64 a, .int .i64 b] 28)) :=
    (((Below.refl _ w).alloc (Nat.le_refl _) _).alloc (by simp) _).alloc (by simp; omega) _
  have hE1 := hE.below hb
  go_wp2_with fail
  go_must (refine (awake_any _ hE1).mono ?_); rintro e w4 ⟨rfl, hb4⟩
  have hb14 := hb.trans (hb4.mono hb.size)
  go_wp2
  go_ret
  exact ⟨rfl, hb14⟩

set_option maxRecDepth 20000 in
set_option maxHeartbeats 2000000 in
theorem parts_out (a b : Int) (h : ¬ Rg a b) (w : World) (hE : Env w) :
    Calls Tryd.prog 3 #[.int .i64 a, .int .i64 b] w fun e w' => e = .returned (.bool true) ∧ Below w.heap.size w w' := by
  go_enter Tryd.func3, Tryd.ntmps3
  go_wp2_with fail
  go_must (refine (of_out a b h _).mono ?_); rintro e w1 ⟨rfl, rfl⟩
  go_wp2_with fail
  go_must (refine (fits_f a b h _).mono ?_); rintro e w2 ⟨rfl, rfl⟩
  go_wp2_with fail
  go_must (refine (is_zero _).mono ?_); rintro e w3 ⟨rfl, rfl⟩
  have hb : Below w.heap.size w (((w.alloc (.cells #[.int .i64 a, .int .i64 b] 28)).alloc (.cells #[.int .i64 a, .int .i64 b] 28)).alloc (.cells #[.int .i64 0, .int .i64 0] 28)) :=
    (((Below.refl _ w).alloc (Nat.le_refl _) _).alloc (by simp) _).alloc (by simp; omega) _
  have hE1 := hE.below hb
  go_wp2_with fail
  go_must (refine (awake_any _ hE1).mono ?_); rintro e w4 ⟨rfl, hb4⟩
  have hb14 := hb.trans (hb4.mono hb.size)
  go_wp2
  go_ret
  exact ⟨rfl, hb14⟩

/-- The law. -/
theorem law_parts (a b : Int) (w : World) (hE : Env w) :
    Calls Tryd.prog 3 #[.int .i64 a, .int .i64 b] w fun e w' => e = .returned (.bool true) ∧ Below w.heap.size w w' := by
  by_cases h : Rg a b
  · exact parts_in a b h w hE
  · exact parts_out a b h w hE
end Go.Proofs.YtkppkojpdhgicaaDoor
