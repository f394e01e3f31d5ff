/-
The program's numbers: Of, Parts, checked, Conj and Norm, by contracts; and the law's to and is, and the reference's Fits.
-/
import Derived.Test.YtkppkojpdhgicaaDoorRows
import Derived.Test.YtkppkojpdhgicaaDoorGFloat
import Derived.WalkKit
import Derived.WalkSpells
import Derived.WalkLawsBesides
import Derived.Outline
import Derived.Lib.Hide
import Derived.BigCall
import Derived.BigGuard
namespace Go.Proofs.YtkppkojpdhgicaaDoor
open Go.RowKit Go.Proofs.YtkppkojpdhgicaaDoor.Gf

/-- The program's number with these parts. -/
abbrev cv (a b : Int) : Value := .complex .f64 (floatOfInt .f64 a) (floatOfInt .f64 b)
/-- The parts are those of a number. -/
def Rg (a b : Int) : Prop := (-1048576 ≤ a ∧ a ≤ 1048576) ∧ (-1048576 ≤ b ∧ b ≤ 1048576)
instance (a b : Int) : Decidable (Rg a b) := inferInstanceAs (Decidable ((_ ∧ _) ∧ (_ ∧ _)))
theorem fl0 : floatOfInt .f64 0 = 0 := by decide +kernel
theorem fl1 : floatOfInt .f64 1 = 4607182418800017408 := by decide +kernel
theorem Rg.zero : Rg 0 0 := by decide

/-- The cells that a call keeps. -/
theorem bcell {W w1 : World} {B : Nat} (hb : Below B W w1) (b o : Nat) (h : b < B) : w1.cell? ⟨b, o, none⟩ = W.cell? ⟨b, o, none⟩ := hb.cell (p := ⟨b, o, none⟩) h
theorem bfroz {W w1 : World} {B : Nat} (hb : Below B W w1) (b o : Nat) (h : b < B) : w1.frozen? ⟨b, o, none⟩ = W.frozen? ⟨b, o, none⟩ := hb.frozen (p := ⟨b, o, none⟩) h

/-- A new block of two cells, behind a call. -/
theorem two_cells {w w1 : World} {x y : Value} {T : TypeId} (hb : Below (w.alloc (.cells #[x, y] T)).heap.size (w.alloc (.cells #[x, y] T)) w1) :
    w1.cell? ⟨w.heap.size, 0, none⟩ = some x ∧ w1.cell? ⟨w.heap.size, 1, none⟩ = some y ∧ w1.frozen? ⟨w.heap.size, 0, none⟩ = false ∧ w1.frozen? ⟨w.heap.size, 1, none⟩ = false ∧ w.heap.size < w1.heap.size := by
  have h0 : (w.alloc (.cells #[x, y] T)).heap[w.heap.size]? = some (.cells #[x, y] T (0, 0)) := heap_alloc_new w _
  have hs := hb.size
  simp at hs
  refine ⟨?_, ?_, ?_, ?_, by omega⟩
  · rw [bcell hb _ _ (by simp), cell_of_row _ _ 0 _ _ _ h0]; rfl
  · rw [bcell hb _ _ (by simp), cell_of_row _ _ 1 _ _ _ h0]; rfl
  · rw [bfroz hb _ _ (by simp)]; exact frozen_of_row _ _ 0 _ _ h0
  · rw [bfroz hb _ _ (by simp)]; exact frozen_of_row _ _ 1 _ _ h0

/-- gauss.Of, in range. -/
theorem of_in (a b : Int) (h : Rg a b) (w : World) :
    Calls Tryd.prog 7 #[.int .i64 a, .int .i64 b] w fun e w' => e = .returned (.tuple #[cv a b, .int .i64 0]) ∧ w = w' := by
  obtain ⟨⟨h1, h2⟩, h3, h4⟩ := h
  have n1 : ¬ a < -1048576 := by omega
  have n2 : ¬ 1048576 < a := by omega
  have n3 : ¬ b < -1048576 := by omega
  have n4 : ¬ 1048576 < b := by omega
  go_enter Tryd.func7, Tryd.ntmps7
  go_wp2
  go_ret2
  exact ⟨rfl, rfl⟩

/-- gauss.Of, out of range. -/
theorem of_out (a b : Int) (h : ¬ Rg a b) (w : World) :
    Calls Tryd.prog 7 #[.int .i64 a, .int .i64 b] w fun e w' => e = .returned (.tuple #[cv 0 0, .int .i64 31]) ∧ w = w' := by
  unfold Rg at h
  show Calls Tryd.prog 7 #[.int .i64 a, .int .i64 b] w fun e w' => e = .returned (.tuple #[.complex .f64 (floatOfInt .f64 0) (floatOfInt .f64 0), .int .i64 31]) ∧ w = w'
  rw [fl0]
  by_cases n1 : a < -1048576
  · clear h
    go_enter Tryd.func7, Tryd.ntmps7
    go_wp2
    go_ret2
    exact ⟨rfl, rfl⟩
  by_cases n2 : 1048576 < a
  · clear h
    go_enter Tryd.func7, Tryd.ntmps7
    go_wp2
    go_ret2
    exact ⟨rfl, rfl⟩
  by_cases n3 : b < -1048576
  · clear h
    go_enter Tryd.func7, Tryd.ntmps7
    go_wp2
    go_ret2
    exact ⟨rfl, rfl⟩
  have n4 : 1048576 < b := by omega
  clear h
  go_enter Tryd.func7, Tryd.ntmps7
  go_wp2
  go_ret2
  exact ⟨rfl, rfl⟩

/-- The answer of a calculation: the number, or the error. -/
def chk (a b : Int) : Value × Int := if Rg a b then (cv a b, 0) else (cv 0 0, 31)
theorem chk_in {a b : Int} (h : Rg a b) : chk a b = (cv a b, 0) := if_pos h
theorem chk_out {a b : Int} (h : ¬ Rg a b) : chk a b = (cv 0 0, 31) := if_neg h

/-- gauss.Of. -/
theorem of_any (a b : Int) (w : World) :
    Calls Tryd.prog 7 #[.int .i64 a, .int .i64 b] w fun e w' => e = .returned (.tuple #[(chk a b).1, .int .i64 (chk a b).2]) ∧ w = w' := by
  by_cases h : Rg a b
  · rw [chk_in h]; exact of_in a b h w
  · rw [chk_out h]; exact of_out a b h w

/-- What 'int(..)' of a part gives. -/
theorem conv_int {x : Nat} {a : Int} (hx : FI x a) (ha : a.natAbs < 2 ^ 53) (w : World) : (convert 52 3 (.float .f64 x)).run Tryd.prog w = .ok (.int .i64 a) w :=
  run_convert_float_int w 52 3 .f64 .i64 x a (by rw [Tryd.underlying52]; rfl) Tryd.underlying3 (fi_int hx ha)

/-- Parts, of floats that stand for whole numbers. -/
theorem parts_fi {x y : Nat} {a b : Int} (hx : FI x a) (hy : FI y b) (ha : a.natAbs < 2 ^ 53) (hb : b.natAbs < 2 ^ 53) (w : World) :
    Calls Tryd.prog 23 #[.complex .f64 x y] w fun e w' => e = .returned (.tuple #[.int .i64 a, .int .i64 b]) ∧ w = w' := by
  have c1 := conv_int hx ha
  have c2 := conv_int hy hb
  clear hx hy ha hb
  go_enter Tryd.func23, Tryd.ntmps23
  go_wp2_with (simp only [c1, c2])
  go_ret2
  exact ⟨rfl, rfl⟩

/-- checked, of floats that stand for whole numbers. -/
theorem checked_fi {x y : Nat} {a b : Int} (hx : FI x a) (hy : FI y b) (ha : a.natAbs < 2 ^ 53) (hb : b.natAbs < 2 ^ 53) (w : World) :
    Calls Tryd.prog 24 #[.complex .f64 x y] w fun e w' => e = .returned (.tuple #[(chk a b).1, .int .i64 (chk a b).2]) ∧ w = w' := by
  have hp := fun w => parts_fi hx hy ha hb w
  have ho := fun w => of_any a b w
  clear hx hy ha hb
  generalize chk a b = r at ho ⊢
  obtain ⟨r1, r2⟩ := r
  go_enter Tryd.func24, Tryd.ntmps24
  go_wp2_with (first | (go_at_call 23; go_must (refine (hp _).mono ?_); rintro e w' ⟨rfl, rfl⟩) | (go_at_call 7; go_must (refine (ho _).mono ?_); rintro e w' ⟨rfl, rfl⟩))
  go_ret2
  exact ⟨rfl, rfl⟩

theorem rg_abs {a b : Int} (h : Rg a b) : a.natAbs ≤ 1048576 ∧ b.natAbs ≤ 1048576 := by unfold Rg at h; omega
theorem h53 : (2 : Nat) ^ 53 = 9007199254740992 := rfl

/-- Parts. -/
theorem parts_any (a b : Int) (h : Rg a b) (w : World) :
    Calls Tryd.prog 23 #[cv a b] w fun e w' => e = .returned (.tuple #[.int .i64 a, .int .i64 b]) ∧ w = w' := by
  obtain ⟨h1, h2⟩ := rg_abs h
  exact parts_fi (fi_of a) (fi_of b) (by rw [h53]; omega) (by rw [h53]; omega) w

/-- Conj. -/
theorem conj_any (a b : Int) (h : Rg a b) (w : World) :
    Calls Tryd.prog 16 #[cv a b] w fun e w' => e = .returned (cv a (-b)) ∧ w = w' := by
  have hp := fun w => parts_any a b h w
  obtain ⟨⟨h1, h2⟩, h3, h4⟩ := h
  go_enter Tryd.func16, Tryd.ntmps16
  go_wp2_with (go_at_call 23; go_must (refine (hp _).mono ?_); rintro e w' ⟨rfl, rfl⟩)
  go_ret
  exact ⟨rfl, rfl⟩

/-- Norm. -/
theorem norm_any (a b : Int) (h : Rg a b) (w : World) :
    Calls Tryd.prog 17 #[cv a b] w fun e w' => e = .returned (.int .i64 (a * a + b * b)) ∧ w = w' := by
  have hc := fun w => conj_any a b h w
  obtain ⟨h1, h2⟩ := rg_abs h
  obtain ⟨re, im, he, f1, f2⟩ := cmul (fi_of a) (fi_of b) (fi_of a) (fi_of (-b)) h1 h2 h1 (by omega)
  have hm := fun t w => run_complex_mul (P := Tryd.prog) w t _ _ _ _ re im he
  have e1 : a * a - b * -b = a * a + b * b := by rw [Int.mul_neg]; omega
  have b1 : (a * a + b * b).natAbs < 2 ^ 53 := by
    have p1 : (a * a).natAbs ≤ 1099511627776 := by rw [Int.natAbs_mul]; exact Nat.le_trans (Nat.mul_le_mul h1 h1) (by decide)
    have p2 : (b * b).natAbs ≤ 1099511627776 := by rw [Int.natAbs_mul]; exact Nat.le_trans (Nat.mul_le_mul h2 h2) (by decide)
    rw [h53]; omega
  rw [e1] at f1
  have c1 := conv_int f1 b1
  clear he f1 f2 h h1 h2 b1 e1
  generalize a * a + b * b = n at c1 ⊢
  go_enter Tryd.func17, Tryd.ntmps17
  go_wp2_with (first | (go_at_call 16; go_must (refine (hc _).mono ?_); rintro e w' ⟨rfl, rfl⟩) | simp only [hm, c1])
  go_ret
  exact ⟨rfl, rfl⟩

/-- ref.Fits, which says whether these are the parts of a number. -/
theorem fits_any (a b : Int) (w : World) :
    Calls Tryd.prog 8 #[.agg #[.int .i64 a, .int .i64 b]] w fun e w' => e = .returned (.bool (decide (Rg a b))) ∧ w' = w.alloc (.cells #[.int .i64 a, .int .i64 b] 28) := by
  by_cases n1 : -1048576 ≤ a
  · by_cases n2 : a ≤ 1048576
    · by_cases n3 : -1048576 ≤ b
      · by_cases n4 : b ≤ 1048576
        · rw [decide_eq_true (show Rg a b from ⟨⟨n1, n2⟩, n3, n4⟩)]
          go_enter Tryd.func8, Tryd.ntmps8
          go_wp2
          go_ret
          exact ⟨rfl, rfl⟩
        · rw [decide_eq_false (show ¬ Rg a b from fun h => by unfold Rg at h; omega)]
          go_enter Tryd.func8, Tryd.ntmps8
          go_wp2
          go_ret
          exact ⟨rfl, rfl⟩
      · rw [decide_eq_false (show ¬ Rg a b from fun h => by unfold Rg at h; omega)]
        go_enter Tryd.func8, Tryd.ntmps8
        go_wp2
        go_ret
        exact ⟨rfl, rfl⟩
    · rw [decide_eq_false (show ¬ Rg a b from fun h => by unfold Rg at h; omega)]
      go_enter Tryd.func8, Tryd.ntmps8
      go_wp2
      go_ret
      exact ⟨rfl, rfl⟩
  · rw [decide_eq_false (show ¬ Rg a b from fun h => by unfold Rg at h; omega)]
    go_enter Tryd.func8, Tryd.ntmps8
    go_wp2
    go_ret
    exact ⟨rfl, rfl⟩

/-- The law's to. -/
theorem to_any (a b : Int) (w : World) :
    Calls Tryd.prog 20 #[.agg #[.int .i64 a, .int .i64 b]] w fun e w' => e = .returned (chk a b).1 ∧ w' = w.alloc (.cells #[.int .i64 a, .int .i64 b] 28) := by
  have ho := fun w => of_any a b w
  generalize chk a b = r at ho ⊢
  obtain ⟨r1, r2⟩ := r
  go_enter Tryd.func20, Tryd.ntmps20
  go_wp2_with (go_at_call 7; go_must (refine (ho _).mono ?_); rintro e w' ⟨rfl, rfl⟩)
  go_ret
  exact ⟨rfl, rfl⟩

/-- The law's is, at the number itself. -/
theorem is_same (a b : Int) (h : Rg a b) (w : World) :
    Calls Tryd.prog 9 #[cv a b, .agg #[.int .i64 a, .int .i64 b]] w fun e w' => e = .returned (.bool true) ∧ w' = w.alloc (.cells #[.int .i64 a, .int .i64 b] 28) := by
  have hp := fun w => parts_any a b h w
  clear h
  go_enter Tryd.func9, Tryd.ntmps9
  go_wp2_with (go_at_call 23; go_must (refine (hp _).mono ?_); rintro e w' ⟨rfl, rfl⟩)
  go_ret
  exact ⟨rfl, rfl⟩
end Go.Proofs.YtkppkojpdhgicaaDoor
