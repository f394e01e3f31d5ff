/-
The law GaussNorms, where the product is a number: the norms are multiplied.
-/
import Derived.Test.YtkppkojpdhgicaaDoorGNorm
namespace Go.Proofs.YtkppkojpdhgicaaDoor
open Go.RowKit Go.Proofs.YtkppkojpdhgicaaDoor.Gf

set_option maxRecDepth 20000 in
set_option maxHeartbeats 16000000 in
theorem norms_in (a b c d : Int) (hr : Rg a b) (hr2 : Rg c d) (hg : Rg (a * c - b * d) (a * d + b * c)) (w : World) (hE : Env w) :
    Calls Tryd.prog 6 #[.agg #[.int .i64 a, .int .i64 b], .agg #[.int .i64 c, .int .i64 d]] w fun e w' => e = .returned (.bool true) ∧ Below w.heap.size w w' := by
  have hM := fun w T => mul_pair a b c d hr hr2 w T
  rw [chk_in hg] at hM
  have hX := fun w => to_in' a b hr w
  have hY := fun w => to_in' c d hr2 w
  have hNx := fun w => norm_any a b hr w
  have hNy := fun w => norm_any c d hr2 w
  have hNp := fun w => norm_any _ _ hg w
  have hmul := norm_mul a b c d
  have hbd : 0 ≤ (a * c - b * d) * (a * c - b * d) + (a * d + b * c) * (a * d + b * c) ∧ (a * c - b * d) * (a * c - b * d) + (a * d + b * c) * (a * d + b * c) ≤ 2199023255552 := by
    obtain ⟨p1, p2⟩ := rg_abs hg
    have q1 : ((a * c - b * d) * (a * c - b * d)).natAbs ≤ 1099511627776 := by rw [Int.natAbs_mul]; exact Nat.le_trans (Nat.mul_le_mul p1 p1) (by decide)
    have q2 : ((a * d + b * c) * (a * d + b * c)).natAbs ≤ 1099511627776 := by rw [Int.natAbs_mul]; exact Nat.le_trans (Nat.mul_le_mul p2 p2) (by decide)
    have q3 := mul_self_nonneg' (a * c - b * d)
    have q4 := mul_self_nonneg' (a * d + b * c)
    omega
  generalize a * c - b * d = u at hM hNp hmul hbd
  generalize a * d + b * c = v at hM hNp hmul hbd
  generalize u * u + v * v = N at hNp hmul hbd
  generalize a * a + b * b = N1 at hNx hmul
  generalize c * c + d * d = N2 at hNy hmul
  have hwr : IntKind.i64.wrap (N1 * N2) = N := by rw [← hmul]; exact IntWalk.i64_in _ (by omega)
  have hw2 : N1 * N2 = N := hmul.symm
  have HW := Lib.hid hwr
  have HW2 := Lib.hid hw2
  clear hg hmul hwr hw2
  go_enter Tryd.func6, Tryd.ntmps6
  go_wp2_with fail
  go_must (refine (fits_t' a b hr _).mono ?_); rintro e1 w1 ⟨rfl, hb1⟩
  have HS1 := Lib.hid (Hd2.start hE hb1)
  clear hb1
  obtain ⟨_, ⟨c0, c1⟩, _, _⟩ := HS1.out
  go_wp2_with fail
  go_must (refine (fits_t' c d hr2 _).mono ?_); rintro e2 w2 ⟨rfl, hb2⟩
  have HS2 := Lib.hid (HS1.out.below hb2)
  clear HS1 hb2 c0 c1
  go_wp2_with fail
  have S7 := HS2.out.below (Below.refl _ w2).drew
  clear HS2
  go_region_held3 (fun w' => (w'.cell? ⟨w.heap.size, 0, none⟩ = some (.int .i64 a) ∧ w'.cell? ⟨w.heap.size, 1, none⟩ = some (.int .i64 b)) ∧ (w'.cell? ⟨w.heap.size + 1, 0, none⟩ = some (.int .i64 c) ∧ w'.cell? ⟨w.heap.size + 1, 1, none⟩ = some (.int .i64 d)) ∧ Env w' ∧ Below w.heap.size w w')
    (first | assumption | exact Hd2.al (by assumption) _ | go_keep)
    (first
      | (go_at_call 20; (with_reducible refine (hX _).mono ?_); rintro e W ⟨rfl, hbW⟩; have SW := Hd2.below (by assumption) hbW)
      | (go_at_call 20; (with_reducible refine (hY _).mono ?_); rintro e W ⟨rfl, hbW⟩; have SW := Hd2.below (by assumption) hbW)
      | (go_at_call 14; refine (hM _ _).mono ?_; rintro e W ⟨rfl, rfl⟩))
  all_goals
    have S8 := (Hd2.al SW (.cells #[cv a b, cv c d] 23)).below (Below.refl _ _).drew
    generalize W.alloc (.cells #[cv a b, cv c d] 23) = W8 at S8 ⊢
    have hwr := HW.out
    go_wp2_with fail
    go_region_held3 (fun w' => (w'.cell? ⟨w.heap.size, 0, none⟩ = some (.int .i64 a) ∧ w'.cell? ⟨w.heap.size, 1, none⟩ = some (.int .i64 b)) ∧ (w'.cell? ⟨w.heap.size + 1, 0, none⟩ = some (.int .i64 c) ∧ w'.cell? ⟨w.heap.size + 1, 1, none⟩ = some (.int .i64 d)) ∧ Env w' ∧ Below w.heap.size w w')
      (first | assumption | go_keep)
      (first
        | (go_at_call 20; (with_reducible refine (hX _).mono ?_); rintro e W ⟨rfl, hbW⟩; have SX := Hd2.below (by assumption) hbW)
        | (go_at_call 20; (with_reducible refine (hY _).mono ?_); rintro e W ⟨rfl, hbW⟩; have SX := Hd2.below (by assumption) hbW)
        | (go_at_call 17; (with_reducible refine (hNp _).mono ?_); rintro e W ⟨rfl, rfl⟩)
        | (go_at_call 17; (with_reducible refine (hNx _).mono ?_); rintro e W ⟨rfl, rfl⟩)
        | (go_at_call 17; (with_reducible refine (hNy _).mono ?_); rintro e W ⟨rfl, rfl⟩)
        | (go_at_call 10; refine (awake_any _ (Hd2.env (by assumption))).mono ?_; rintro e W ⟨rfl, hbW⟩; have SX := Hd2.below (by assumption) hbW))
    all_goals
      have hbF := SX.2.2.2
      go_wp2
      go_ret
      exact ⟨rfl, hbF⟩
end Go.Proofs.YtkppkojpdhgicaaDoor
