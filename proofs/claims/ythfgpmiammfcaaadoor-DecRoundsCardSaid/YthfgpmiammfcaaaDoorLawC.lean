/-
The law DecRounds, walked.
-/
import Derived.Test.YthfgpmiammfcaaaDoorAwake
import Derived.Test.YthfgpmiammfcaaaDoorRefK
namespace Go.Proofs.YthfgpmiammfcaaaDoor
open Go.RowKit

theorem mod_zero (a : Int) (w : World) :
    Calls Tryd.prog 29 #[.int .i64 a, .int .i64 0] w fun e w' => e = .returned (.tuple #[.int .i64 0, .int .i64 32]) ∧ w = w' := by
  go_enter Tryd.func29, Tryd.ntmps29
  go_wp2
  go_ret2
  exact ⟨rfl, rfl⟩
theorem rmod_zero (a : Int) (w : World) :
    Calls Tryd.prog 30 #[.int .i64 a, .int .i64 0] w fun e w' => e = .returned (.tuple #[.int .i64 0, .int .i64 32]) ∧ w = w' := by
  go_enter Tryd.func30, Tryd.ntmps30
  go_wp2
  go_ret2
  exact ⟨rfl, rfl⟩
theorem mods (a b : Int) (ha : I64 a) (hb : I64 b) : ∃ x e, I64 x ∧ I64 e ∧
    (∀ w, Calls Tryd.prog 29 #[.int .i64 a, .int .i64 b] w fun r w' => r = .returned (.tuple #[.int .i64 x, .int .i64 e]) ∧ w = w') ∧
    (∀ w, Calls Tryd.prog 30 #[.int .i64 a, .int .i64 b] w fun r w' => r = .returned (.tuple #[.int .i64 x, .int .i64 e]) ∧ Below w.heap.size w w') := by
  by_cases h : b = 0
  · subst h
    exact ⟨0, 32, i64_zero, by unfold I64; omega, mod_zero a, fun w => (rmod_zero a w).mono fun r w' ⟨h, h'⟩ => ⟨h, h' ▸ Below.refl _ _⟩⟩
  · exact ⟨fm a b, 0, mod_i64 hb h, i64_zero, mod_any a b ha hb h, rmod_any a b ha hb h⟩

set_option maxRecDepth 20000 in
set_option maxHeartbeats 2000000 in
theorem law_rounds (a b p : Int) (ha : I64 a) (hb : I64 b) (hp : I64 p) (w : World) (hE : Env w) :
    Calls Tryd.prog 6 #[.int .i64 a, .int .i64 b, .int .i64 p] w fun e w' => e = .returned (.bool true) ∧ Below w.heap.size w w' := by
  have s1 := toI_i64 (sgn (decide (a < 0)) (rnd a.natAbs (10 ^ away p) * 10 ^ away p))
  have s2 := toI_i64 (a - a % 1000000)
  obtain ⟨z1, z2, s31, s32, c5, c6⟩ := mods a b ha hb
  have c1 := fun w => round_any a p ha hp w
  have c2 := fun w => rround_any a p ha hp w
  have c3 := fun w => floor_any a ha w
  have c4 := fun w => rfloor_any a ha w
  obtain ⟨x, hx⟩ : ∃ x, toI (sgn (decide (a < 0)) (rnd a.natAbs (10 ^ away p) * 10 ^ away p)) = x := ⟨_, rfl⟩
  obtain ⟨y, hy⟩ : ∃ x, toI (a - a % 1000000) = x := ⟨_, rfl⟩
  rw [hx] at s1 c1 c2
  rw [hy] at s2 c3 c4
  obtain ⟨x1, x2⟩ := x
  obtain ⟨y1, y2⟩ := y
  clear hx hy
  have d1 := fun w => same_any x1 x2 s1.1 s1.2 w
  have d2 := fun w => same_any y1 y2 s2.1 s2.2 w
  have d3 := fun w => same_any z1 z2 s31 s32 w
  go_enter Tryd.func6, Tryd.ntmps6
  go_wp2_with fail
  go_must (refine (c1 _).mono ?_); rintro e w' ⟨rfl, rfl⟩
  go_wp2_with fail
  go_must (refine (c2 _).mono ?_); rintro e w2 ⟨rfl, hb2⟩
  go_wp2_with fail
  go_must (refine (c3 _).mono ?_); rintro e w' ⟨rfl, rfl⟩
  go_wp2_with fail
  go_must (refine (c4 _).mono ?_); rintro e w3 ⟨rfl, hb3⟩
  have hb13 := hb2.trans (hb3.mono hb2.size)
  go_wp2_with fail
  go_must (refine (c5 _).mono ?_); rintro e w' ⟨rfl, rfl⟩
  go_wp2_with fail
  go_must (refine (c6 _).mono ?_); rintro e w4 ⟨rfl, hb4⟩
  have hb14 := hb13.trans (hb4.mono hb13.size)
  go_wp2_with fail
  go_must (refine (d1 _).mono ?_); rintro e w' ⟨rfl, rfl⟩
  go_wp2_with fail
  go_must (refine (d2 _).mono ?_); rintro e w' ⟨rfl, rfl⟩
  go_wp2_with fail
  go_must (refine (d3 _).mono ?_); rintro e w' ⟨rfl, rfl⟩
  go_wp2_with fail
  go_must (refine (awake_any _ (hE.below hb14)).mono ?_); rintro e w5 ⟨rfl, hb5⟩
  go_wp2
  go_ret
  exact ⟨rfl, hb14.trans (hb5.mono hb14.size)⟩
end Go.Proofs.YthfgpmiammfcaaaDoor
