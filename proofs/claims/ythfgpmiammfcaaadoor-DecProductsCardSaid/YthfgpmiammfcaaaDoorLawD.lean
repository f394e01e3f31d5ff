/-
The law DecProducts, walked.
-/
import Derived.Test.YthfgpmiammfcaaaDoorAwake
import Derived.Test.YthfgpmiammfcaaaDoorMulR
namespace Go.Proofs.YthfgpmiammfcaaaDoor
open Go.RowKit

theorem div_at (N d : Nat) (hd : 0 < d) (hd2 : d < 18446744073709551616) : DivAt (N / 18446744073709551616) (N % 18446744073709551616) d ∨ d ≤ N / 18446744073709551616 := by
  rcases Nat.lt_or_ge (N / 18446744073709551616) d with h | h
  · exact .inl (div64_any _ _ d (Nat.mod_lt _ (by decide)) h hd2)
  · exact .inr h

theorem divs (a b : Int) (ha : I64 a) (hb : I64 b) : ∃ x e, I64 x ∧ I64 e ∧
    (∀ w, Calls Tryd.prog 23 #[.int .i64 a, .int .i64 b] w fun r w' => r = .returned (.tuple #[.int .i64 x, .int .i64 e]) ∧ Below w.heap.size w w') ∧
    (∀ w, Calls Tryd.prog 24 #[.int .i64 a, .int .i64 b] w fun r w' => r = .returned (.tuple #[.int .i64 x, .int .i64 e]) ∧ Below w.heap.size w w') := by
  by_cases h : b = 0
  · subst h
    exact ⟨0, 32, i64_zero, by unfold I64; omega, fun w => (div_zero a w).mono fun r w' ⟨h, h'⟩ => ⟨h, h' ▸ Below.refl _ _⟩, fun w => (rdiv_zero a w).mono fun r w' ⟨h, h'⟩ => ⟨h, h' ▸ Below.refl _ _⟩⟩
  · have s := toI_i64 (sgn (!decide (a < 0) == decide (b < 0)) (rnd (a.natAbs * 1000000) b.natAbs))
    exact ⟨_, _, s.1, s.2, fun w => div_any a b ha hb h (div_at _ _ (by omega) (by unfold I64 at hb; omega)) w, fun w => rdiv_any a b ha hb h w⟩

set_option maxRecDepth 20000 in
set_option maxHeartbeats 2000000 in
theorem law_products (a b : Int) (ha : I64 a) (hb : I64 b) (w : World) (hE : Env w) :
    Calls Tryd.prog 5 #[.int .i64 a, .int .i64 b] w fun e w' => e = .returned (.bool true) ∧ Below w.heap.size w w' := by
  have s1 := toI_i64 (sgn (!decide (a < 0) == decide (b < 0)) (rnd (a.natAbs * b.natAbs) 1000000))
  obtain ⟨z1, z2, s31, s32, c3, c4⟩ := divs a b ha hb
  have c1 := fun w => mul_any a b ha hb (div_at _ _ (by decide) (by decide)) w
  have c2 := fun w => rmul_any a b ha hb w
  obtain ⟨x, hx⟩ : ∃ x, toI (sgn (!decide (a < 0) == decide (b < 0)) (rnd (a.natAbs * b.natAbs) 1000000)) = x := ⟨_, rfl⟩
  rw [hx] at s1 c1 c2
  obtain ⟨x1, x2⟩ := x
  clear hx
  have d1 := fun w => same_any x1 x2 s1.1 s1.2 w
  have d3 := fun w => same_any z1 z2 s31 s32 w
  go_enter Tryd.func5, Tryd.ntmps5
  go_wp2_with fail
  go_must (refine (c1 _).mono ?_); rintro e w1 ⟨rfl, hb1⟩
  go_wp2_with fail
  go_must (refine (c2 _).mono ?_); rintro e w2 ⟨rfl, hb2⟩
  have hb12 := hb1.trans (hb2.mono hb1.size)
  go_wp2_with fail
  go_must (refine (c3 _).mono ?_); rintro e w3 ⟨rfl, hb3⟩
  have hb13 := hb12.trans (hb3.mono hb12.size)
  go_wp2_with fail
  go_must (refine (c4 _).mono ?_); rintro e w4 ⟨rfl, hb4⟩
  have hb14 := hb13.trans (hb4.mono hb13.size)
  go_wp2_with fail
  go_must (refine (d1 _).mono ?_); rintro e w' ⟨rfl, rfl⟩
  go_wp2_with fail
  go_must (refine (d3 _).mono ?_); rintro e w' ⟨rfl, rfl⟩
  go_wp2_with fail
  go_must (refine (awake_any _ (hE.below hb14)).mono ?_); rintro e w5 ⟨rfl, hb5⟩
  go_wp2
  go_ret
  exact ⟨rfl, hb14.trans (hb5.mono hb14.size)⟩
end Go.Proofs.YthfgpmiammfcaaaDoor
