/-
The program's decimal numbers: size, signed, Add, Sub, Neg, Of, by contracts.
-/
import Derived.Test.YthfgpmiammfcaaaDoorRefH
namespace Go.Proofs.YthfgpmiammfcaaaDoor
open Go.RowKit

/-- An int64. -/
def I64 (z : Int) : Prop := -9223372036854775808 ≤ z ∧ z ≤ 9223372036854775807

theorem toI_of {z r e : Int} (h : I64 z ∧ r = z ∧ e = 0 ∨ ¬ I64 z ∧ r = 0 ∧ e = 31) : toI z = (r, e) := by
  unfold toI
  rcases h with ⟨h, rfl, rfl⟩ | ⟨h, rfl, rfl⟩
  · unfold I64 at h; rw [if_pos h]
  · unfold I64 at h; rw [if_neg h]

theorem u64wrap (x : Int) : IntKind.u64.wrap x = x % 18446744073709551616 := by simp [IntKind.wrap, IntKind.bits, IntKind.signed]

theorem add_ok {a b : Int} (ha : I64 a) (hb : I64 b) (h : (!decide (a < wrap64 (a + b)) == decide (0 < b)) = false) : toI (a + b) = (wrap64 (a + b), 0) := by
  have h' : (a < wrap64 (a + b)) ↔ (0 < b) := by
    by_cases h1 : a < wrap64 (a + b) <;> by_cases h2 : 0 < b <;> simp [h1, h2] at h ⊢
  refine toI_of (.inl ?_)
  unfold wrap64 I64 at *
  omega
theorem add_no {a b : Int} (ha : I64 a) (hb : I64 b) (h : (!decide (a < wrap64 (a + b)) == decide (0 < b)) = true) : toI (a + b) = (0, 31) := by
  have h' : ¬ ((a < wrap64 (a + b)) ↔ (0 < b)) := by
    by_cases h1 : a < wrap64 (a + b) <;> by_cases h2 : 0 < b <;> simp [h1, h2] at h ⊢
  refine toI_of (.inr ?_)
  unfold wrap64 I64 at *
  omega
theorem sub_ok {a b : Int} (ha : I64 a) (hb : I64 b) (h : (!decide (wrap64 (a - b) < a) == decide (0 < b)) = false) : toI (a - b) = (wrap64 (a - b), 0) := by
  have h' : (wrap64 (a - b) < a) ↔ (0 < b) := by
    by_cases h1 : wrap64 (a - b) < a <;> by_cases h2 : 0 < b <;> simp [h1, h2] at h ⊢
  refine toI_of (.inl ?_)
  unfold wrap64 I64 at *
  omega
theorem sub_no {a b : Int} (ha : I64 a) (hb : I64 b) (h : (!decide (wrap64 (a - b) < a) == decide (0 < b)) = true) : toI (a - b) = (0, 31) := by
  have h' : ¬ ((wrap64 (a - b) < a) ↔ (0 < b)) := by
    by_cases h1 : wrap64 (a - b) < a <;> by_cases h2 : 0 < b <;> simp [h1, h2] at h ⊢
  refine toI_of (.inr ?_)
  unfold wrap64 I64 at *
  omega

/-- dec.size. -/
theorem size_any (z : Int) (hz : I64 z) (w : World) :
    Calls Tryd.prog 40 #[.int .i64 z] w fun e w' => e = .returned (.int .u64 ((z.natAbs : Nat) : Int)) ∧ w = w' := by
  obtain ⟨h1, h2⟩ := hz
  rcases Int.lt_or_le z 0 with h | h
  · have e : IntKind.u64.wrap (-IntKind.u64.wrap z) = ((z.natAbs : Nat) : Int) := by
      rw [u64wrap, u64wrap]; omega
    have E := Lib.hid e; clear e
    go_enter Tryd.func40, Tryd.ntmps40
    go_wp2
    go_ret
    exact ⟨by rw [← E.out]; rfl, rfl⟩
  · have e : z = ((z.natAbs : Nat) : Int) := by omega
    have E := Lib.hid e; clear e
    go_enter Tryd.func40, Tryd.ntmps40
    go_wp2
    go_ret
    exact ⟨by rw [← E.out]; rfl, rfl⟩

/-- dec.Add. -/
theorem add_any (a b : Int) (ha : I64 a) (hb : I64 b) (w : World) :
    Calls Tryd.prog 9 #[.int .i64 a, .int .i64 b] w fun e w' => e = .returned (.tuple #[.int .i64 (toI (a + b)).1, .int .i64 (toI (a + b)).2]) ∧ w = w' := by
  go_enter Tryd.func9, Tryd.ntmps9
  go_wp2
  · have h : (!decide (a < wrap64 (a + b)) == decide (0 < b)) = true := by assumption
    go_ret2
    exact ⟨by rw [add_no ha hb h]; rfl, rfl⟩
  · have h : (!decide (a < wrap64 (a + b)) == decide (0 < b)) = false := by assumption
    go_ret2
    exact ⟨by rw [add_ok ha hb h]; rfl, rfl⟩

/-- dec.Sub. -/
theorem sub_any (a b : Int) (ha : I64 a) (hb : I64 b) (w : World) :
    Calls Tryd.prog 11 #[.int .i64 a, .int .i64 b] w fun e w' => e = .returned (.tuple #[.int .i64 (toI (a - b)).1, .int .i64 (toI (a - b)).2]) ∧ w = w' := by
  go_enter Tryd.func11, Tryd.ntmps11
  go_wp2
  · have h : (!decide (wrap64 (a - b) < a) == decide (0 < b)) = true := by assumption
    go_ret2
    exact ⟨by rw [sub_no ha hb h]; rfl, rfl⟩
  · have h : (!decide (wrap64 (a - b) < a) == decide (0 < b)) = false := by assumption
    go_ret2
    exact ⟨by rw [sub_ok ha hb h]; rfl, rfl⟩

theorem i64_zero : I64 0 := by unfold I64; omega

/-- dec.Neg. -/
theorem neg_any (a : Int) (ha : I64 a) (w : World) :
    Calls Tryd.prog 12 #[.int .i64 a] w fun e w' => e = .returned (.tuple #[.int .i64 (toI (-a)).1, .int .i64 (toI (-a)).2]) ∧ w = w' := by
  have h0 := sub_any 0 a i64_zero ha w
  rw [Int.zero_sub] at h0
  go_enter Tryd.func12, Tryd.ntmps12
  go_wp2_with (go_at_call 11; go_must (refine h0.mono ?_); rintro e w' ⟨rfl, rfl⟩)
  go_ret2
  exact ⟨rfl, rfl⟩

/-- dec.Of. -/
theorem dof_any (n : Int) (hn : I64 n) (w : World) :
    Calls Tryd.prog 15 #[.int .i64 n] w fun e w' => e = .returned (.tuple #[.int .i64 (toI (n * 1000000)).1, .int .i64 (toI (n * 1000000)).2]) ∧ w = w' := by
  obtain ⟨h1, h2⟩ := hn
  by_cases g1 : 9223372036854 < n
  · have e : toI (n * 1000000) = (0, 31) := toI_of (.inr (by unfold I64; omega))
    rw [e]
    go_enter Tryd.func15, Tryd.ntmps15
    go_wp2
    go_ret2
    exact ⟨rfl, rfl⟩
  · by_cases g2 : n < -9223372036854
    · have e : toI (n * 1000000) = (0, 31) := toI_of (.inr (by unfold I64; omega))
      rw [e]
      go_enter Tryd.func15, Tryd.ntmps15
      go_wp2
      go_ret2
      exact ⟨rfl, rfl⟩
    · have e : toI (n * 1000000) = (n * 1000000, 0) := toI_of (.inl (by unfold I64; omega))
      rw [e]
      go_enter Tryd.func15, Tryd.ntmps15
      go_wp2
      go_ret2
      exact ⟨rfl, rfl⟩

/-- dec.signed. -/
theorem signed_any (m : Bool) (n : Nat) (hn : n < 18446744073709551616) (w : World) :
    Calls Tryd.prog 44 #[.bool m, .int .u64 (n : Int)] w fun e w' => e = .returned (.tuple #[.int .i64 (toI (sgn m n)).1, .int .i64 (toI (sgn m n)).2]) ∧ w = w' := by
  have hs := fun w => size_any (-9223372036854775808) (by unfold I64; omega) w
  cases m
  · by_cases g : 9223372036854775807 < n
    · have e : toI (sgn false n) = (0, 31) := toI_of (.inr (by unfold I64 sgn; simp; omega))
      rw [e]
      go_enter Tryd.func44, Tryd.ntmps44
      go_wp2
      go_ret2
      exact ⟨rfl, rfl⟩
    · have e : toI (sgn false n) = ((n : Int), 0) := toI_of (.inl (by unfold I64 sgn; simp; omega))
      rw [e]
      go_enter Tryd.func44, Tryd.ntmps44
      go_wp2
      go_ret2
      exact ⟨rfl, rfl⟩
  · by_cases g : 9223372036854775808 < n
    · have e : toI (sgn true n) = (0, 31) := toI_of (.inr (by unfold I64 sgn; simp; omega))
      rw [e]
      clear e
      go_enter Tryd.func44, Tryd.ntmps44
      go_wp2_with (go_at_call 40; go_must (refine (hs _).mono ?_); rintro e w' ⟨rfl, rfl⟩)
      go_ret2
      exact ⟨rfl, rfl⟩
    · have e : toI (sgn true n) = (-(n : Int), 0) := toI_of (.inl (by unfold I64 sgn; simp; omega))
      have e2 : wrap64 (IntKind.u64.wrap (-(n : Int))) = -(n : Int) := by rw [u64wrap]; unfold wrap64; omega
      rw [e]
      have E2 := Lib.hid e2; clear e e2
      go_enter Tryd.func44, Tryd.ntmps44
      go_wp2_with (go_at_call 40; go_must (refine (hs _).mono ?_); rintro e w' ⟨rfl, rfl⟩)
      go_ret2
      exact ⟨ret_ii (by exact E2.out) rfl, rfl⟩
end Go.Proofs.YthfgpmiammfcaaaDoor
