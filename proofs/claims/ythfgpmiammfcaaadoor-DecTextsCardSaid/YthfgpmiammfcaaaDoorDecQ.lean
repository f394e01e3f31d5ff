/-
The program's dec.quotient, dec.Mul and dec.Div, by contracts that lean on what bits.Div64 answers.
-/
import Derived.Test.YthfgpmiammfcaaaDoorDecA
import Derived.Test.YthfgpmiammfcaaaDoorShelf
namespace Go.Proofs.YthfgpmiammfcaaaDoor
open Go.RowKit

/-- What is asked of math/bits.Div64 at three numbers. -/
def DivAt (hi lo d : Nat) : Prop := ∀ w : World, Calls Tryd.prog 55 #[.int .u64 (hi : Int), .int .u64 (lo : Int), .int .u64 (d : Int)] w fun e w' =>
  e = .returned (.tuple #[.int .u64 (((hi * 18446744073709551616 + lo) / d : Nat) : Int), .int .u64 (((hi * 18446744073709551616 + lo) % d : Nat) : Int)]) ∧ ∃ k, w' = w.drewN k

/-- Half up. -/
def rnd (a b : Nat) : Nat := a / b + if b ≤ 2 * (a % b) then 1 else 0

set_option maxRecDepth 20000 in
set_option maxHeartbeats 1000000 in
/-- math/bits.Div64, where the high word is 0. -/
theorem div64_lo (lo d : Nat) (hl : lo < 18446744073709551616) (hd : 0 < d) (hd2 : d < 18446744073709551616) : DivAt 0 lo d := by
  intro w
  rw [Nat.zero_mul, Nat.zero_add]
  have h1 : ((d : Int) == 0) = false := by rw [beq_eq_false_iff_ne]; omega
  have h2 : ¬ ((d : Int) ≤ 0) := by omega
  have e1 : (lo : Int) / (d : Int) = ((lo / d : Nat) : Int) := by simp
  have e2 : (lo : Int) % (d : Int) = ((lo % d : Nat) : Int) := by simp
  have hq : lo / d < 18446744073709551616 := Nat.lt_of_le_of_lt (Nat.div_le_self _ _) hl
  have e3 : IntKind.u64.wrap ((lo : Int) / (d : Int)) = ((lo / d : Nat) : Int) := by
    rw [u64wrap, e1]
    exact Int.emod_eq_of_lt (Int.natCast_nonneg _) (Int.ofNat_lt.2 hq)
  have E2 := Lib.hid e2; clear e2
  have E3 := Lib.hid e3; clear e3 e1
  go_enter Tryd.func55, Tryd.ntmps55
  go_wp2
  go_quiet (fail)
  go_wp2
  go_ret2
  exact ⟨ret_ii E3.out E2.out, _, rfl⟩

set_option maxRecDepth 20000 in
set_option maxHeartbeats 1000000 in
/-- dec.quotient. -/
theorem quot_any (m : Bool) (hi lo d : Nat) (hdiv : hi < d → DivAt hi lo d) (hlo : lo < 18446744073709551616) (hhi : hi < 18446744073709551616) (hd0 : 0 < d) (hd : d ≤ 9223372036854775808) (w : World) :
    Calls Tryd.prog 41 #[.bool m, .int .u64 (hi : Int), .int .u64 (lo : Int), .int .u64 (d : Int)] w fun e w' =>
      e = .returned (.tuple #[.int .i64 (toI (sgn m (rnd (hi * 18446744073709551616 + lo) d))).1, .int .i64 (toI (sgn m (rnd (hi * 18446744073709551616 + lo) d))).2]) ∧ ∃ k, w' = w.drewN k := by
  have hs := fun w => size_any (-9223372036854775808) (by unfold I64; omega) w
  obtain ⟨A, hA⟩ : ∃ A, hi * 18446744073709551616 + lo = A := ⟨_, rfl⟩
  have far : ∀ q, 9223372036854775808 < q → toI (sgn m q) = (0, 31) := fun q hq => toI_of (.inr (by unfold I64 sgn; cases m <;> simp <;> omega))
  by_cases hlt : hi < d
  · have hdv := hdiv hlt
    unfold DivAt at hdv
    rw [hA] at hdv ⊢
    have hq : A / d < 18446744073709551616 := by
      rw [Nat.div_lt_iff_lt_mul hd0]
      have : (hi + 1) * 18446744073709551616 ≤ d * 18446744073709551616 := Nat.mul_le_mul_right _ hlt
      rw [Nat.add_mul, Nat.one_mul] at this
      rw [Nat.mul_comm]
      omega
    have hr := Nat.mod_lt A hd0
    unfold rnd
    obtain ⟨n, hn⟩ : ∃ n, A / d = n := ⟨_, rfl⟩
    obtain ⟨r, hrr⟩ : ∃ r, A % d = r := ⟨_, rfl⟩
    rw [hn, hrr] at hdv ⊢
    rw [hn] at hq
    rw [hrr] at hr
    clear hn hrr hA hdiv
    by_cases hup : d ≤ 2 * r
    · rw [if_pos hup]
      by_cases hbig : 9223372036854775808 < n
      · rw [far _ (by omega)]
        clear far
        go_enter Tryd.func41, Tryd.ntmps41
        go_wp2_with (first
          | (go_at_call 55; go_must (refine (hdv _).mono ?_); rintro e w' ⟨rfl, k, rfl⟩)
          | (go_at_call 40; go_must (refine (hs _).mono ?_); rintro e w' ⟨rfl, rfl⟩))
        go_ret2
        exact ⟨rfl, _, rfl⟩
      · have hsg := fun w => signed_any m (n + 1) (by omega) w
        rw [Int.natCast_add, Int.natCast_one] at hsg
        clear far
        go_enter Tryd.func41, Tryd.ntmps41
        go_wp2_with (first
          | (go_at_call 55; go_must (refine (hdv _).mono ?_); rintro e w' ⟨rfl, k, rfl⟩)
          | (go_at_call 40; go_must (refine (hs _).mono ?_); rintro e w' ⟨rfl, rfl⟩)
          | (go_at_call 44; go_must (refine (hsg _).mono ?_); rintro e w' ⟨rfl, rfl⟩))
        go_ret2
        exact ⟨rfl, _, rfl⟩
    · rw [if_neg hup, Nat.add_zero]
      have hsg := fun w => signed_any m n hq w
      clear far
      go_enter Tryd.func41, Tryd.ntmps41
      go_wp2_with (first
        | (go_at_call 55; go_must (refine (hdv _).mono ?_); rintro e w' ⟨rfl, k, rfl⟩)
        | (go_at_call 44; go_must (refine (hsg _).mono ?_); rintro e w' ⟨rfl, rfl⟩))
      go_ret2
      exact ⟨rfl, _, rfl⟩
  · have hq : 18446744073709551616 ≤ A / d := by
      rw [Nat.le_div_iff_mul_le hd0]
      have : d * 18446744073709551616 ≤ hi * 18446744073709551616 := Nat.mul_le_mul_right _ (by omega)
      rw [Nat.mul_comm]
      omega
    rw [hA, far _ (by unfold rnd; omega)]
    clear far hA hdiv hq
    go_enter Tryd.func41, Tryd.ntmps41
    go_wp2
    go_ret2
    exact ⟨rfl, 0, rfl⟩

set_option maxRecDepth 20000 in
set_option maxHeartbeats 1000000 in
/-- dec.Div. -/
theorem div_any (a b : Int) (ha : I64 a) (hb : I64 b) (hb0 : b ≠ 0) (hdiv : DivAt (a.natAbs * 1000000 / 18446744073709551616) (a.natAbs * 1000000 % 18446744073709551616) b.natAbs ∨ b.natAbs ≤ a.natAbs * 1000000 / 18446744073709551616) (w : World) :
    Calls Tryd.prog 23 #[.int .i64 a, .int .i64 b] w fun e w' =>
      e = .returned (.tuple #[.int .i64 (toI (sgn (!decide (a < 0) == decide (b < 0)) (rnd (a.natAbs * 1000000) b.natAbs))).1, .int .i64 (toI (sgn (!decide (a < 0) == decide (b < 0)) (rnd (a.natAbs * 1000000) b.natAbs))).2]) ∧ Below w.heap.size w w' := by
  have hsa := fun w => size_any a ha w
  have hsb := fun w => size_any b hb w
  obtain ⟨n, hn⟩ : ∃ n, a.natAbs = n := ⟨_, rfl⟩
  obtain ⟨d, hd⟩ : ∃ d, b.natAbs = d := ⟨_, rfl⟩
  obtain ⟨ha1, ha2⟩ := ha
  obtain ⟨hb1, hb2⟩ := hb
  have hnb : n ≤ 9223372036854775808 := by omega
  have hdb : d ≤ 9223372036854775808 := by omega
  have hd0 : 0 < d := by omega
  have hm := fun w => Tryd.bits_Mul64 n 1000000 (by omega) (by omega) w
  rw [hn] at hsa hdiv ⊢
  rw [hd] at hsb hdiv ⊢
  obtain ⟨hi, hhi⟩ : ∃ x, n * 1000000 / 18446744073709551616 = x := ⟨_, rfl⟩
  obtain ⟨lo, hlo⟩ : ∃ x, n * 1000000 % 18446744073709551616 = x := ⟨_, rfl⟩
  have hN : n * 1000000 = hi * 18446744073709551616 + lo := by omega
  rw [hhi, hlo] at hm hdiv
  have hq := fun m w => quot_any m hi lo d (fun h => hdiv.elim id (fun h' => absurd h' (by omega))) (by omega) (by omega) hd0 hdb w
  rw [← hN] at hq
  have hb00 : (b == 0) = false := by simpa using hb0
  clear hhi hlo hN hn hd hdiv
  go_enter Tryd.func23, Tryd.ntmps23
  go_wp2_with (first
    | (go_at_call_of 40 a; go_must (refine (hsa _).mono ?_); rintro e w' ⟨rfl, rfl⟩)
    | (go_at_call_of 40 b; go_must (refine (hsb _).mono ?_); rintro e w' ⟨rfl, rfl⟩)
    | (go_at_call 39; go_must (refine (hm _).mono ?_); rintro e w' ⟨rfl, rfl⟩)
    | (go_at_call 41; go_must (refine (hq _ _).mono ?_); rintro e w' ⟨rfl, k, rfl⟩))
  go_ret2
  exact ⟨rfl, below_drewN (Below.refl _ _) _⟩

theorem div_zero (a : Int) (w : World) :
    Calls Tryd.prog 23 #[.int .i64 a, .int .i64 0] w fun e w' => e = .returned (.tuple #[.int .i64 0, .int .i64 32]) ∧ w = w' := by
  go_enter Tryd.func23, Tryd.ntmps23
  go_wp2
  go_ret2
  exact ⟨rfl, rfl⟩

set_option maxRecDepth 20000 in
set_option maxHeartbeats 1000000 in
/-- dec.Mul. -/
theorem mul_any (a b : Int) (ha : I64 a) (hb : I64 b) (hdiv : DivAt (a.natAbs * b.natAbs / 18446744073709551616) (a.natAbs * b.natAbs % 18446744073709551616) 1000000 ∨ 1000000 ≤ a.natAbs * b.natAbs / 18446744073709551616) (w : World) :
    Calls Tryd.prog 21 #[.int .i64 a, .int .i64 b] w fun e w' =>
      e = .returned (.tuple #[.int .i64 (toI (sgn (!decide (a < 0) == decide (b < 0)) (rnd (a.natAbs * b.natAbs) 1000000))).1, .int .i64 (toI (sgn (!decide (a < 0) == decide (b < 0)) (rnd (a.natAbs * b.natAbs) 1000000))).2]) ∧ Below w.heap.size w w' := by
  have hsa := fun w => size_any a ha w
  have hsb := fun w => size_any b hb w
  obtain ⟨n, hn⟩ : ∃ n, a.natAbs = n := ⟨_, rfl⟩
  obtain ⟨d, hd⟩ : ∃ d, b.natAbs = d := ⟨_, rfl⟩
  obtain ⟨ha1, ha2⟩ := ha
  obtain ⟨hb1, hb2⟩ := hb
  have hnb : n ≤ 9223372036854775808 := by omega
  have hdb : d ≤ 9223372036854775808 := by omega
  have hm := fun w => Tryd.bits_Mul64 n d (by omega) (by omega) w
  rw [hn] at hsa hdiv ⊢
  rw [hd] at hsb hdiv ⊢
  have hnd : n * d ≤ 9223372036854775808 * 9223372036854775808 := Nat.mul_le_mul hnb hdb
  obtain ⟨p, hp⟩ : ∃ p, n * d = p := ⟨_, rfl⟩
  rw [hp] at hm hdiv hnd ⊢
  obtain ⟨hi, hhi⟩ : ∃ x, p / 18446744073709551616 = x := ⟨_, rfl⟩
  obtain ⟨lo, hlo⟩ : ∃ x, p % 18446744073709551616 = x := ⟨_, rfl⟩
  have hN : p = hi * 18446744073709551616 + lo := by omega
  rw [hhi, hlo] at hm hdiv
  have hq := fun m w => quot_any m hi lo 1000000 (fun h => hdiv.elim id (fun h' => absurd h' (by omega))) (by omega) (by omega) (by omega) (by omega) w
  rw [← hN] at hq
  clear hhi hlo hN hn hd hdiv hp hnd
  go_enter Tryd.func21, Tryd.ntmps21
  go_wp2_with (first
    | (go_at_call_of 40 a; go_must (refine (hsa _).mono ?_); rintro e w' ⟨rfl, rfl⟩)
    | (go_at_call_of 40 b; go_must (refine (hsb _).mono ?_); rintro e w' ⟨rfl, rfl⟩)
    | (go_at_call 39; go_must (refine (hm _).mono ?_); rintro e w' ⟨rfl, rfl⟩)
    | (go_at_call 41; go_must (refine (hq _ _).mono ?_); rintro e w' ⟨rfl, k, rfl⟩))
  go_ret2
  exact ⟨rfl, below_drewN (Below.refl _ _) _⟩
end Go.Proofs.YthfgpmiammfcaaaDoor
