/-
Plain mathematics: the division of a number of two words by one of one word, digit by digit of half a word (Knuth). No program in it.
-/
namespace Go.Proofs.YthfgpmiammfcaaaDoor.Kn

/-- A digit is being estimated: U, l: what is divided; y1, y0: by what; Q: the digit; q: its estimate; r: what the estimate leaves. -/
structure At (U l y1 y0 Q q r : Nat) : Prop where
  hy1 : 2147483648 ≤ y1
  hy1' : y1 < 4294967296
  hy0 : y0 < 4294967296
  hl : l < 4294967296
  hU : U < y1 * 4294967296 + y0
  hQ : Q = (U * 4294967296 + l) / (y1 * 4294967296 + y0)
  eq : U = q * y1 + r
  le : Q ≤ q
  lim : q ≤ 4294967297

variable {U l y1 y0 Q q r : Nat}

theorem digit_lt (hy1 : 2147483648 ≤ y1) (hl : l < 4294967296) (hU : U < y1 * 4294967296 + y0) : (U * 4294967296 + l) / (y1 * 4294967296 + y0) < 4294967296 := by
  rw [Nat.div_lt_iff_lt_mul (by omega)]
  have h1 : (U + 1) * 4294967296 ≤ (y1 * 4294967296 + y0) * 4294967296 := Nat.mul_le_mul_right _ hU
  rw [Nat.add_mul, Nat.one_mul] at h1
  rw [Nat.mul_comm 4294967296]
  omega

theorem start (hy1 : 2147483648 ≤ y1) (hy1' : y1 < 4294967296) (hy0 : y0 < 4294967296) (hl : l < 4294967296) (hU : U < y1 * 4294967296 + y0) :
    At U l y1 y0 ((U * 4294967296 + l) / (y1 * 4294967296 + y0)) (U / y1) (U % y1) := by
  refine ⟨hy1, hy1', hy0, hl, hU, rfl, ?_, ?_, ?_⟩
  · have := Nat.div_add_mod U y1
    rw [Nat.mul_comm] at this; exact this.symm
  · rw [Nat.le_div_iff_mul_le (by omega)]
    have h := Nat.div_mul_le_self (U * 4294967296 + l) (y1 * 4294967296 + y0)
    obtain ⟨Q, hQ⟩ : ∃ Q, (U * 4294967296 + l) / (y1 * 4294967296 + y0) = Q := ⟨_, rfl⟩
    rw [hQ] at h ⊢
    rw [Nat.mul_add, ← Nat.mul_assoc] at h
    omega
  · have h : U / y1 < 4294967298 := by
      rw [Nat.div_lt_iff_lt_mul (by omega)]
      omega
    omega

theorem At.rlt (h : At U l y1 y0 Q (U / y1) (U % y1)) : U % y1 < 4294967296 := by
  have := Nat.mod_lt U (show 0 < y1 by have := h.hy1; omega)
  have := h.hy1'
  omega

/-- The test says just whether the estimate is too great. -/
theorem At.test (h : At U l y1 y0 Q q r) : 4294967296 * r + l < q * y0 ↔ U * 4294967296 + l < q * (y1 * 4294967296 + y0) := by
  have e := h.eq
  rw [Nat.mul_add, ← Nat.mul_assoc]
  have e2 : U * 4294967296 = q * y1 * 4294967296 + r * 4294967296 := by rw [e, Nat.add_mul]
  omega

theorem At.lt_of_test (h : At U l y1 y0 Q q r) (t : 4294967296 * r + l < q * y0) : Q < q := by
  rw [h.hQ]
  rw [Nat.div_lt_iff_lt_mul (by have := h.hy1; omega)]
  exact h.test.1 t
theorem At.lt_of_big (h : At U l y1 y0 Q q r) (t : 4294967296 ≤ q) : Q < q := by
  have := digit_lt (U := U) (l := l) (y0 := y0) h.hy1 h.hl h.hU
  rw [← h.hQ] at this; omega
theorem At.down (h : At U l y1 y0 Q q r) (t : Q < q) : At U l y1 y0 Q (q - 1) (r + y1) ∧ q - 1 ≤ 4294967296 := by
  refine ⟨⟨h.hy1, h.hy1', h.hy0, h.hl, h.hU, h.hQ, ?_, by omega, by have := h.lim; omega⟩, by have := h.lim; omega⟩
  have e := h.eq
  obtain ⟨p, rfl⟩ : ∃ p, q = p + 1 := ⟨q - 1, by omega⟩
  rw [Nat.add_mul, Nat.one_mul] at e
  rw [Nat.add_sub_cancel]; omega
theorem At.stop_test (h : At U l y1 y0 Q q r) (t : ¬ 4294967296 * r + l < q * y0) : q = Q := by
  have h1 : ¬ U * 4294967296 + l < q * (y1 * 4294967296 + y0) := fun k => t (h.test.2 k)
  have h2 : q ≤ Q := by
    rw [h.hQ, Nat.le_div_iff_mul_le (by have := h.hy1; omega)]
    omega
  have := h.le
  omega
theorem At.stop_break (h : At U l y1 y0 Q q r) (hq : q ≤ 4294967296) (hr : 4294967296 ≤ r) : q = Q := by
  refine h.stop_test ?_
  have h1 : q * y0 ≤ 4294967296 * 4294967295 := Nat.mul_le_mul hq (by have := h.hy0; omega)
  have h2 : 4294967296 * 4294967296 ≤ 4294967296 * r := Nat.mul_le_mul_left _ hr
  omega

/-- What the digit leaves. -/
theorem rest_eq {U l Y : Nat} (hY : 0 < Y) : U * 4294967296 + l - (U * 4294967296 + l) / Y * Y = (U * 4294967296 + l) % Y := by
  have := Nat.div_add_mod (U * 4294967296 + l) Y
  rw [Nat.mul_comm] at this; omega

theorem join (N' L l1 l0 p p' R1 R0 X B : Nat) (hN : N' = X * B + L) (hL : L = l1 * B + l0) (a : p + R1 = X + l1) (b : p' + R0 = R1 * B + l0) : N' = p * B + p' + R0 := by
  subst hN hL
  have c : X * B + l1 * B = p * B + R1 * B := by rw [← Nat.add_mul, ← Nat.add_mul, a]
  omega

/-- The two digits, put together. -/
theorem two {N' U L Y Q1 R1 Q0 R0 l1 l0 : Nat} (hY : 0 < Y) (hN : N' = U * 18446744073709551616 + L) (hL : L = l1 * 4294967296 + l0)
    (h1 : Q1 = (U * 4294967296 + l1) / Y) (h2 : R1 = (U * 4294967296 + l1) % Y) (h3 : Q0 = (R1 * 4294967296 + l0) / Y) (h4 : R0 = (R1 * 4294967296 + l0) % Y) :
    N' / Y = Q1 * 4294967296 + Q0 ∧ N' % Y = R0 := by
  have a := Nat.div_add_mod (U * 4294967296 + l1) Y
  have b := Nat.div_add_mod (R1 * 4294967296 + l0) Y
  rw [← h1, ← h2] at a
  rw [← h3, ← h4] at b
  have hr : R0 < Y := h4 ▸ Nat.mod_lt _ hY
  have hW : U * 18446744073709551616 = U * 4294967296 * 4294967296 := by rw [Nat.mul_assoc]
  rw [hW] at hN
  have e0 := join N' L l1 l0 (Y * Q1) (Y * Q0) R1 R0 (U * 4294967296) 4294967296 hN hL a b
  have e : N' = (Q1 * 4294967296 + Q0) * Y + R0 := by
    rw [e0, Nat.add_mul, Nat.mul_comm Q0 Y, Nat.mul_right_comm Q1 4294967296 Y, Nat.mul_comm Q1 Y]
  constructor
  · rw [e, Nat.mul_comm, Nat.mul_add_div hY, Nat.div_eq_of_lt hr, Nat.add_zero]
  · rw [e, Nat.mul_comm, Nat.mul_add_mod, Nat.mod_eq_of_lt hr]

/-- Shifted and shifted back. -/
theorem shifted {N y k : Nat} (hk : 0 < k) : (N * k) / (y * k) = N / y ∧ (N * k) % (y * k) / k = N % y := by
  constructor
  · exact Nat.mul_div_mul_right _ _ hk
  · rw [Nat.mul_mod_mul_right, Nat.mul_div_cancel _ hk]

end Go.Proofs.YthfgpmiammfcaaaDoor.Kn
