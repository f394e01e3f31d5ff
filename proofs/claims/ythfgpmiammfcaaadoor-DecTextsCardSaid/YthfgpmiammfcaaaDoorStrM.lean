/-
Digits as texts: what the two sides of the law on texts write. No program in it.
-/
import Derived.Test.YthfgpmiammfcaaaDoorDigT
namespace Go.Proofs.YthfgpmiammfcaaaDoor
open Go.RowKit
open Num (digs valD cutL Ten)

theorem strD_congr {xs ys : List Nat} (h : ∀ i : Nat, xs[i]?.getD 0 = ys[i]?.getD 0) (k : Nat) : strD xs k = strD ys k := by
  induction k with
  | zero => rfl
  | succ k ih => rw [strD, strD, ih, h k]
theorem strD_cons (x : Nat) (r : List Nat) (k : Nat) : strD (x :: r) (k + 1) = strD r k ++ [UInt8.ofNat (48 + x)] := by
  induction k with
  | zero => rfl
  | succ k ih =>
    rw [strD, ih, strD]
    simp
theorem digs_cons_get (n i : Nat) : (digs n)[i]?.getD 0 = (n % 10 :: digs (n / 10))[i]?.getD 0 := by
  by_cases h : n = 0
  · subst h
    rw [Num.digs_zero]
    cases i <;> simp
  · rw [Num.digs_pos h]
theorem strD_digs (n k : Nat) : strD (digs n) (k + 1) = strD (digs (n / 10)) k ++ [UInt8.ofNat (48 + n % 10)] := by
  rw [strD_congr (digs_cons_get n), strD_cons]

theorem dec_step {u : Nat} (h : 10 ≤ u) : Lib.decDigits u = Lib.decDigits (u / 10) ++ [UInt8.ofNat (48 + u % 10)] := by
  rw [Lib.decDigits, dif_neg (by omega)]

theorem dec_str (n : Nat) : Lib.decDigits n = strD (digs n) (max (digs n).length 1) := by
  induction n using Nat.strongRecOn with
  | ind n ih =>
    by_cases h : n < 10
    · rw [Lib.decDigits_one h]
      have hl : (digs n).length ≤ 1 := Num.digs_length_le (by omega)
      rw [show max (digs n).length 1 = 0 + 1 from by omega, strD_digs]
      simp [strD, Nat.mod_eq_of_lt h]
    · rw [dec_step (by omega), ih (n / 10) (by omega)]
      have hn : n ≠ 0 := by omega
      have hq : n / 10 ≠ 0 := by omega
      have hl : (digs n).length = (digs (n / 10)).length + 1 := by rw [Num.digs_pos hn]; simp
      have hl2 : 1 ≤ (digs (n / 10)).length := by rw [Num.digs_pos hq]; simp
      rw [show max (digs n).length 1 = (digs (n / 10)).length + 1 from by omega, strD_digs, show max (digs (n / 10)).length 1 = (digs (n / 10)).length from by omega]
theorem dec_pad (k : Nat) : ∀ r, r < 10 ^ k → Lib.decDigits (10 ^ k + r) = 49 :: strD (digs r) k := by
  induction k with
  | zero =>
    intro r hr
    obtain rfl : r = 0 := by simp at hr; omega
    rw [Nat.pow_zero, Lib.decDigits_one (by decide)]; rfl
  | succ k ih =>
    intro r hr
    have hp : 0 < 10 ^ k := Nat.pow_pos (by decide)
    rw [Nat.pow_succ] at hr ⊢
    rw [dec_step (by omega), show (10 ^ k * 10 + r) / 10 = 10 ^ k + r / 10 from by omega, ih (r / 10) (by omega), strD_digs, show (10 ^ k * 10 + r) % 10 = r % 10 from by omega]
    rfl
theorem pad6 {r : Nat} (h : r < 1000000) : (Lib.decDigits (1000000 + r)).tail = strD (digs r) 6 := by
  have := dec_pad 6 r h
  rw [show (1000000 : Nat) = 10 ^ 6 from rfl, this]; rfl
theorem strD_some (k : Nat) : ∀ r, r < 10 ^ k → r ≠ 0 → ∃ i : Nat, ∃ h : i < (strD (digs r) k).length, (strD (digs r) k)[i] ≠ 48 := by
  induction k with
  | zero => intro r hr h0; simp at hr; omega
  | succ k ih =>
    intro r hr h0
    rw [Nat.pow_succ] at hr
    rw [strD_digs]
    by_cases hz : r % 10 = 0
    · obtain ⟨i, hi, hne⟩ := ih (r / 10) (by omega) (by omega)
      refine ⟨i, by simp; omega, ?_⟩
      rw [List.getElem_append_left hi]; exact hne
    · refine ⟨(strD (digs (r / 10)) k).length, by simp, ?_⟩
      simp only [List.getElem_append_right (Nat.le_refl _), Nat.sub_self, List.getElem_cons_zero]
      intro h
      have := congrArg UInt8.toNat h
      simp at this; omega
end Go.Proofs.YthfgpmiammfcaaaDoor
