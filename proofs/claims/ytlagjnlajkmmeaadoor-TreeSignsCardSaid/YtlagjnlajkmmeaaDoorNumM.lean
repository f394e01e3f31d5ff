/-
Decimal numbers up to a limit, plain maths: which strings are numbers, what Atoi reads. Of no function of the program.
-/
import Derived.Test.YtlagjnlajkmmeaaDoorDigM
import Derived.Test.YtlagjnlajkmmeaaDoorRows
import Derived.WalkKit
import Derived.Lib.AtoiTie
import Derived.Lib.ItoaMem
namespace Go.Proofs.YtlagjnlajkmmeaaDoor
open Go.RowKit Go.Proofs.YtlagjnlajkmmeaaDoor.Dig

/-- The number from 0 to most whose digits these are. -/
def numV (l : List UInt8) (most : Int) : Option Nat :=
  match Lib.decNat l with
  | some m => if Lib.decDigits m = l ∧ (m : Int) ≤ most then some m else none
  | none => none
theorem numV_iff {l : List UInt8} {most : Int} {m : Nat} : numV l most = some m ↔ Lib.decDigits m = l ∧ (m : Int) ≤ most := by
  unfold numV
  constructor
  · intro h
    split at h
    · rename_i k hk
      split at h
      · rename_i h2
        injection h with h
        subst h; exact h2
      · cases h
    · cases h
  · rintro ⟨h1, h2⟩
    rw [show Lib.decNat l = some m from h1 ▸ decNat_dec m]
    simp only
    rw [if_pos ⟨h1, h2⟩]
theorem numV_none {l : List UInt8} {most : Int} (h : ∀ m : Nat, Lib.decDigits m = l → ¬ (m : Int) ≤ most) : numV l most = none := by
  cases hn : numV l most with
  | none => rfl
  | some m => exact absurd (numV_iff.1 hn).2 (h m (numV_iff.1 hn).1)
def numT : Option Nat → Value
  | some m => .tuple #[.int .i64 (m : Int), .bool true]
  | none => .tuple #[.int .i64 0, .bool false]
theorem dec_len : ∀ (k n : Nat), n < 10 ^ (k + 1) → (Lib.decDigits n).length ≤ k + 1 := by
  intro k
  induction k with
  | zero => intro n h; rw [Lib.decDigits_one (by omega)]; simp
  | succ k ih =>
    intro n h
    by_cases h10 : n < 10
    · rw [Lib.decDigits_one h10]; simp
    · have e : Lib.decDigits n = Lib.decDigits (n / 10) ++ [UInt8.ofNat (48 + n % 10)] := by rw [Lib.decDigits, dif_neg h10]
      rw [e, List.length_append]
      have := ih (n / 10) (by rw [Nat.pow_succ] at h; omega)
      simp; omega
theorem dec_hd (n : Nat) : ∃ c r, Lib.decDigits n = c :: r ∧ isDig c = true := by
  obtain ⟨h1, _, h3⟩ := dec_all n
  cases h : Lib.decDigits n with
  | nil => exact absurd h h3
  | cons c r => exact ⟨c, r, rfl, h1 c (by rw [h]; exact List.mem_cons_self)⟩
theorem no_sign {c : UInt8} (h : isDig c = true) : c ≠ 45 ∧ c ≠ 43 := by
  refine ⟨?_, ?_⟩ <;> rintro rfl <;> exact absurd h (by decide)
theorem atoi_dec (n : Nat) (h : n ≤ 1125899906842624) : Lib.atoiAll (Lib.decDigits n) = .ok (n : Int) := by
  have := dec_len 15 n (by omega)
  obtain ⟨c, r, he, hc⟩ := dec_hd n
  obtain ⟨s1, s2⟩ := no_sign hc
  have hd := decNat_dec n
  rw [Lib.atoiAll_short _ (by omega)]
  rw [he] at hd ⊢
  simp [Lib.atoi, s1, s2, hd, Lib.NumEnd.ofOption]
theorem number_none {l : List UInt8} {most : Int} (hm : most ≤ 1125899906842624) (h : ∀ v, Lib.atoiAll l ≠ .ok v) : numV l most = none := by
  refine numV_none (fun m hl hle => ?_)
  exact h m (hl ▸ atoi_dec m (by omega))
theorem number_some {l : List UInt8} {most v : Int} (hm : most ≤ 1125899906842624) (h : Lib.atoiAll l = .ok v) :
    numV l most = if 0 ≤ v ∧ v ≤ most ∧ Lib.itoa v = l then some v.toNat else none := by
  by_cases hc : 0 ≤ v ∧ v ≤ most ∧ Lib.itoa v = l
  · rw [if_pos hc]
    obtain ⟨h0, h1, h2⟩ := hc
    refine numV_iff.2 ⟨?_, by omega⟩
    have e : v = ((v.toNat : Nat) : Int) := by omega
    rw [e, Lib.itoa_nonneg] at h2
    exact h2
  · rw [if_neg hc]
    refine numV_none (fun m hl hle => hc ?_)
    have := atoi_dec m (by omega)
    rw [hl, h] at this
    injection this with this
    subst this
    exact ⟨by omega, hle, by rw [Lib.itoa_nonneg]; exact hl⟩
end Go.Proofs.YtlagjnlajkmmeaaDoor
