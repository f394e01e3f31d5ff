/-
Decimal texts, plain maths: digits, their length, how they are read back. Of no function of the program.
-/
import Derived.Lib.ItoaNum
import Derived.Lib.Atoi
import Derived.Lib.AtoiAllCases
import Derived.Lib.AtoiTie
namespace Go.Proofs.YtlagjnlajkmmeaaDoor.Dig
open Go

theorem ba_app (xs ys : List UInt8) : (⟨xs.toArray⟩ ++ ⟨ys.toArray⟩ : ByteArray) = ⟨(xs ++ ys).toArray⟩ := by
  apply ByteArray.ext
  simp

theorem dec_length (n : Nat) (h : n ≤ 9223372036854775808) : (Lib.decDigits n).length ≤ 20 := by
  by_cases h0 : n < 10
  · rw [Lib.decDigits_one h0]; simp
  · rw [Lib.decDigits_length]
    have := Lib.numDigits_eq n (by omega) (by omega); split at this <;> omega
theorem itoa_length (n : Int) (h0 : -9223372036854775808 ≤ n) (h1 : n ≤ 9223372036854775807) : (Lib.itoa n).length ≤ 21 := by
  unfold Lib.itoa
  split
  · have := dec_length n.natAbs (by omega); simp; omega
  · have := dec_length n.toNat (by omega); omega
theorem dec_step {u : Nat} (h : 10 ≤ u) : Lib.decDigits u = Lib.decDigits (u / 10) ++ [UInt8.ofNat (48 + u % 10)] := by
  rw [Lib.decDigits, dif_neg (by omega)]

/-- A digit. -/
def isDig (c : UInt8) : Bool := decide (48 ≤ c.toNat ∧ c.toNat ≤ 57)
theorem isDig_of (d : Nat) (h : d < 10) : isDig (UInt8.ofNat (48 + d)) = true ∧ (UInt8.ofNat (48 + d)).toNat = 48 + d := by
  have e : (UInt8.ofNat (48 + d)).toNat = 48 + d := by rw [UInt8.toNat_ofNat']; omega
  refine ⟨?_, e⟩
  unfold isDig; rw [e]; exact decide_eq_true (by omega)

/-- The number that a row of digits stands for. -/
def val (n : Int) (l : List UInt8) : Int := l.foldl (fun n c => n * 10 + ((c.toNat : Int) - 48)) n
theorem val_append (n : Int) (l m : List UInt8) : val n (l ++ m) = val (val n l) m := by unfold val; rw [List.foldl_append]

theorem dec_all (n : Nat) : (∀ c ∈ Lib.decDigits n, isDig c = true) ∧ val 0 (Lib.decDigits n) = (n : Int) ∧ Lib.decDigits n ≠ [] := by
  induction n using Nat.strongRecOn with
  | ind n ih =>
    by_cases h : n < 10
    · obtain ⟨h1, h2⟩ := isDig_of n h
      rw [Lib.decDigits_one h]
      refine ⟨fun c hc => by simp at hc; rw [hc]; simpa using h1, ?_, by simp⟩
      show (0 : Int) * 10 + (((UInt8.ofNat (48 + n)).toNat : Int) - 48) = n
      rw [h2]; omega
    · obtain ⟨i1, i2, i3⟩ := ih (n / 10) (by omega)
      obtain ⟨h1, h2⟩ := isDig_of (n % 10) (by omega)
      rw [dec_step (by omega)]
      refine ⟨fun c hc => ?_, ?_, by simp⟩
      · rcases List.mem_append.1 hc with hc | hc
        · exact i1 c hc
        · rw [List.mem_singleton.1 hc]; exact h1
      · rw [val_append, i2]
        show ((n / 10 : Nat) : Int) * 10 + (((UInt8.ofNat (48 + n % 10)).toNat : Int) - 48) = n
        rw [h2]; omega

theorem decFrom_all : ∀ (l : List UInt8) (n : Nat), (∀ c ∈ l, isDig c = true) → ∃ m : Nat, Lib.decFrom n l = some m ∧ val (n : Int) l = (m : Int)
  | [], n, _ => ⟨n, rfl, rfl⟩
  | c :: l, n, h => by
    have hc := of_decide_eq_true (h c List.mem_cons_self)
    obtain ⟨m, h1, h2⟩ := decFrom_all l (n * 10 + (c.toNat - 48)) (fun d hd => h d (List.mem_cons_of_mem _ hd))
    refine ⟨m, ?_, ?_⟩
    · unfold Lib.decFrom Lib.digitVal
      rw [if_pos hc]; exact h1
    · show val ((n : Int) * 10 + ((c.toNat : Int) - 48)) l = m
      rw [← h2]; congr 1; omega
theorem decNat_dec (n : Nat) : Lib.decNat (Lib.decDigits n) = some n := by
  obtain ⟨h1, h2, h3⟩ := dec_all n
  obtain ⟨m, e1, e2⟩ := decFrom_all (Lib.decDigits n) 0 h1
  unfold Lib.decNat
  rw [if_neg (by simpa using h3), e1]
  congr 1
  have := h2.symm.trans e2
  omega
end Go.Proofs.YtlagjnlajkmmeaaDoor.Dig
