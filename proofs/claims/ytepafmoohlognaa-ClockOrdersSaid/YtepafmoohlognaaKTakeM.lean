/-
Clocks' bytes, plain maths. Of no function of the program.
-/
import Derived.Test.YtepafmoohlognaaKPut
import Derived.Test.YtepafmoohlognaaWLeft
namespace Go.Proofs.Ytepafmoohlognaa
open Go.RowKit
open Wire (numL valL takeL runL bytesL)

/-- n numbers, and how many bytes they have. -/
noncomputable def takeNums : Nat → List Nat → Option (List Nat × Nat)
  | 0, _ => some ([], 0)
  | n + 1, b => if (takeL b).2 = 0 then none else match takeNums n (b.drop (takeL b).2) with
    | some (xs, k) => some ((takeL b).1 :: xs, (takeL b).2 + k)
    | none => none
/-- A clock, and how many bytes it has. -/
noncomputable def clkT (b : List Nat) : Option (List Nat × Nat) :=
  if (takeL b).2 = 0 ∨ 64 < (takeL b).1 then none else match takeNums (takeL b).1 (b.drop (takeL b).2) with
    | some (xs, k) => if xs.getLast? = some 0 then none else some (xs, (takeL b).2 + k)
    | none => none
/-- What the numbers already read make of what is still to come. -/
def joinN (ys : List Nat) (m : Nat) : Option (List Nat × Nat) → Option (List Nat × Nat)
  | some (xs, k) => some (ys ++ xs, m + k)
  | none => none
theorem takeNums_step {n : Nat} {b : List Nat} (ys : List Nat) (m : Nat) (h : (takeL b).2 ≠ 0) : joinN ys m (takeNums (n + 1) b) = joinN (ys ++ [(takeL b).1]) (m + (takeL b).2) (takeNums n (b.drop (takeL b).2)) := by
  rw [takeNums, if_neg h]
  cases takeNums n (b.drop (takeL b).2) with
  | none => rfl
  | some r => obtain ⟨xs, k⟩ := r; simp [joinN, List.append_assoc, Nat.add_assoc]
theorem takeNums_none {n : Nat} {b : List Nat} (ys : List Nat) (m : Nat) (h : (takeL b).2 = 0) : joinN ys m (takeNums (n + 1) b) = none := by
  rw [takeNums, if_pos h]; rfl
theorem takeNums_len : ∀ {n : Nat} {b xs : List Nat} {k : Nat}, takeNums n b = some (xs, k) → xs.length = n ∧ k ≤ b.length ∧ ∀ x ∈ xs, x < 18446744073709551616
  | 0, b, xs, k, h => by
    simp only [takeNums, Option.some.injEq, Prod.mk.injEq] at h
    obtain ⟨rfl, rfl⟩ := h
    exact ⟨rfl, Nat.zero_le _, fun x hx => by cases hx⟩
  | n + 1, b, xs, k, h => by
    rw [takeNums] at h
    split at h
    · cases h
    · split at h
      · rename_i ys m he
        simp only [Option.some.injEq, Prod.mk.injEq] at h
        obtain ⟨rfl, rfl⟩ := h
        obtain ⟨h1, h2, h3⟩ := takeNums_len he
        rw [List.length_drop] at h2
        have h4 := (Wire.takeL_le b).1
        refine ⟨by rw [List.length_cons, h1], by omega, fun x hx => ?_⟩
        rcases List.mem_cons.1 hx with e | hx
        · rw [e]; exact (Wire.takeL_le b).2
        · exact h3 x hx
      · cases h
theorem takeNums_numsL : ∀ (ns r : List Nat), (∀ x ∈ ns, x < 18446744073709551616) → takeNums ns.length (numsL ns ++ r) = some (ns, (numsL ns).length)
  | [], r, _ => rfl
  | x :: t, r, h => by
    have hx := h x List.mem_cons_self
    have e : numsL (x :: t) = numL x ++ numsL t := rfl
    have ht := Wire.takeL_num x hx (numsL t ++ r)
    rw [e, List.append_assoc, List.length_cons, takeNums, ht]
    have hp := Wire.numL_pos x
    simp only
    rw [if_neg (by omega), List.drop_left, takeNums_numsL t r (fun y hy => h y (List.mem_cons_of_mem _ hy))]
    simp
/-- What is put is taken. -/
theorem clkT_clkL {ns r : List Nat} (hl : ns.length ≤ 64) (hx : ∀ x ∈ ns, x < 18446744073709551616) (h0 : ns.getLast? ≠ some 0) : clkT (clkL ns ++ r) = some (ns, (clkL ns).length) := by
  have ht := Wire.takeL_num ns.length (by omega) (numsL ns ++ r)
  have hp := Wire.numL_pos ns.length
  unfold clkT clkL
  rw [List.append_assoc, ht]
  simp only
  rw [if_neg (by omega), List.drop_left, takeNums_numsL ns r hx]
  simp only
  rw [if_neg h0, List.length_append]
end Go.Proofs.Ytepafmoohlognaa
