/-
Plain mathematics: decimal digits, the least one first. No program in it.
-/
namespace Go.Proofs.YthfgpmiammfcaaaDoor.Num

def valD : List Nat → Nat
  | [] => 0
  | d :: r => d + 10 * valD r

def digs (n : Nat) : List Nat := if n = 0 then [] else n % 10 :: digs (n / 10)
termination_by n
decreasing_by omega

theorem digs_zero : digs 0 = [] := by rw [digs]; simp
theorem digs_pos {n : Nat} (h : n ≠ 0) : digs n = n % 10 :: digs (n / 10) := by rw [digs, if_neg h]

/-- All are decimal digits. -/
def Ten (xs : List Nat) : Prop := ∀ d ∈ xs, d < 10
theorem Ten.nil : Ten [] := by simp [Ten]
theorem Ten.cons {d : Nat} {r : List Nat} (h : d < 10) (k : Ten r) : Ten (d :: r) := by
  intro x hx; rcases List.mem_cons.1 hx with rfl | hx
  · exact h
  · exact k _ hx
theorem Ten.tail {d : Nat} {r : List Nat} (h : Ten (d :: r)) : Ten r := fun x hx => h x (List.mem_cons_of_mem _ hx)
theorem Ten.head {d : Nat} {r : List Nat} (h : Ten (d :: r)) : d < 10 := h d (List.mem_cons_self)
theorem Ten.append {xs ys : List Nat} (h : Ten xs) (k : Ten ys) : Ten (xs ++ ys) := by
  intro d hd; rcases List.mem_append.1 hd with h' | h'
  · exact h d h'
  · exact k d h'
theorem Ten.take {xs : List Nat} (h : Ten xs) (k : Nat) : Ten (xs.take k) := fun d hd => h d (List.mem_of_mem_take hd)
theorem Ten.drop {xs : List Nat} (h : Ten xs) (k : Nat) : Ten (xs.drop k) := fun d hd => h d (List.mem_of_mem_drop hd)
theorem Ten.getD {xs : List Nat} (h : Ten xs) (k : Nat) : xs[k]?.getD 0 < 10 := by
  cases hx : xs[k]? with
  | none => simp
  | some d => simpa using h d (List.mem_of_getElem? hx)
theorem Ten.replicate (n : Nat) : Ten (List.replicate n 0) := by
  intro d hd; have := (List.mem_replicate.1 hd).2; omega

theorem digs_ten (n : Nat) : Ten (digs n) := by
  induction n using Nat.strongRecOn with
  | _ n ih =>
    by_cases h : n = 0
    · subst h; rw [digs_zero]; exact Ten.nil
    · rw [digs_pos h]; exact Ten.cons (by omega) (ih _ (by omega))

theorem valD_digs (n : Nat) : valD (digs n) = n := by
  induction n using Nat.strongRecOn with
  | _ n ih =>
    by_cases h : n = 0
    · subst h; rw [digs_zero]; rfl
    · rw [digs_pos h, valD, ih _ (by omega)]; omega

theorem valD_append (xs ys : List Nat) : valD (xs ++ ys) = valD xs + 10 ^ xs.length * valD ys := by
  induction xs with
  | nil => simp [valD]
  | cons d r ih =>
    rw [List.cons_append, valD, ih, valD, List.length_cons, Nat.pow_succ, Nat.mul_add, ← Nat.mul_assoc, Nat.mul_comm 10 (10 ^ r.length)]; omega

theorem valD_replicate (n : Nat) : valD (List.replicate n 0) = 0 := by
  induction n with
  | zero => rfl
  | succ n ih => rw [List.replicate_succ, valD, ih]

/-- The noughts behind are cut off. -/
def cutL : List Nat → List Nat
  | [] => []
  | d :: r => match cutL r with
    | [] => if d = 0 then [] else [d]
    | e :: s => d :: e :: s

theorem valD_eq_zero {xs : List Nat} (h : valD xs = 0) : cutL xs = [] := by
  induction xs with
  | nil => rfl
  | cons d r ih =>
    rw [valD] at h
    rw [cutL, ih (by omega)]
    simp; omega

theorem cutL_digs {xs : List Nat} (h : Ten xs) : cutL xs = digs (valD xs) := by
  induction xs with
  | nil => rw [valD, digs_zero]; rfl
  | cons d r ih =>
    have hd := h.head
    have ih := ih h.tail
    rw [cutL, ih, valD]
    by_cases hv : valD r = 0
    · rw [hv, digs_zero]
      by_cases h0 : d = 0
      · subst h0; simp [digs_zero]
      · simp only [h0, if_false]
        rw [digs_pos (by omega)]
        have e1 : (d + 10 * 0) % 10 = d := by omega
        have e2 : (d + 10 * 0) / 10 = 0 := by omega
        rw [e1, e2, digs_zero]
    · have e1 : (d + 10 * valD r) % 10 = d := by omega
      have e2 : (d + 10 * valD r) / 10 = valD r := by omega
      rw [digs_pos (n := d + 10 * valD r) (by omega), e1, e2]
      rw [digs_pos hv]

theorem cutL_snoc_zero (xs : List Nat) : cutL (xs ++ [0]) = cutL xs := by
  induction xs with
  | nil => rfl
  | cons d r ih => rw [List.cons_append, cutL, ih, cutL]

theorem cutL_snoc_pos (xs : List Nat) {d : Nat} (h : d ≠ 0) : cutL (xs ++ [d]) = xs ++ [d] := by
  induction xs with
  | nil => simp [cutL, h]
  | cons c r ih =>
    rw [List.cons_append, cutL, ih]
    cases r <;> rfl

theorem take_succ_getD {xs : List Nat} {k : Nat} (h : k < xs.length) : xs.take (k + 1) = xs.take k ++ [xs[k]?.getD 0] := by
  rw [List.take_succ_eq_append_getElem h]; simp [h]

theorem digs_length_le {n k : Nat} (h : n < 10 ^ k) : (digs n).length ≤ k := by
  induction k generalizing n with
  | zero => have : n = 0 := by simpa using h
            subst this; rw [digs_zero]; simp
  | succ k ih =>
    by_cases h0 : n = 0
    · subst h0; rw [digs_zero]; simp
    · rw [digs_pos h0]
      have : (digs (n / 10)).length ≤ k := ih (by rw [Nat.pow_succ] at h; omega)
      simp; omega

theorem valD_lt {xs : List Nat} (h : Ten xs) : valD xs < 10 ^ xs.length := by
  induction xs with
  | nil => simp [valD]
  | cons d r ih =>
    have := ih h.tail
    have := h.head
    rw [valD, List.length_cons, Nat.pow_succ]; omega

theorem digs_length_gt {n k : Nat} (h : 10 ^ k ≤ n) : k < (digs n).length := by
  have := valD_lt (digs_ten n)
  rw [valD_digs] at this
  exact (Nat.pow_lt_pow_iff_right (by decide : 1 < 10)).1 (Nat.lt_of_le_of_lt h this)

/-- A number with fewer digits is less. -/
theorem lt_of_length {a b : Nat} (h : (digs a).length < (digs b).length) : a < b := by
  rcases Nat.lt_or_ge a b with h' | h'
  · exact h'
  · exfalso
    by_cases hb : b = 0
    · subst hb; simp [digs_zero] at h
    · have h1 : a < 10 ^ (digs a).length := by have := valD_lt (digs_ten a); rwa [valD_digs] at this
      have h2 : b < 10 ^ (digs a).length := Nat.lt_of_le_of_lt h' h1
      have := digs_length_le h2
      omega

theorem valD_take_drop (xs : List Nat) (k : Nat) (h : k ≤ xs.length) : valD xs = valD (xs.take k) + 10 ^ k * valD (xs.drop k) := by
  have := valD_append (xs.take k) (xs.drop k)
  rw [List.take_append_drop] at this
  rw [this]
  congr 2
  simp [Nat.min_eq_left h]

theorem valD_drop_getD (xs : List Nat) (k : Nat) (h : k < xs.length) : valD (xs.drop k) = xs[k]?.getD 0 + 10 * valD (xs.drop (k + 1)) := by
  rw [List.drop_eq_getElem_cons h, valD]
  simp [h]

theorem valD_take_succ (xs : List Nat) (k : Nat) : valD (xs.take (k + 1)) = valD (xs.take k) + 10 ^ k * xs[k]?.getD 0 := by
  by_cases h : k < xs.length
  · rw [take_succ_getD h, valD_append]
    simp [valD, Nat.min_eq_left (Nat.le_of_lt h)]
  · have e1 : xs.take (k + 1) = xs := List.take_of_length_le (by omega)
    have e2 : xs.take k = xs := List.take_of_length_le (by omega)
    rw [e1, e2]
    simp [List.getElem?_eq_none (by omega : xs.length ≤ k)]

theorem getD_of_le {xs : List Nat} {k : Nat} (h : xs.length ≤ k) : xs[k]?.getD 0 = 0 := by
  simp [List.getElem?_eq_none h]

theorem lt_of_digit {a b p dx dy t : Nat} (ha : a < p) (h : dx < dy) : a + p * (dx + 10 * t) < b + p * (dy + 10 * t) := by
  have h1 : p * ((dx + 10 * t) + 1) ≤ p * (dy + 10 * t) := Nat.mul_le_mul_left _ (by omega)
  rw [Nat.mul_add, Nat.mul_one] at h1
  omega
theorem lt_iff_digit {a b p dx dy t : Nat} (ha : a < p) (hb : b < p) (hne : dx ≠ dy) : a + p * (dx + 10 * t) < b + p * (dy + 10 * t) ↔ dx < dy := by
  constructor
  · intro h
    rcases Nat.lt_or_ge dx dy with h' | h'
    · exact h'
    · have := lt_of_digit (b := a) (t := t) hb (show dy < dx by omega); omega
  · exact fun h => lt_of_digit ha h

theorem over_step {a b q r t j r' : Nat} (h : a = b * q + r) (hr : r' + j * b = t + 10 * r) : t + 10 * a = b * (j + 10 * q) + r' := by
  rw [Nat.mul_add, Nat.mul_left_comm b 10 q, h, Nat.mul_comm b j]
  omega
theorem over_end {a b q r : Nat} (h : a = b * q + r) (hr : r < b) : q = a / b ∧ r = a % b := by
  subst h
  constructor
  · rw [Nat.mul_add_div (by omega), Nat.div_eq_of_lt hr, Nat.add_zero]
  · rw [Nat.mul_add_mod, Nat.mod_eq_of_lt hr]
theorem set_mid (i j u : Nat) (zs : List Nat) : (List.replicate i 0 ++ j :: zs).set i u = List.replicate i 0 ++ u :: zs := by
  rw [List.set_append_right _ _ (by simp)]
  simp
theorem mid_getD (i j : Nat) (zs : List Nat) : (List.replicate i 0 ++ j :: zs)[i]?.getD 0 = j := by
  rw [List.getElem?_append_right (by simp)]
  simp
theorem rep_succ (i : Nat) (zs : List Nat) : List.replicate (i + 1) 0 ++ zs = List.replicate i 0 ++ 0 :: zs := by
  rw [List.replicate_succ', List.append_assoc]; rfl
theorem digs_snoc {t r : Nat} (ht : t < 10) : cutL (t :: digs r) = digs (t + 10 * r) := by
  rw [cutL_digs (Ten.cons ht (digs_ten r)), valD, valD_digs]

theorem digs_length_mono {a b : Nat} (h : b ≤ a) : (digs b).length ≤ (digs a).length := by
  rcases Nat.lt_or_ge (digs a).length (digs b).length with h' | h'
  · have := lt_of_length h'; omega
  · exact h'

theorem Nat.pos_pow_of_pos' (k : Nat) : 1 ≤ 10 ^ k := Nat.one_le_pow _ _ (by decide)
theorem valD_drop_le (xs : List Nat) (k : Nat) : valD (xs.drop k) ≤ valD xs := by
  by_cases h : k ≤ xs.length
  · rw [valD_take_drop xs k h]
    have : 1 ≤ 10 ^ k := Nat.pos_pow_of_pos' k
    have := Nat.mul_le_mul_right (valD (xs.drop k)) this
    omega
  · rw [List.drop_of_length_le (by omega)]; simp [valD]

end Go.Proofs.YthfgpmiammfcaaaDoor.Num
