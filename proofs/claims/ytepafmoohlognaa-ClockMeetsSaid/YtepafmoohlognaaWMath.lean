/-
Plain maths of the encoding of integers: groups of seven bits, the least first.
-/
namespace Go.Proofs.Ytepafmoohlognaa.Wire

/-- The encoding of an integer. -/
def numL (n : Nat) : List Nat := if n < 128 then [n] else (n % 128 + 128) :: numL (n / 128)
termination_by n
decreasing_by omega

theorem numL_small {n : Nat} (h : n < 128) : numL n = [n] := by rw [numL, if_pos h]
theorem numL_big {n : Nat} (h : ¬ n < 128) : numL n = (n % 128 + 128) :: numL (n / 128) := by rw [numL, if_neg h]

/-- What groups of seven bits come to. -/
def valL : List Nat → Nat
  | [] => 0
  | x :: t => x % 128 + 128 * valL t

theorem valL_numL (n : Nat) : valL (numL n) = n := by
  induction n using Nat.strongRecOn with
  | ind n ih =>
    by_cases h : n < 128
    · rw [numL_small h]; simp [valL]; omega
    · rw [numL_big h]
      simp only [valL]
      rw [ih (n / 128) (by omega)]
      omega

theorem numL_ne (n : Nat) : numL n ≠ [] := by
  by_cases h : n < 128
  · rw [numL_small h]; simp
  · rw [numL_big h]; simp
theorem numL_pos (n : Nat) : 0 < (numL n).length := List.length_pos_iff.2 (numL_ne n)

theorem numL_bytes (n : Nat) : ∀ x ∈ numL n, x < 256 := by
  induction n using Nat.strongRecOn with
  | ind n ih =>
    by_cases h : n < 128
    · rw [numL_small h]; intro x hx; simp at hx; omega
    · rw [numL_big h]
      intro x hx
      rcases List.mem_cons.1 hx with hx | hx
      · omega
      · exact ih (n / 128) (by omega) x hx

/-- An encoding is long, then short: all but the last are 128 and more, the last is less. -/
def Form : List Nat → Prop
  | [] => False
  | [x] => x < 128
  | x :: y :: t => 128 ≤ x ∧ x < 256 ∧ Form (y :: t)

theorem form_numL (n : Nat) : Form (numL n) := by
  induction n using Nat.strongRecOn with
  | ind n ih =>
    by_cases h : n < 128
    · rw [numL_small h]; exact h
    · rw [numL_big h]
      have hi := ih (n / 128) (by omega)
      cases hq : numL (n / 128) with
      | nil => exact absurd hq (numL_ne _)
      | cons y t => rw [hq] at hi; exact ⟨by omega, by omega, hi⟩

theorem Form.cons_iff {x : Nat} {t : List Nat} (h : 128 ≤ x) : Form (x :: t) → Form t := by
  cases t with
  | nil => intro hf; exact absurd hf (by simp [Form]; omega)
  | cons y t => exact fun hf => hf.2.2
/-- Two lists of this form that begin the same list are the same. -/
theorem form_unique : ∀ {xs ys b : List Nat}, Form xs → Form ys → xs <+: b → ys <+: b → xs = ys
  | [], _, _, h, _, _, _ => h.elim
  | _, [], _, _, h, _, _ => h.elim
  | x :: xs, y :: ys, b, hx, hy, px, py => by
    cases b with
    | nil => simp at px
    | cons z b =>
      obtain ⟨ex, px2⟩ := List.cons_prefix_cons.1 px
      obtain ⟨ey, py2⟩ := List.cons_prefix_cons.1 py
      subst ex
      subst ey
      cases xs with
      | nil =>
        cases ys with
        | nil => rfl
        | cons y' ys => exact absurd hy.1 (by have : y < 128 := hx; omega)
      | cons x' xs =>
        cases ys with
        | nil => exact absurd hx.1 (by have : y < 128 := hy; omega)
        | cons y' ys => rw [form_unique hx.2.2 hy.2.2 px2 py2]

theorem numL_length_le : ∀ (k n : Nat), n < 128 ^ k → 0 < k → (numL n).length ≤ k
  | 0, _, _, h => absurd h (by omega)
  | k + 1, n, hn, _ => by
    by_cases h : n < 128
    · rw [numL_small h]; simp
    · rw [numL_big h]
      have hk : 0 < k := by
        rcases Nat.eq_zero_or_pos k with rfl | h0
        · rw [Nat.pow_one] at hn; omega
        · exact h0
      have hd : n / 128 < 128 ^ k := by
        rw [Nat.pow_succ] at hn
        exact Nat.div_lt_of_lt_mul (by rw [Nat.mul_comm]; exact hn)
      have := numL_length_le k (n / 128) hd hk
      simp; exact this
theorem numL_length_10 {n : Nat} (h : n < 18446744073709551616) : (numL n).length ≤ 10 :=
  numL_length_le 10 n (Nat.lt_of_lt_of_le h (by decide)) (by decide)

/-- A list of the form is the encoding of what it comes to, unless it ends in a needless 0. -/
theorem numL_valL : ∀ {xs : List Nat}, Form xs → (xs.length = 1 ∨ xs.getLast? ≠ some 0) → numL (valL xs) = xs
  | [], h, _ => h.elim
  | [x], h, _ => by
    have h1 : x < 128 := h
    have e : valL [x] = x := by simp [valL]; omega
    rw [e, numL_small h1]
  | x :: y :: t, h, hz => by
    obtain ⟨h1, h2, h3⟩ := h
    have hz' : (y :: t).getLast? ≠ some 0 := by
      rcases hz with hz | hz
      · simp at hz
      · simpa [List.getLast?_cons_cons] using hz
    have ih := numL_valL h3 (Or.inr hz')
    have hpos : 0 < valL (y :: t) := by
      rcases Nat.eq_zero_or_pos (valL (y :: t)) with h0 | h0
      · rw [h0, numL_small (by decide)] at ih
        rw [← ih] at hz'
        simp at hz'
      · exact h0
    have e : valL (x :: y :: t) = x % 128 + 128 * valL (y :: t) := rfl
    rw [e, numL_big (by omega), show (x % 128 + 128 * valL (y :: t)) / 128 = valL (y :: t) from by omega, ih]
    congr 1
    omega
theorem last_numL {n : Nat} (h : (numL n).getLast? = some 0) : (numL n).length = 1 := by
  by_cases h1 : n < 128
  · rw [numL_small h1]; rfl
  · exfalso
    have key : ∀ m : Nat, 0 < m → (numL m).getLast? ≠ some 0 := by
      intro m
      induction m using Nat.strongRecOn with
      | ind m ih =>
        intro hm
        by_cases h2 : m < 128
        · rw [numL_small h2]; simp; omega
        · rw [numL_big h2]
          cases hq : numL (m / 128) with
          | nil => exact absurd hq (numL_ne _)
          | cons y t =>
            rw [List.getLast?_cons_cons, ← hq]
            exact ih (m / 128) (by omega) (by omega)
    exact key n (by omega) h

theorem valL_append (xs ys : List Nat) : valL (xs ++ ys) = valL xs + 128 ^ xs.length * valL ys := by
  induction xs with
  | nil => simp [valL]
  | cons x t ih =>
    show x % 128 + 128 * valL (t ++ ys) = x % 128 + 128 * valL t + 128 ^ (t.length + 1) * valL ys
    rw [ih, Nat.pow_succ, Nat.mul_add, Nat.mul_comm (128 ^ t.length) 128, Nat.mul_assoc]
    omega
theorem valL_lt (xs : List Nat) : valL xs < 128 ^ xs.length := by
  induction xs with
  | nil => simp [valL]
  | cons x t ih =>
    show x % 128 + 128 * valL t < 128 ^ (t.length + 1)
    rw [Nat.pow_succ]
    omega
theorem valL_snoc (xs : List Nat) (x : Nat) : valL (xs ++ [x]) = valL xs + 128 ^ xs.length * (x % 128) := by
  rw [valL_append]; simp [valL]

open Classical in
/-- The number that bytes begin with, and how many bytes it has; none: (0, 0). -/
noncomputable def takeL (b : List Nat) : Nat × Nat :=
  if h : ∃ n, n < 18446744073709551616 ∧ numL n <+: b then (Classical.choose h, (numL (Classical.choose h)).length) else (0, 0)
theorem takeL_some {b : List Nat} {n : Nat} (hn : n < 18446744073709551616) (h : numL n <+: b) : takeL b = (n, (numL n).length) := by
  have hex : ∃ n, n < 18446744073709551616 ∧ numL n <+: b := ⟨n, hn, h⟩
  have hs := Classical.choose_spec hex
  have e : Classical.choose hex = n := by
    have := form_unique (form_numL _) (form_numL _) hs.2 h
    rw [← valL_numL (Classical.choose hex), this, valL_numL]
  unfold takeL
  rw [dif_pos hex, e]
theorem takeL_none {b : List Nat} (h : ∀ n, n < 18446744073709551616 → ¬ numL n <+: b) : takeL b = (0, 0) := by
  unfold takeL
  rw [dif_neg]
  rintro ⟨n, hn, hp⟩
  exact h n hn hp
theorem takeL_cases (b : List Nat) : (∃ n, n < 18446744073709551616 ∧ numL n <+: b ∧ takeL b = (n, (numL n).length)) ∨ ((∀ n, n < 18446744073709551616 → ¬ numL n <+: b) ∧ takeL b = (0, 0)) := by
  by_cases h : ∃ n, n < 18446744073709551616 ∧ numL n <+: b
  · obtain ⟨n, hn, hp⟩ := h
    exact .inl ⟨n, hn, hp, takeL_some hn hp⟩
  · refine .inr ⟨fun n hn hp => h ⟨n, hn, hp⟩, takeL_none fun n hn hp => h ⟨n, hn, hp⟩⟩

/-- Where the first byte below 128 stands at place i, nothing but the i + 1 first bytes can be an encoding. -/
theorem form_take : ∀ {b : List Nat} {i : Nat} {x : Nat}, b[i]? = some x → x < 128 → (∀ j y, j < i → b[j]? = some y → 128 ≤ y) → (∀ y ∈ b, y < 256) → Form (b.take (i + 1))
  | [], _, _, h, _, _, _ => by simp at h
  | z :: b, 0, x, h, hx, _, _ => by
    simp at h; subst h
    simpa [Form] using hx
  | z :: b, i + 1, x, h, hx, hj, hb => by
    have hz : 128 ≤ z := hj 0 z (by omega) rfl
    have ih := form_take (b := b) (i := i) (x := x) (by simpa using h) hx (fun j y hji hy => hj (j + 1) y (by omega) (by simpa using hy)) (fun y hy => hb y (by simp [hy]))
    rw [List.take_succ_cons]
    cases hq : b.take (i + 1) with
    | nil => rw [hq] at ih; exact ih.elim
    | cons y t => rw [hq] at ih; exact ⟨hz, hb z (by simp), ih⟩
theorem prefix_is_take {b : List Nat} {i n : Nat} {x : Nat} (h : b[i]? = some x) (hx : x < 128) (hj : ∀ j y, j < i → b[j]? = some y → 128 ≤ y) (hb : ∀ y ∈ b, y < 256) (hp : numL n <+: b) : numL n = b.take (i + 1) :=
  form_unique (form_numL n) (form_take h hx hj hb) hp (List.take_prefix _ _)
/-- What was reckoned modulo 2^64 from the bytes up to the first below 128: it is the number if it is written so. -/
theorem take_at {b : List Nat} {i : Nat} {x : Nat} (h : b[i]? = some x) (hx : x < 128) (hj : ∀ j y, j < i → b[j]? = some y → 128 ≤ y) (hb : ∀ y ∈ b, y < 256) :
    takeL b = if numL (valL (b.take (i + 1)) % 18446744073709551616) = b.take (i + 1) then (valL (b.take (i + 1)) % 18446744073709551616, i + 1) else (0, 0) := by
  have hlen : (b.take (i + 1)).length = i + 1 := by
    have := (List.getElem?_eq_some_iff.1 h).1
    simp; omega
  by_cases he : numL (valL (b.take (i + 1)) % 18446744073709551616) = b.take (i + 1)
  · rw [if_pos he, takeL_some (Nat.mod_lt _ (by decide)) (he ▸ List.take_prefix _ _), he, hlen]
  · rw [if_neg he]
    refine takeL_none fun n hn hp => he ?_
    have e := prefix_is_take h hx hj hb hp
    rw [← e, valL_numL, Nat.mod_eq_of_lt hn]
/-- No byte below 128 among the first ten (or there are no more): nothing. -/
theorem take_none {b : List Nat} (h : ∀ j y, j < 10 → b[j]? = some y → 128 ≤ y) : takeL b = (0, 0) := by
  refine takeL_none fun n hn hp => ?_
  have hl := numL_length_10 hn
  have h0 := numL_pos n
  have key : ∀ xs : List Nat, Form xs → ∃ y, xs[xs.length - 1]? = some y ∧ y < 128 := by
    intro xs
    induction xs with
    | nil => intro hf; exact hf.elim
    | cons x t ih =>
      intro hf
      cases t with
      | nil => exact ⟨x, rfl, hf⟩
      | cons y t =>
        obtain ⟨z, hz, hz2⟩ := ih hf.2.2
        refine ⟨z, ?_, hz2⟩
        have e : (x :: y :: t).length - 1 = ((y :: t).length - 1) + 1 := by simp
        rw [e, List.getElem?_cons_succ]; exact hz
  obtain ⟨y, hy, hy2⟩ := key _ (form_numL n)
  have hb : b[(numL n).length - 1]? = some y := by
    obtain ⟨t, rfl⟩ := hp
    rw [List.getElem?_append_left (by omega)]; exact hy
  have := h _ y (by omega) hb
  omega

/-- Ten bytes whose last is more than 1 come to 2^64 and more. -/
theorem take_over {b : List Nat} {x : Nat} (h : b[9]? = some x) (hx : 1 < x) (hj : ∀ j y, j < 9 → b[j]? = some y → 128 ≤ y) (hb : ∀ y ∈ b, y < 256) : takeL b = (0, 0) := by
  by_cases h128 : x < 128
  · refine takeL_none fun n hn hp => ?_
    have e := prefix_is_take h h128 hj hb hp
    have hv : valL (b.take 10) = n := by rw [← e, valL_numL]
    have hk := (List.getElem?_eq_some_iff.1 h).1
    have h9 : b.take 10 = b.take 9 ++ [x] := by rw [List.take_add_one (i := 9), h]; rfl
    rw [h9, valL_snoc, show (b.take 9).length = 9 from by simp; omega] at hv
    have : (128 : Nat) ^ 9 = 9223372036854775808 := by decide
    rw [this] at hv
    have hm : x % 128 = x := Nat.mod_eq_of_lt h128
    rw [hm] at hv
    have : 9223372036854775808 * 2 ≤ 9223372036854775808 * x := Nat.mul_le_mul_left _ hx
    omega
  · refine take_none fun j y hj10 hy => ?_
    rcases Nat.lt_or_ge j 9 with h' | h'
    · exact hj j y h' hy
    · obtain rfl : j = 9 := by omega
      have e := h.symm.trans hy
      simp at e; omega
/-- A needless 0 at the end. -/
theorem take_zero {b : List Nat} {k : Nat} (h : b[k]? = some 0) (hk : 0 < k) (hj : ∀ j y, j < k → b[j]? = some y → 128 ≤ y) (hb : ∀ y ∈ b, y < 256) : takeL b = (0, 0) := by
  refine takeL_none fun n hn hp => ?_
  have e := prefix_is_take h (by decide) hj hb hp
  have hl := (List.getElem?_eq_some_iff.1 h).1
  have hlast : (numL n).getLast? = some 0 := by
    rw [e, List.take_add_one, h]; simp
  have h1 := last_numL hlast
  rw [e] at h1
  simp at h1; omega
/-- The number is there. -/
theorem take_ok {b : List Nat} {k x : Nat} (h : b[k]? = some x) (hx : x < 128) (hj : ∀ j y, j < k → b[j]? = some y → 128 ≤ y) (hb : ∀ y ∈ b, y < 256) (h0 : x ≠ 0 ∨ k = 0) (h9 : k < 9 ∨ (k = 9 ∧ x ≤ 1)) :
    takeL b = (valL (b.take (k + 1)), k + 1) ∧ valL (b.take (k + 1)) < 18446744073709551616 := by
  have hl := (List.getElem?_eq_some_iff.1 h).1
  have hs : b.take (k + 1) = b.take k ++ [x] := by rw [List.take_add_one, h]; rfl
  have hlt : valL (b.take (k + 1)) < 18446744073709551616 := by
    have hv := valL_lt (b.take k)
    have hlk : (b.take k).length = k := by simp; omega
    rw [hlk] at hv
    rw [hs, valL_snoc, hlk]
    rcases h9 with h9 | ⟨rfl, hx1⟩
    · have h3 : valL (b.take (k + 1)) < 128 ^ (b.take (k + 1)).length := valL_lt _
      rw [hs, valL_snoc, hlk, List.length_append, hlk] at h3
      refine Nat.lt_of_lt_of_le h3 (Nat.le_trans (Nat.pow_le_pow_right (by decide) (show k + [x].length ≤ 9 from by simp; omega)) (by decide))
    · have e : (128 : Nat) ^ 9 = 9223372036854775808 := by decide
      rw [e] at hv ⊢
      have hm : x % 128 = x := Nat.mod_eq_of_lt hx
      rw [hm]
      have : 9223372036854775808 * x ≤ 9223372036854775808 * 1 := Nat.mul_le_mul_left _ hx1
      omega
  refine ⟨?_, hlt⟩
  have hf := form_take h hx hj hb
  have hn : numL (valL (b.take (k + 1))) = b.take (k + 1) := by
    refine numL_valL hf ?_
    rcases h0 with h0 | rfl
    · right
      rw [hs]; simp; exact h0
    · left
      rw [hs]; simp
  have e := take_at h hx hj hb
  rw [Nat.mod_eq_of_lt hlt, if_pos hn] at e
  exact e

theorem takeL_le (b : List Nat) : (takeL b).2 ≤ b.length ∧ (takeL b).1 < 18446744073709551616 := by
  rcases takeL_cases b with ⟨n, hn, hp, he⟩ | ⟨_, he⟩
  · rw [he]; exact ⟨hp.length_le, hn⟩
  · rw [he]; exact ⟨Nat.zero_le _, by decide⟩
theorem takeL_zero {b : List Nat} (h : (takeL b).2 = 0) : (takeL b).1 = 0 := by
  rcases takeL_cases b with ⟨n, hn, hp, he⟩ | ⟨_, he⟩
  · rw [he] at h; have := numL_pos n; simp at h; exact absurd h (numL_ne n)
  · rw [he]

/-- The bytes with their number ahead, and how many there are in all; none: ([], 0). -/
noncomputable def runL (b : List Nat) : List Nat × Nat :=
  if (takeL b).2 = 0 ∨ 65536 < (takeL b).1 ∨ b.length - (takeL b).2 < (takeL b).1 then ([], 0)
  else ((b.drop (takeL b).2).take (takeL b).1, (takeL b).2 + (takeL b).1)
def bytesL (xs : List Nat) : List Nat := numL xs.length ++ xs

theorem takeL_num (n : Nat) (hn : n < 18446744073709551616) (r : List Nat) : takeL (numL n ++ r) = (n, (numL n).length) := takeL_some hn (List.prefix_append _ _)
theorem runL_bytes (xs r : List Nat) (h : xs.length ≤ 65536) : runL (bytesL xs ++ r) = (xs, (bytesL xs).length) := by
  have e : takeL (bytesL xs ++ r) = (xs.length, (numL xs.length).length) := by
    unfold bytesL
    rw [List.append_assoc]
    exact takeL_num _ (by omega) _
  unfold runL
  rw [e]
  have h0 := numL_pos xs.length
  have hl : (bytesL xs ++ r).length = (numL xs.length).length + xs.length + r.length := by simp [bytesL]; omega
  rw [if_neg (by simp only [hl]; omega)]
  unfold bytesL
  rw [List.append_assoc, List.drop_left, List.take_left]
  simp
end Go.Proofs.Ytepafmoohlognaa.Wire
