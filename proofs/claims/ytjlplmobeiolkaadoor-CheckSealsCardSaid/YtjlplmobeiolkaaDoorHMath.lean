/-
Plain maths of the checksum: one bit at a time, and four bits at a time by the table.
-/
namespace Go.Proofs.YtjlplmobeiolkaaDoor.Crc

/-- One bit. -/
def st (c : Nat) : Nat := if c % 2 = 1 then c / 2 ^^^ 2197175160 else c / 2
def stN : Nat → Nat → Nat
  | 0, c => c
  | n + 1, c => stN n (st c)
/-- One byte. -/
def by8 (c b : Nat) : Nat := stN 8 (c ^^^ b)
def run (c : Nat) (xs : List Nat) : Nat := xs.foldl by8 c
/-- The checksum. -/
def sumN (xs : List Nat) : Nat := run 4294967295 xs ^^^ 4294967295
def tab : List Nat := [0, 274646895, 549293790, 820201905, 1098587580, 1361435347, 1640403810, 1905808397, 2197175160, 2460548119, 2722870694, 2987750089, 3280807620, 3553878443, 3811616794, 4084100981]
/-- Four bits by the table. -/
def nib (c : Nat) : Nat := c / 16 ^^^ (tab[c % 16]?.getD 0)
/-- The four bytes behind. -/
def tailN (s : Nat) : List Nat := [s / 16777216, s / 65536 % 256, s / 256 % 256, s % 256]
def sealN (xs : List Nat) : List Nat := xs ++ tailN (sumN xs)

theorem xor_div (a b : Nat) (k : Nat) : (a ^^^ b) / 2 ^ k = a / 2 ^ k ^^^ b / 2 ^ k := by
  rw [← Nat.shiftRight_eq_div_pow, ← Nat.shiftRight_eq_div_pow, ← Nat.shiftRight_eq_div_pow, Nat.shiftRight_xor_distrib]
theorem xor_mod2 (a b : Nat) : (a ^^^ b) % 2 = (a + b) % 2 := by
  have h := @Nat.xor_mod_two_eq_one a b
  omega
theorem xor_lt {a b : Nat} (ha : a < 4294967296) (hb : b < 4294967296) : a ^^^ b < 4294967296 := Nat.xor_lt_two_pow (n := 32) ha hb
theorem st_lt {c : Nat} (h : c < 4294967296) : st c < 4294967296 := by
  unfold st
  split
  · exact xor_lt (by omega) (by omega)
  · omega
theorem stN_lt : ∀ (n : Nat) {c : Nat}, c < 4294967296 → stN n c < 4294967296
  | 0, _, h => h
  | n + 1, _, h => stN_lt n (st_lt h)
theorem st_xor (a b : Nat) : st (a ^^^ b) = st a ^^^ st b := by
  have hd : (a ^^^ b) / 2 = a / 2 ^^^ b / 2 := xor_div a b 1
  have hm := xor_mod2 a b
  unfold st
  by_cases ha : a % 2 = 1 <;> by_cases hb : b % 2 = 1
  · rw [if_neg (by omega), if_pos ha, if_pos hb, hd]
    rw [Nat.xor_assoc, ← Nat.xor_assoc 2197175160, Nat.xor_comm 2197175160 (b / 2), Nat.xor_assoc (b / 2), Nat.xor_self, Nat.xor_zero]
  · rw [if_pos (by omega), if_pos ha, if_neg hb, hd]
    rw [Nat.xor_assoc, Nat.xor_assoc, Nat.xor_comm 2197175160]
  · rw [if_pos (by omega), if_neg ha, if_pos hb, hd, Nat.xor_assoc]
  · rw [if_neg (by omega), if_neg ha, if_neg hb, hd]
theorem stN_xor : ∀ (n a b : Nat), stN n (a ^^^ b) = stN n a ^^^ stN n b
  | 0, _, _ => rfl
  | n + 1, a, b => by show stN n (st (a ^^^ b)) = stN n (st a) ^^^ stN n (st b); rw [st_xor, stN_xor n]
theorem st_two (m : Nat) : st (2 * m) = m := by
  unfold st
  rw [if_neg (by omega)]
  omega
theorem st4_sixteen (q : Nat) : stN 4 (16 * q) = q := by
  show st (st (st (st (16 * q)))) = q
  rw [show 16 * q = 2 * (2 * (2 * (2 * q))) from by omega, st_two, st_two, st_two, st_two]
theorem split16 (c : Nat) : c = (16 * (c / 16)) ^^^ (c % 16) := by
  have h1 : ((16 * (c / 16)) ^^^ (c % 16)) / 16 = c / 16 := by
    have h := xor_div (16 * (c / 16)) (c % 16) 4
    have e : (2 : Nat) ^ 4 = 16 := rfl
    rw [e] at h
    rw [h, show 16 * (c / 16) / 16 = c / 16 from by omega, show c % 16 / 16 = 0 from by omega, Nat.xor_zero]
  have h2 : ((16 * (c / 16)) ^^^ (c % 16)) % 16 = c % 16 := by
    have h := Nat.xor_mod_two_pow (a := 16 * (c / 16)) (b := c % 16) (n := 4)
    have e : (2 : Nat) ^ 4 = 16 := rfl
    rw [e] at h
    rw [h, show 16 * (c / 16) % 16 = 0 from by omega, show c % 16 % 16 = c % 16 from by omega, Nat.zero_xor]
  omega
theorem st4_small : ∀ r, r < 16 → stN 4 r = tab[r]?.getD 0 := by decide
theorem nib_eq (c : Nat) : nib c = stN 4 c := by
  conv => rhs; rw [split16 c, stN_xor, st4_sixteen, st4_small _ (Nat.mod_lt _ (by decide))]
  rfl
theorem nib_lt {c : Nat} (h : c < 4294967296) : nib c < 4294967296 := by rw [nib_eq]; exact stN_lt 4 h
theorem by8_nib (c b : Nat) : by8 c b = nib (nib (c ^^^ b)) := by rw [nib_eq, nib_eq]; rfl
theorem by8_lt {c b : Nat} (h : c < 4294967296) (hb : b < 256) : by8 c b < 4294967296 := stN_lt 8 (xor_lt h (by omega))
theorem tab_lt (c : Nat) : tab[c % 16]?.getD 0 < 4294967296 := by
  have : ∀ r, r < 16 → tab[r]?.getD 0 < 4294967296 := by decide
  exact this _ (Nat.mod_lt _ (by decide))
theorem run_lt : ∀ (xs : List Nat) {c : Nat}, c < 4294967296 → (∀ x ∈ xs, x < 256) → run c xs < 4294967296
  | [], _, h, _ => h
  | x :: t, c, h, hx => run_lt t (by8_lt h (hx x (by simp))) (fun y hy => hx y (by simp [hy]))
theorem sumN_lt {xs : List Nat} (h : ∀ x ∈ xs, x < 256) : sumN xs < 4294967296 := xor_lt (run_lt xs (by decide) h) (by decide)
theorem run_append (c : Nat) (xs ys : List Nat) : run c (xs ++ ys) = run (run c xs) ys := by simp [run]
theorem run_cons (c x : Nat) (xs : List Nat) : run c (x :: xs) = run (by8 c x) xs := rfl
theorem tailN_lt {s : Nat} (h : s < 4294967296) : ∀ x ∈ tailN s, x < 256 := by
  intro x hx
  simp [tailN] at hx
  omega
theorem tailN_length (s : Nat) : (tailN s).length = 4 := rfl
theorem sealN_length (xs : List Nat) : (sealN xs).length = xs.length + 4 := by simp [sealN, tailN]
theorem sealN_lt {xs : List Nat} (h : ∀ x ∈ xs, x < 256) : ∀ x ∈ sealN xs, x < 256 := by
  intro x hx
  rcases List.mem_append.1 hx with hx | hx
  · exact h x hx
  · exact tailN_lt (sumN_lt h) x hx
theorem example_sum : sumN [49, 50, 51, 52, 53, 54, 55, 56, 57] = 3808858755 := by decide +kernel
end Go.Proofs.YtjlplmobeiolkaaDoor.Crc
