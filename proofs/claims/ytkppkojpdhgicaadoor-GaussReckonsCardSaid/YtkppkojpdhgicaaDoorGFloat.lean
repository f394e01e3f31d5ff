/-
Floats that stand for whole numbers: sums, differences and products of such, of at most 53 digits, are exact. No program in it.
-/
import Derived.WalkLawsBesides
namespace Go.Proofs.YtkppkojpdhgicaaDoor.Gf
open Ieee

/-- The word of a whole number and a sign. -/
def enc (s : Bool) (m : Nat) : Nat := double.nearest s m 0

theorem sw : double.signWeight = 9223372036854775808 := by decide
theorem bin : double.binade = 4503599627370496 := by decide
theorem infr : double.infRung = 9218868437227405312 := by decide
theorem lp : double.leastPlace = -1074 := by decide

theorem cut_zero (way : Toward) (s : Bool) (n : Nat) : way.cut s n 0 = n := by
  unfold Toward.cut
  cases way <;> simp [Nat.mod_one]

theorem log2_mul_pow (m k : Nat) (h : 0 < m) : (m * 2 ^ k).log2 = m.log2 + k := by
  have hm : m ≠ 0 := by omega
  have h2 : m * 2 ^ k ≠ 0 := Nat.mul_ne_zero hm (by have := Nat.two_pow_pos k; omega)
  rw [Nat.log2_eq_iff h2]
  have a := (Nat.log2_eq_iff hm).1 rfl
  constructor
  · rw [Nat.pow_add]; exact Nat.mul_le_mul_right _ a.1
  · rw [show m.log2 + k + 1 = (m.log2 + 1) + k by omega, Nat.pow_add]
    exact Nat.mul_lt_mul_of_pos_right a.2 (Nat.two_pow_pos k)

theorem cut_pow (way : Toward) (s : Bool) (m k : Nat) : way.cut s (m * 2 ^ k) k = m := by
  rcases Nat.eq_zero_or_pos m with h | h
  · subst h; unfold Toward.cut; cases way <;> simp
    all_goals (intro h; have := Nat.two_pow_pos (min k ((0 : Nat).log2 + 2)); simp [Nat.shiftLeft_eq] at h)
  · unfold Toward.cut
    have hl : k ≤ (m * 2 ^ k).log2 + 2 := by rw [log2_mul_pow m k h]; omega
    have hp := Nat.two_pow_pos k
    have e1 := Nat.mul_div_cancel m hp
    have e2 := Nat.mul_mod_left m (2 ^ k)
    rw [Nat.min_eq_left hl, Nat.shiftLeft_eq, Nat.one_mul]
    dsimp only
    rw [e1, e2]
    cases way <;> simp <;> omega

theorem log2_lt (m : Nat) (h : 0 < m) (hb : m < 2 ^ 53) : m.log2 ≤ 52 := by
  have := (Nat.log2_lt (by omega)).2 hb
  omega

/-- A dyadic spelling of a whole number is written as the number is. -/
theorem nearest_pow (s : Bool) (m k : Nat) (hb : m < 2 ^ 53) : double.nearest s (m * 2 ^ k) (-(k : Int)) = enc s m := by
  rcases Nat.eq_zero_or_pos m with h | h
  · subst h; simp [enc, Format.nearest]
  · have hl := log2_lt m h hb
    have hp := Nat.two_pow_pos k
    have h2 : m * 2 ^ k ≠ 0 := Nat.mul_ne_zero (by omega) (by omega)
    unfold enc Format.nearest
    rw [if_neg h2, if_neg (by omega), log2_mul_pow m k h, lp]
    have e1 : max (-(k : Int) + ((m.log2 + k : Nat) : Int) - (double.fractionBits : Nat)) (-1074) = (m.log2 : Int) - 52 := by
      simp [double]; omega
    have e2 : max ((0 : Int) + (m.log2 : Int) - (double.fractionBits : Nat)) (-1074) = (m.log2 : Int) - 52 := by
      simp [double]; omega
    simp only [e1, e2]
    congr 1; congr 1; congr 1
    have e3 : ((m.log2 : Int) - 52 - 0).toNat = 0 := by omega
    rw [e3, cut_zero]
    rcases Nat.le_total k (52 - m.log2) with hk | hk
    · have e4 : ((m.log2 : Int) - 52 - -(k : Int)).toNat = 0 := by omega
      rw [e4, cut_zero, Nat.shiftLeft_eq, Nat.shiftLeft_eq, Nat.mul_assoc, ← Nat.pow_add]
      congr 2; omega
    · have e5 : (-(k : Int) - ((m.log2 : Int) - 52)).toNat = 0 := by omega
      rw [e5, Nat.shiftLeft_zero]
      obtain ⟨d, rfl⟩ : ∃ d, k = (52 - m.log2) + d := ⟨k - (52 - m.log2), by omega⟩
      have e6 : ((m.log2 : Int) - 52 - -((52 - m.log2 + d : Nat) : Int)).toNat = d := by omega
      rw [e6, Nat.pow_add, ← Nat.mul_assoc, cut_pow, Nat.shiftLeft_eq]
      congr 2; omega

theorem read_word (s : Bool) (R L M : Nat) (hR : R = (L + 1022) * 4503599627370496 + M) (hl : L ≤ 52) (h1 : 4503599627370496 ≤ M) (h2 : M < 9007199254740992) :
    double.read (double.word s R) = .number s M (-((52 - L : Nat) : Int)) := by
  have q0 : ∀ neg (R : Nat), double.word neg R = if neg then 9223372036854775808 + R else R := fun neg R => by unfold Format.word; rw [sw]
  rw [q0]
  unfold Format.read
  rw [sw, bin, infr, lp]
  have q1 : R < 9223372036854775808 := by omega
  have q2 : R / 4503599627370496 = L + 1023 := by omega
  have q3 : R % 4503599627370496 = M - 4503599627370496 := by omega
  have q4 : ¬ R < 4503599627370496 := by omega
  have q5 : R < 9218868437227405312 := by omega
  clear hR
  have r1 : (9223372036854775808 + R) / 9223372036854775808 % 2 = 1 := by omega
  have r2 : R / 9223372036854775808 % 2 = 0 := by omega
  have r3 : (9223372036854775808 + R) % 9223372036854775808 = R := by omega
  have r4 : R % 9223372036854775808 = R := by omega
  have r5 : (-1074 : Int) + ((L + 1023 - 1 : Nat) : Int) = -((52 - L : Nat) : Int) := by omega
  have r6 : 4503599627370496 + (M - 4503599627370496) = M := by omega
  cases s
  · simp only [Bool.false_eq_true, if_false, r2, r4, q4, q5, if_true, q2, q3, r5, r6]; rfl
  · simp only [if_true, r1, r3, q4, q5, if_false, q2, q3, r5, r6]; rfl

/-- What the word of a whole number reads as. -/
theorem read_enc (s : Bool) (m : Nat) (hb : m < 2 ^ 53) : ∃ k : Nat, double.read (enc s m) = .number s (m * 2 ^ k) (-(k : Int)) := by
  rcases Nat.eq_zero_or_pos m with h | h
  · subst h
    obtain ⟨k, hk⟩ : ∃ k : Nat, k = 1074 := ⟨_, rfl⟩
    refine ⟨k, ?_⟩
    rw [Nat.zero_mul, hk]
    cases s <;> decide +kernel
  · have hl := log2_lt m h hb
    refine ⟨52 - m.log2, ?_⟩
    have hm : m ≠ 0 := by omega
    have a := (Nat.log2_eq_iff hm).1 rfl
    -- the significand
    generalize hM : m * 2 ^ (52 - m.log2) = M
    have hM1 : 4503599627370496 ≤ M := by
      have := Nat.mul_le_mul_right (2 ^ (52 - m.log2)) a.1
      rw [← Nat.pow_add, show m.log2 + (52 - m.log2) = 52 by omega, hM] at this
      exact this
    have hM2 : M < 9007199254740992 := by
      have := Nat.mul_lt_mul_of_pos_right a.2 (Nat.two_pow_pos (52 - m.log2))
      rw [← Nat.pow_add, show m.log2 + 1 + (52 - m.log2) = 53 by omega, hM] at this
      exact this
    have e : enc s m = double.word s ((m.log2 + 1022) * 4503599627370496 + M) := by
      unfold enc Format.nearest
      rw [if_neg hm, lp]
      have e2 : max ((0 : Int) + (m.log2 : Int) - (double.fractionBits : Nat)) (-1074) = (m.log2 : Int) - 52 := by
        simp [double]; omega
      simp only [e2, bin, infr]
      have e3 : ((m.log2 : Int) - 52 - 0).toNat = 0 := by omega
      have e4 : ((0 : Int) - ((m.log2 : Int) - 52)).toNat = 52 - m.log2 := by omega
      have e5 : ((m.log2 : Int) - 52 - -1074).toNat = m.log2 + 1022 := by omega
      rw [e3, cut_zero, e4, e5, Nat.shiftLeft_eq, hM, Nat.min_eq_left (by omega)]
    rw [e]
    exact read_word s _ m.log2 M rfl hl hM1 hM2

/-- The word b is a float that stands for the whole number n. -/
def FI (b : Nat) (n : Int) : Prop := ∃ s, b = enc s n.natAbs ∧ (n ≠ 0 → s = decide (n < 0))

theorem fi_of (n : Int) : FI (floatOfInt .f64 n) n := ⟨decide (n < 0), by
  rfl, fun _ => rfl⟩


theorem signed_pow (s : Bool) (m k u : Nat) (n : Int) (hm : m = n.natAbs) (hs : n ≠ 0 → s = decide (n < 0)) : signed s (m * 2 ^ k) u = n * ((2 ^ (k + u) : Nat) : Int) := by
  have e : ((m * 2 ^ k * 2 ^ u : Nat) : Int) = (m : Int) * ((2 ^ (k + u) : Nat) : Int) := by
    rw [Nat.mul_assoc, ← Nat.pow_add, Int.natCast_mul]
  unfold signed
  rw [Nat.shiftLeft_eq, e]
  by_cases h0 : n = 0
  · subst h0; have : m = 0 := by omega
    subst this; simp
  · rw [hs h0]
    by_cases hn : n < 0
    · have : (m : Int) = -n := by omega
      rw [this, decide_eq_true hn, if_pos rfl, Int.neg_mul, Int.neg_neg]
    · have : (m : Int) = n := by omega
      rw [this, decide_eq_false hn, if_neg (by simp)]

/-- Two spellings of two whole numbers are added as the numbers are. -/
theorem sum_pow (s t : Bool) (k j : Nat) (a b : Int) (hs : a ≠ 0 → s = decide (a < 0)) (ht : b ≠ 0 → t = decide (b < 0)) (hab : (a + b).natAbs < 2 ^ 53) :
    ∃ r, (((Datum.number s (a.natAbs * 2 ^ k) (-(k : Int))).sum (Datum.number t (b.natAbs * 2 ^ j) (-(j : Int)))).map double.write) = some r ∧ FI r (a + b) := by
  unfold Datum.sum
  simp only
  obtain ⟨g, hg⟩ : ∃ g : Nat, g = max k j := ⟨_, rfl⟩
  have hb : min (-(k : Int)) (-(j : Int)) = -(g : Int) := by omega
  have h1 : (-(k : Int) - -(g : Int)).toNat = g - k := by omega
  have h2 : (-(j : Int) - -(g : Int)).toNat = g - j := by omega
  rw [hb, h1, h2, signed_pow s _ k _ a rfl hs, signed_pow t _ j _ b rfl ht, show k + (g - k) = g by omega, show j + (g - j) = g by omega, ← Int.add_mul]
  have hp : (0 : Int) < ((2 ^ g : Nat) : Int) := by have := Nat.two_pow_pos g; omega
  generalize ha : a + b = n at hab ⊢
  clear ha
  refine ⟨_, rfl, (if n * ((2 ^ g : Nat) : Int) = 0 then s && t else decide (n * ((2 ^ g : Nat) : Int) < 0)), ?_, ?_⟩
  · show double.nearest _ _ _ = _
    rw [Int.natAbs_mul, Int.natAbs_natCast, nearest_pow _ _ _ hab]
  · intro hn
    have hne : n * ((2 ^ g : Nat) : Int) ≠ 0 := Int.mul_ne_zero hn (by omega)
    rw [if_neg hne]
    congr 1
    rw [eq_iff_iff]
    constructor
    · intro h
      rcases Int.lt_or_le n 0 with h' | h'
      · exact h'
      · have := Int.mul_nonneg h' (Int.le_of_lt hp); omega
    · intro h
      exact Int.mul_neg_of_neg_of_pos h hp

theorem fi_add {x y : Nat} {a b : Int} (hx : FI x a) (hy : FI y b) (ha : a.natAbs < 2 ^ 53) (hb : b.natAbs < 2 ^ 53) (hab : (a + b).natAbs < 2 ^ 53) : ∃ r, floatBits .add .f64 x y = some r ∧ FI r (a + b) := by
  obtain ⟨s, rfl, hs⟩ := hx
  obtain ⟨t, rfl, ht⟩ := hy
  obtain ⟨k, hk⟩ := read_enc s a.natAbs ha
  obtain ⟨j, hj⟩ := read_enc t b.natAbs hb
  show ∃ r, ((double.read _).sum (double.read _)).map double.write = some r ∧ _
  rw [hk, hj]
  exact sum_pow s t k j a b hs ht hab

theorem fi_sub {x y : Nat} {a b : Int} (hx : FI x a) (hy : FI y b) (ha : a.natAbs < 2 ^ 53) (hb : b.natAbs < 2 ^ 53) (hab : (a - b).natAbs < 2 ^ 53) : ∃ r, floatBits .sub .f64 x y = some r ∧ FI r (a - b) := by
  obtain ⟨s, rfl, hs⟩ := hx
  obtain ⟨t, rfl, ht⟩ := hy
  obtain ⟨k, hk⟩ := read_enc s a.natAbs ha
  obtain ⟨j, hj⟩ := read_enc t b.natAbs hb
  show ∃ r, ((double.read _).sum (double.read _).opposite).map double.write = some r ∧ _
  rw [hk, hj]
  have h := sum_pow s (!t) k j a (-b) hs (fun h => by
    have h0 : b ≠ 0 := by omega
    rw [ht h0]
    by_cases hn : b < 0
    · rw [decide_eq_true hn, decide_eq_false (by omega)]; rfl
    · rw [decide_eq_false hn, decide_eq_true (by omega)]; rfl) (by rw [← Int.sub_eq_add_neg]; exact hab)
  rw [Int.natAbs_neg, ← Int.sub_eq_add_neg] at h
  exact h

theorem fi_mul {x y : Nat} {a b : Int} (hx : FI x a) (hy : FI y b) (ha : a.natAbs < 2 ^ 53) (hb : b.natAbs < 2 ^ 53) (hab : (a * b).natAbs < 2 ^ 53) : ∃ r, floatBits .mul .f64 x y = some r ∧ FI r (a * b) := by
  obtain ⟨s, rfl, hs⟩ := hx
  obtain ⟨t, rfl, ht⟩ := hy
  obtain ⟨k, hk⟩ := read_enc s a.natAbs ha
  obtain ⟨j, hj⟩ := read_enc t b.natAbs hb
  show ∃ r, ((double.read _).product (double.read _)).map double.write = some r ∧ _
  rw [hk, hj]
  refine ⟨_, rfl, s ^^ t, ?_, ?_⟩
  · show double.nearest _ _ _ = _
    rw [show a.natAbs * 2 ^ k * (b.natAbs * 2 ^ j) = (a * b).natAbs * 2 ^ (k + j) by
      rw [Int.natAbs_mul, Nat.pow_add]; ac_rfl]
    rw [show -(k : Int) + -(j : Int) = -((k + j : Nat) : Int) by omega, nearest_pow _ _ _ hab]
  · intro h
    have h1 : a ≠ 0 := fun e => h (by rw [e, Int.zero_mul])
    have h2 : b ≠ 0 := fun e => h (by rw [e, Int.mul_zero])
    rw [hs h1, ht h2]
    by_cases p : a < 0 <;> by_cases q : b < 0
    · have := Int.mul_pos_of_neg_of_neg p q
      rw [decide_eq_true p, decide_eq_true q, decide_eq_false (by omega)]; rfl
    · have := Int.mul_neg_of_neg_of_pos p (show 0 < b by omega)
      rw [decide_eq_true p, decide_eq_false q, decide_eq_true this]; rfl
    · have := Int.mul_neg_of_pos_of_neg (show 0 < a by omega) q
      rw [decide_eq_false p, decide_eq_true q, decide_eq_true this]; rfl
    · have := Int.mul_pos (show 0 < a by omega) (show 0 < b by omega)
      rw [decide_eq_false p, decide_eq_false q, decide_eq_false (by omega)]; rfl

theorem fi_int {x : Nat} {a : Int} (hx : FI x a) (ha : a.natAbs < 2 ^ 53) : floatToIntVal .f64 x .i64 = some a := by
  obtain ⟨s, rfl, hs⟩ := hx
  obtain ⟨k, hk⟩ := read_enc s a.natAbs ha
  have h : (FloatKind.f64.decode (enc s a.natAbs)).toInt .zero = some a := by
    show (double.read _).toInt .zero = _
    rw [hk]
    unfold Datum.toInt Datum.integral
    have e1 : (-(k : Int)).toNat = 0 := by omega
    have e2 : (- -(k : Int)).toNat = k := by omega
    simp only [e1, e2, Nat.shiftLeft_zero, cut_pow]
    have h := signed_pow s a.natAbs 0 0 a rfl hs
    simp at h
    rw [h]
  unfold floatToIntVal
  rw [h]
  have h53 : (2 : Nat) ^ 53 = 9007199254740992 := rfl
  simp only
  rw [if_pos]
  have m1 : IntKind.i64.min = -9223372036854775808 := by decide
  have m2 : IntKind.i64.max = 9223372036854775807 := by decide
  omega

/-- A product of two numbers whose parts are whole. -/
theorem cmul {x y u v : Nat} {a b c d : Int} (hx : FI x a) (hy : FI y b) (hu : FI u c) (hv : FI v d)
    (ha : a.natAbs ≤ 1048576) (hb : b.natAbs ≤ 1048576) (hc : c.natAbs ≤ 1048576) (hd : d.natAbs ≤ 1048576) :
    ∃ re im, cMulBits x y u v = some (re, im) ∧ FI re (a * c - b * d) ∧ FI im (a * d + b * c) := by
  have h53 : (2 : Nat) ^ 53 = 9007199254740992 := rfl
  have bd : ∀ p q : Int, p.natAbs ≤ 1048576 → q.natAbs ≤ 1048576 → (p * q).natAbs ≤ 1099511627776 := fun p q hp hq => by
    rw [Int.natAbs_mul]; exact Nat.le_trans (Nat.mul_le_mul hp hq) (by decide)
  have b1 := bd a c ha hc
  have b2 := bd b d hb hd
  have b3 := bd a d ha hd
  have b4 := bd b c hb hc
  obtain ⟨r1, e1, f1⟩ := fi_mul hx hu (by omega) (by omega) (by omega)
  obtain ⟨r2, e2, f2⟩ := fi_mul hy hv (by omega) (by omega) (by omega)
  obtain ⟨r3, e3, f3⟩ := fi_sub f1 f2 (by omega) (by omega) (by omega)
  obtain ⟨r4, e4, f4⟩ := fi_mul hx hv (by omega) (by omega) (by omega)
  obtain ⟨r5, e5, f5⟩ := fi_mul hy hu (by omega) (by omega) (by omega)
  obtain ⟨r6, e6, f6⟩ := fi_add f4 f5 (by omega) (by omega) (by omega)
  refine ⟨r3, r6, ?_, f3, f6⟩
  unfold cMulBits
  simp only [e1, e2, e3, e4, e5, e6, Option.bind_some]

theorem cadd {x y u v : Nat} {a b c d : Int} (hx : FI x a) (hy : FI y b) (hu : FI u c) (hv : FI v d)
    (ha : a.natAbs ≤ 1048576) (hb : b.natAbs ≤ 1048576) (hc : c.natAbs ≤ 1048576) (hd : d.natAbs ≤ 1048576) :
    ∃ re im, cSumBits .add .f64 x y u v = some (re, im) ∧ FI re (a + c) ∧ FI im (b + d) := by
  have h53 : (2 : Nat) ^ 53 = 9007199254740992 := rfl
  obtain ⟨r1, e1, f1⟩ := fi_add hx hu (by omega) (by omega) (by omega)
  obtain ⟨r2, e2, f2⟩ := fi_add hy hv (by omega) (by omega) (by omega)
  refine ⟨r1, r2, ?_, f1, f2⟩
  unfold cSumBits
  simp only [e1, e2, Option.bind_some]

end Go.Proofs.YtkppkojpdhgicaaDoor.Gf
