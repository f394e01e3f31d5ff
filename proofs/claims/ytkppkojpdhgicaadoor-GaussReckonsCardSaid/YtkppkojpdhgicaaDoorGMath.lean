/-
Numbers' texts, plain: how they are read back, by the library's reading and by the reference's. No program in it.
-/
import Derived.Test.YtkppkojpdhgicaaDoorGTextR
import Derived.Lib.AtoiAllCases
import Derived.Lib.AtoiTie
namespace Go.Proofs.YtkppkojpdhgicaaDoor
open Go.RowKit

/-- A digit. -/
def isDig (c : UInt8) : Bool := decide (48 ≤ c.toNat ∧ c.toNat ≤ 57)
theorem isDig_of (d : Nat) (h : d < 10) : isDig (UInt8.ofNat (48 + d)) = true ∧ (UInt8.ofNat (48 + d)).toNat = 48 + d := by
  have e : (UInt8.ofNat (48 + d)).toNat = 48 + d := by rw [UInt8.toNat_ofNat']; omega
  refine ⟨?_, e⟩
  unfold isDig; rw [e]; exact decide_eq_true (by omega)

/-- The number that a row of digits stands for. -/
def val (n : Int) (l : List UInt8) : Int := l.foldl (fun n c => n * 10 + ((c.toNat : Int) - 48)) n
theorem val_append (n : Int) (l m : List UInt8) : val n (l ++ m) = val (val n l) m := by unfold val; rw [List.foldl_append]

theorem dec_all (n : Nat) : (∀ c ∈ Lib.decDigits n, isDig c = true) ∧ val 0 (Lib.decDigits n) = (n : Int) ∧ Lib.decDigits n ≠ [] := by
  induction n using Nat.strongRecOn with
  | ind n ih =>
    by_cases h : n < 10
    · obtain ⟨h1, h2⟩ := isDig_of n h
      rw [Lib.decDigits_one h]
      refine ⟨fun c hc => by simp at hc; rw [hc]; simpa using h1, ?_, by simp⟩
      show (0 : Int) * 10 + (((UInt8.ofNat (48 + n)).toNat : Int) - 48) = n
      rw [h2]; omega
    · obtain ⟨i1, i2, i3⟩ := ih (n / 10) (by omega)
      obtain ⟨h1, h2⟩ := isDig_of (n % 10) (by omega)
      rw [dec_step (by omega)]
      refine ⟨fun c hc => ?_, ?_, by simp⟩
      · rcases List.mem_append.1 hc with hc | hc
        · exact i1 c hc
        · rw [List.mem_singleton.1 hc]; exact h1
      · rw [val_append, i2]
        show ((n / 10 : Nat) : Int) * 10 + (((UInt8.ofNat (48 + n % 10)).toNat : Int) - 48) = n
        rw [h2]; omega

theorem dec_short : ∀ n : Nat, n ≤ 1048576 → (Lib.decDigits n).length ≤ 7 := by
  intro n h
  have hs : ∀ (k n : Nat), n < 10 ^ (k + 1) → (Lib.decDigits n).length ≤ k + 1 := by
    intro k
    induction k with
    | zero => intro n h; rw [Lib.decDigits_one (by omega)]; simp
    | succ k ih =>
      intro n h
      by_cases h10 : n < 10
      · rw [Lib.decDigits_one h10]; simp
      · rw [dec_step (by omega)]
        have := ih (n / 10) (by rw [Nat.pow_succ] at h; omega)
        simp; omega
  exact hs 6 n (by omega)

/-- The digits that the reference reads: so many at most. -/
def rdD : Nat → Int → List UInt8 → Int × List UInt8
  | 0, n, l => (n, l)
  | _ + 1, n, [] => (n, [])
  | f + 1, n, c :: t => if isDig c then rdD f (n * 10 + ((c.toNat : Int) - 48)) t else (n, c :: t)
/-- No digit stands first. -/
def NoDig (t : List UInt8) : Prop := ∀ c r, t = c :: r → isDig c = false
theorem rdD_all : ∀ (l : List UInt8) (f : Nat) (n : Int) (t : List UInt8), (∀ c ∈ l, isDig c = true) → l.length < f → NoDig t → rdD f n (l ++ t) = (val n l, t)
  | [], f + 1, n, t, _, _, ht => by
    cases t with
    | nil => rfl
    | cons c r => rw [List.nil_append, rdD, if_neg (by rw [ht c r rfl]; simp)]; rfl
  | c :: l, f + 1, n, t, hl, hf, ht => by
    rw [List.cons_append, rdD, if_pos (hl c List.mem_cons_self)]
    exact rdD_all l f _ t (fun d hd => hl d (List.mem_cons_of_mem _ hd)) (by simp at hf; omega) ht

/-- A whole number as the reference reads it, and what stands behind. -/
def whole (l : List UInt8) : Int × List UInt8 :=
  let (minus, r) : Bool × List UInt8 := match l with
    | c :: t => if c = 45 then (true, t) else if c = 43 then (false, t) else (false, l)
    | [] => (false, [])
  let (n, t) := rdD 8 0 r
  let n := if t.length = r.length then 1 else n
  (if minus then 0 - n else n, t)
/-- The reference's reading, ahead of its last test. -/
def refP (l : List UInt8) : Int × Int :=
  let (a, r) := whole l
  match r with
  | [] => (a, 0)
  | c :: _ => if c = 105 then (0, a) else (a, (whole r).1)

theorem dec_head (n : Nat) : ∃ c r, Lib.decDigits n = c :: r ∧ isDig c = true := by
  obtain ⟨h1, _, h3⟩ := dec_all n
  cases h : Lib.decDigits n with
  | nil => exact absurd h h3
  | cons c r => exact ⟨c, r, rfl, h1 c (by rw [h]; exact List.mem_cons_self)⟩
theorem not_sign {c : UInt8} (h : isDig c = true) : c ≠ 45 ∧ c ≠ 43 ∧ c ≠ 105 := by
  unfold isDig at h
  have := of_decide_eq_true h
  refine ⟨?_, ?_, ?_⟩ <;> rintro rfl <;> revert this <;> decide

theorem whole_plain (n : Nat) (h : n ≤ 1048576) (t : List UInt8) (ht : NoDig t) : whole (Lib.decDigits n ++ t) = ((n : Int), t) := by
  obtain ⟨h1, h2, h3⟩ := dec_all n
  obtain ⟨c, r, he, hc⟩ := dec_head n
  obtain ⟨s1, s2, _⟩ := not_sign hc
  have hr := rdD_all (Lib.decDigits n) 8 0 t h1 (by have := dec_short n h; omega) ht
  have hlen : t.length ≠ (Lib.decDigits n ++ t).length := by
    have := List.length_pos_iff.2 h3; simp; omega
  unfold whole
  have e : (match Lib.decDigits n ++ t with
    | c :: t' => if c = 45 then (true, t') else if c = 43 then (false, t') else (false, Lib.decDigits n ++ t)
    | [] => (false, [])) = (false, Lib.decDigits n ++ t) := by
    rw [he, List.cons_append]; simp only; rw [if_neg s1, if_neg s2]
  rw [e]
  simp only [hr]
  rw [if_neg hlen, h2]; rfl
theorem whole_sign (m : Bool) (n : Nat) (h : n ≤ 1048576) (t : List UInt8) (ht : NoDig t) : whole ((if m then 45 else 43) :: (Lib.decDigits n ++ t)) = (if m then -(n : Int) else (n : Int), t) := by
  obtain ⟨h1, h2, h3⟩ := dec_all n
  have hr := rdD_all (Lib.decDigits n) 8 0 t h1 (by have := dec_short n h; omega) ht
  have hlen : t.length ≠ (Lib.decDigits n ++ t).length := by
    have := List.length_pos_iff.2 h3; simp; omega
  cases m
  · unfold whole
    simp only [Bool.false_eq_true, if_false, show ¬ ((43 : UInt8) = 45) from by decide, if_true, hr]
    rw [if_neg hlen, h2]
  · unfold whole
    simp only [if_true, hr]
    rw [if_neg hlen, h2, Int.zero_sub]
theorem whole_i (t : List UInt8) : whole (105 :: t) = (1, 105 :: t) := by
  unfold whole; simp [rdD, show isDig 105 = false from by decide]
theorem whole_mi (t : List UInt8) : whole (45 :: 105 :: t) = (-1, 105 :: t) := by
  unfold whole; simp [rdD, show isDig 105 = false from by decide]
theorem whole_pi (t : List UInt8) : whole (43 :: 105 :: t) = (1, 105 :: t) := by
  unfold whole; simp [rdD, show isDig 105 = false from by decide]

theorem whole_itoa (n : Int) (h : -1048576 ≤ n ∧ n ≤ 1048576) (t : List UInt8) (ht : NoDig t) : whole (Lib.itoa n ++ t) = (n, t) := by
  unfold Lib.itoa
  split
  · have := whole_sign true n.natAbs (by omega) t ht
    simp only [if_true] at this
    rw [List.cons_append, this]; congr 1; omega
  · have := whole_plain n.toNat (by omega) t ht
    rw [this]; congr 1; omega
theorem noDig_nil : NoDig [] := fun c r h => by cases h
theorem noDig_cons {c : UInt8} (h : isDig c = false) (r : List UInt8) : NoDig (c :: r) := fun c' r' e => by cases e; exact h

/-- Of the tail: what is read is its number. -/
theorem whole_tail (b : Int) (h : -1048576 ≤ b ∧ b ≤ 1048576) : whole (tailL b) = (b, [105]) := by
  unfold tailL
  split
  · rename_i e; rw [whole_i, e]
  · split
    · rename_i e; rw [whole_mi, e]
    · exact whole_itoa b h [105] (noDig_cons (by decide) _)
theorem whole_ptail (b : Int) (h0 : 0 < b) (h : b ≤ 1048576) : whole (43 :: tailL b) = (b, [105]) := by
  unfold tailL
  split
  · rename_i e; rw [whole_pi, e]
  · split
    · omega
    · have := whole_sign false b.toNat (by omega) [105] (noDig_cons (by decide) _)
      simp only [Bool.false_eq_true, if_false] at this
      unfold Lib.itoa
      rw [if_neg (by omega), this]; congr 1; omega
theorem tail_head (b : Int) (h : b < 0) : ∃ r, tailL b = 45 :: r := by
  unfold tailL
  rw [if_neg (by omega)]
  split
  · exact ⟨_, rfl⟩
  · unfold Lib.itoa; rw [if_pos h]; exact ⟨_, rfl⟩

/-- The reference reads each number's text as that number. -/
theorem refP_text (a b : Int) (h : Rg a b) : refP (textL a b) = (a, b) := by
  obtain ⟨ha, hb⟩ := h
  unfold textL
  split
  · rename_i e
    have := whole_itoa a ha [] noDig_nil
    rw [List.append_nil] at this
    unfold refP; rw [this]; simp [e]
  · split
    · rename_i e
      unfold refP; rw [whole_tail b hb]; simp [e]
    · split
      · rename_i hp
        have h1 := whole_itoa a ha ([43] ++ tailL b) (noDig_cons (by decide) _)
        have h2 := whole_ptail b hp hb.2
        unfold refP; rw [h1]
        simp only [List.cons_append, List.nil_append]
        rw [if_neg (by decide), h2]
      · obtain ⟨r, hr⟩ := tail_head b (by omega)
        have h1 := whole_itoa a ha (tailL b) (by rw [hr]; exact noDig_cons (by decide) _)
        have h2 := whole_tail b hb
        unfold refP; rw [h1]
        rw [hr] at h2 ⊢
        simp only
        rw [if_neg (by decide), h2]
/-- Different numbers have different texts. -/
theorem text_inj {a b c d : Int} (h : Rg a b) (k : Rg c d) (e : textL a b = textL c d) : a = c ∧ b = d := by
  have := (refP_text a b h).symm.trans ((congrArg refP e).trans (refP_text c d k))
  exact ⟨congrArg Prod.fst this, congrArg Prod.snd this⟩

theorem decFrom_all : ∀ (l : List UInt8) (n : Nat), (∀ c ∈ l, isDig c = true) → ∃ m : Nat, Lib.decFrom n l = some m ∧ val (n : Int) l = (m : Int)
  | [], n, _ => ⟨n, rfl, rfl⟩
  | c :: l, n, h => by
    have hc := of_decide_eq_true (h c List.mem_cons_self)
    obtain ⟨m, h1, h2⟩ := decFrom_all l (n * 10 + (c.toNat - 48)) (fun d hd => h d (List.mem_cons_of_mem _ hd))
    refine ⟨m, ?_, ?_⟩
    · unfold Lib.decFrom Lib.digitVal
      rw [if_pos hc]; exact h1
    · show val ((n : Int) * 10 + ((c.toNat : Int) - 48)) l = m
      rw [← h2]; congr 1; omega
theorem decNat_dec (n : Nat) : Lib.decNat (Lib.decDigits n) = some n := by
  obtain ⟨h1, h2, h3⟩ := dec_all n
  obtain ⟨m, e1, e2⟩ := decFrom_all (Lib.decDigits n) 0 h1
  unfold Lib.decNat
  rw [if_neg (by simpa using h3), e1]
  congr 1
  have := h2.symm.trans e2
  omega
theorem atoi_plus (n : Nat) (h : n ≤ 1048576) : Lib.atoiAll (43 :: Lib.decDigits n) = .ok (n : Int) := by
  have := dec_short n h
  rw [Lib.atoiAll_short _ (by simp; omega)]
  simp [Lib.atoi, decNat_dec, Lib.NumEnd.ofOption]
theorem atoi_itoa (n : Int) (h : -1048576 ≤ n ∧ n ≤ 1048576) : Lib.atoiAll (Lib.itoa n) = .ok n := by
  unfold Lib.itoa
  split
  · have := dec_short n.natAbs (by omega)
    rw [Lib.atoiAll_short _ (by simp; omega)]
    simp [Lib.atoi, decNat_dec, Lib.NumEnd.ofOption]; omega
  · have := dec_short n.toNat (by omega)
    obtain ⟨c, r, he, hc⟩ := dec_head n.toNat
    obtain ⟨s1, s2, _⟩ := not_sign hc
    have hd := decNat_dec n.toNat
    rw [Lib.atoiAll_short _ (by omega)]
    rw [he] at hd ⊢
    simp [Lib.atoi, s1, s2, hd, Lib.NumEnd.ofOption]; omega
end Go.Proofs.YtkppkojpdhgicaaDoor
