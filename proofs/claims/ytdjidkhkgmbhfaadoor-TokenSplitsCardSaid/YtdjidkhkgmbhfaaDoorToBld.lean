/-
More blanks between tokens change only where the tokens begin. Of no function of the program.
-/
import Derived.Test.YtdjidkhkgmbhfaaDoorToLoc
namespace Go.Proofs.YtdjidkhkgmbhfaaDoor.Tok
open Go.Proofs.YtdjidkhkgmbhfaaDoor

def blanks (n : Nat) : List UInt8 := List.replicate n 32
/-- The text with more blanks, and its tokens: toks are to come, at is where the last piece began, i counts, q bytes stand already. -/
def bld (l : List UInt8) (b : Nat → Nat) : List (Nat × List UInt8 × Nat) → Nat → Nat → Nat → List UInt8 × List (Nat × List UInt8 × Nat)
  | [], p, i, _ => (l.drop p ++ blanks (b i), [])
  | (k, x, a) :: ts, p, i, q =>
    (((l.drop p).take (a - p) ++ blanks (b i)) ++ (bld l b ts a (i + 1) (q + ((l.drop p).take (a - p) ++ blanks (b i)).length)).1,
      (k, x, q + ((l.drop p).take (a - p) ++ blanks (b i)).length) :: (bld l b ts a (i + 1) (q + ((l.drop p).take (a - p) ++ blanks (b i)).length)).2)
theorem splitF_blanks : ∀ (n : Nat) (r : List UInt8) (p : Nat), splitF (blanks n ++ r) p = splitF r (p + n)
  | 0, r, p => rfl
  | n + 1, r, p => by
    have e : blanks (n + 1) ++ r = 32 :: (blanks n ++ r) := rfl
    rw [e, splitF_blank, splitF_blanks n r (p + 1)]
    congr 1; omega
/-- Where the first token is. -/
theorem split_first : ∀ {l : List UInt8} {p k a : Nat} {x : List UInt8} {ts : List (Nat × List UInt8 × Nat)}, splitF l p = .ok ((k, x, a) :: ts) →
    p ≤ a ∧ l = blanks (a - p) ++ l.drop (a - p) ∧ ∃ c r n, l.drop (a - p) = c :: r ∧ c ≠ 32 ∧ oneF (c :: r) = some (k, x, n) ∧ splitF ((c :: r).drop n) (a + n) = .ok ts
  | [], p, k, a, x, ts, h => by rw [splitF_nil] at h; cases h
  | c :: r, p, k, a, x, ts, h => by
    by_cases hc : c = 32
    · subst hc
      rw [splitF_blank] at h
      obtain ⟨h1, h2, h3⟩ := split_first h
      have e : a - p = (a - (p + 1)) + 1 := by omega
      refine ⟨by omega, ?_, ?_⟩
      · rw [e]
        show 32 :: r = 32 :: (blanks (a - (p + 1)) ++ r.drop (a - (p + 1)))
        rw [← h2]
      · rw [e]; exact h3
    · cases ho : oneF (c :: r) with
      | none => rw [splitF_none hc ho] at h; cases h
      | some t =>
        obtain ⟨k', x', n⟩ := t
        rw [splitF_some hc ho] at h
        cases hs : splitF ((c :: r).drop n) (p + n) with
        | error e => rw [hs] at h; cases h
        | ok t2 =>
          rw [hs] at h
          injection h with h
          injection h with h1 h2
          injection h1 with e1 h1
          injection h1 with e2 e3
          subst e1 e2 e3 h2
          refine ⟨Nat.le_refl _, by rw [Nat.sub_self]; rfl, c, r, n, by rw [Nat.sub_self]; rfl, hc, ho, hs⟩
theorem split_empty : ∀ {l : List UInt8} {p : Nat}, splitF l p = .ok [] → l = blanks l.length
  | [], _, _ => rfl
  | c :: r, p, h => by
    by_cases hc : c = 32
    · subst hc
      rw [splitF_blank] at h
      have ih := split_empty h
      show 32 :: r = 32 :: blanks r.length
      rw [← ih]
    · cases ho : oneF (c :: r) with
      | none => rw [splitF_none hc ho] at h; cases h
      | some t =>
        obtain ⟨k', x', n⟩ := t
        rw [splitF_some hc ho] at h
        cases hs : splitF ((c :: r).drop n) (p + n) with
        | error e => rw [hs] at h; cases h
        | ok t2 => rw [hs] at h; cases h
theorem blanks_add (m n : Nat) : blanks m ++ blanks n = blanks (m + n) := List.replicate_append_replicate ..
/-- A token, blanks, and what splits. -/
theorem split_token {l' T : List UInt8} {c : UInt8} {k n m q : Nat} {x : List UInt8} {ws : List (Nat × List UInt8 × Nat)} (hc : l'.head? = some c) (h32 : c ≠ 32) (ho : oneF l' = some (k, x, n)) (hT : splitF T (q + n + m) = .ok ws)
    (hn : m ≠ 0 ∨ ∀ d, T.head? = some d → d = 32 ∨ l'[n]? = some d) : splitF (l'.take n ++ (blanks m ++ T)) q = .ok ((k, x, q) :: ws) := by
  have hp := oneF_pos ho
  have hnext : Next l' (blanks m ++ T) n := by
    intro d hd
    cases m with
    | zero =>
      rcases hn with h | h
      · exact absurd rfl h
      · exact h d hd
    | succ m => left; simp [blanks, List.replicate_succ] at hd; exact hd.symm
  have hl := one_local ho hnext
  obtain ⟨htk, hdr⟩ := take_len_app (r := blanks m ++ T) hp.2
  cases l' with
  | nil => simp at hc
  | cons a t =>
    simp at hc
    subst hc
    obtain ⟨g, rfl⟩ : ∃ g, n = g + 1 := ⟨n - 1, by omega⟩
    have e : (a :: t).take (g + 1) ++ (blanks m ++ T) = a :: (t.take g ++ (blanks m ++ T)) := rfl
    rw [e] at hl hdr ⊢
    rw [splitF_some h32 hl, hdr, splitF_blanks, hT]
theorem bld_head (l : List UInt8) (b : Nat → Nat) (ts : List (Nat × List UInt8 × Nat)) (a i q : Nat) {c : UInt8} (hc : (l.drop a).head? = some c) (ha : ∀ k x p t, ts = (k, x, p) :: t → a < p) : ((bld l b ts a i q).1).head? = some c := by
  cases ts with
  | nil =>
    show (l.drop a ++ blanks (b i)).head? = some c
    rw [List.head?_append, hc]; rfl
  | cons y t =>
    obtain ⟨k, x, p⟩ := y
    have hlt := ha k x p t rfl
    show (((l.drop a).take (p - a) ++ blanks (b i)) ++ _).head? = some c
    rw [List.append_assoc, List.head?_append, List.head?_take, if_neg (by omega), hc]; rfl
/-- From a token on. -/
theorem bld_token (l : List UInt8) (b : Nat → Nat) : ∀ (ts : List (Nat × List UInt8 × Nat)) (a i q k n : Nat) (x : List UInt8) (c : UInt8), (l.drop a).head? = some c → c ≠ 32 → oneF (l.drop a) = some (k, x, n) → splitF (l.drop (a + n)) (a + n) = .ok ts →
    splitF (bld l b ts a i q).1 q = .ok ((k, x, q) :: (bld l b ts a i q).2)
  | [], a, i, q, k, n, x, c, hc, h32, ho, hs => by
    have he := split_empty hs
    have hp := oneF_pos ho
    show splitF (l.drop a ++ blanks (b i)) q = .ok [(k, x, q)]
    have e : l.drop a ++ blanks (b i) = (l.drop a).take n ++ (blanks ((l.drop (a + n)).length + b i) ++ []) := by
      rw [List.append_nil, ← blanks_add, ← he, ← List.append_assoc, ← List.drop_drop, List.take_append_drop]
    rw [e]
    refine split_token hc h32 ho (by rw [splitF_nil]) (.inr (fun d hd => by simp at hd))
  | (k', x', p') :: ts, a, i, q, k, n, x, c, hc, h32, ho, hs => by
    obtain ⟨h1, h2, c', r', n', h3, h4, h5, h6⟩ := split_first hs
    have hp := oneF_pos ho
    have hd : (l.drop (a + n)).drop (p' - (a + n)) = l.drop p' := by rw [List.drop_drop]; congr 1; omega
    rw [hd] at h2 h3
    have hc' : (l.drop p').head? = some c' := by rw [h3]; rfl
    rw [← h3] at h5 h6
    rw [List.drop_drop] at h6
    have hgt : ∀ k x p t, ts = (k, x, p) :: t → p' < p := by
      rintro k2 x2 p2 t2 rfl
      have := (split_first h6).1
      have := oneF_pos h5
      omega
    have e1 : (l.drop a).take (p' - a) = (l.drop a).take n ++ blanks (p' - (a + n)) := by
      have e2 : l.drop a = (l.drop a).take n ++ l.drop (a + n) := by rw [← List.drop_drop, List.take_append_drop]
      have hlen : ((l.drop a).take n).length = n := by rw [List.length_take]; omega
      conv => lhs; rw [e2]
      rw [List.take_append, List.take_of_length_le (by rw [hlen]; omega), hlen]
      congr 1
      rw [h2, List.take_append_of_le_length (by simp [blanks]; omega), List.take_of_length_le (by simp [blanks]; omega)]
    have hlen : ((l.drop a).take (p' - a) ++ blanks (b i)).length = n + (p' - (a + n)) + b i := by
      rw [e1]
      have hl : ((l.drop a).take n).length = n := by rw [List.length_take]; omega
      rw [List.length_append, List.length_append, hl]
      simp [blanks]
    have ih := bld_token l b ts p' (i + 1) (q + ((l.drop a).take (p' - a) ++ blanks (b i)).length) k' n' x' c' hc' h4 h5 h6
    show splitF (((l.drop a).take (p' - a) ++ blanks (b i)) ++ _) q = .ok ((k, x, q) :: (k', x', q + ((l.drop a).take (p' - a) ++ blanks (b i)).length) :: _)
    rw [hlen] at ih ⊢
    have e3 : ((l.drop a).take (p' - a) ++ blanks (b i)) ++ (bld l b ts p' (i + 1) (q + (n + (p' - (a + n)) + b i))).1 = (l.drop a).take n ++ (blanks (p' - (a + n) + b i) ++ (bld l b ts p' (i + 1) (q + (n + (p' - (a + n)) + b i))).1) := by
      rw [e1, ← blanks_add]; simp only [List.append_assoc]
    rw [e3]
    refine split_token hc h32 ho ?_ ?_
    · rw [show q + n + (p' - (a + n) + b i) = q + (n + (p' - (a + n)) + b i) from by omega]; exact ih
    · by_cases hm : p' - (a + n) + b i = 0
      · right
        intro d hd2
        right
        rw [bld_head l b ts p' (i + 1) _ hc' hgt] at hd2
        injection hd2 with hd2
        subst hd2
        rw [List.getElem?_drop, show a + n = p' from by omega]
        rw [List.head?_drop] at hc'; exact hc'
      · exact .inl hm
/-- The whole text. -/
theorem bld_all (l : List UInt8) (b : Nat → Nat) (ts : List (Nat × List UInt8 × Nat)) (h : splitF l 0 = .ok ts) : splitF (bld l b ts 0 0 0).1 0 = .ok (bld l b ts 0 0 0).2 := by
  cases ts with
  | nil =>
    have he := split_empty h
    show splitF (l.drop 0 ++ blanks (b 0)) 0 = .ok []
    rw [List.drop_zero, he, blanks_add, ← List.append_nil (blanks _), splitF_blanks, splitF_nil]
  | cons y t =>
    obtain ⟨k, x, p⟩ := y
    obtain ⟨_, h2, c, r, n, h3, h4, h5, h6⟩ := split_first h
    simp only [Nat.sub_zero] at h2 h3
    have hc : (l.drop p).head? = some c := by rw [h3]; rfl
    rw [← h3] at h5 h6
    rw [List.drop_drop] at h6
    have ih := bld_token l b t p 1 (0 + ((l.drop 0).take (p - 0) ++ blanks (b 0)).length) k n x c hc h4 h5 h6
    show splitF (((l.drop 0).take (p - 0) ++ blanks (b 0)) ++ _) 0 = .ok ((k, x, 0 + ((l.drop 0).take (p - 0) ++ blanks (b 0)).length) :: _)
    have e1 : (l.drop 0).take (p - 0) = blanks p := by
      rw [List.drop_zero, Nat.sub_zero]
      conv => lhs; rw [h2]
      rw [List.take_append_of_le_length (by simp [blanks]), List.take_of_length_le (by simp [blanks])]
    have e2 : ((l.drop 0).take (p - 0) ++ blanks (b 0)).length = p + b 0 := by rw [e1]; simp [blanks]
    rw [e2] at ih ⊢
    rw [e1, blanks_add, splitF_blanks]
    exact ih
end Go.Proofs.YtdjidkhkgmbhfaaDoor.Tok
