/-
Tokens, plain maths: what a token is, how a text is split. Of no function of the program.
A quoted text is one token. Of no function of the program.
What the library's ReplaceAll makes of quotes: plain maths. Of no function of the program.
-/
import Derived.Test.YtlagjnlajkmmeaaDoorRows
import Derived.Lib.Replace
import Derived.Lib.IndexLaws
namespace Go.Proofs.YtlagjnlajkmmeaaDoor.Tok

def isDg (c : UInt8) : Bool := decide (48 ≤ c.toNat ∧ c.toNat ≤ 57)
def isLt (c : UInt8) : Bool := decide (65 ≤ c.toNat ∧ c.toNat ≤ 90)
def isLd (c : UInt8) : Bool := isDg c || isLt c
/-- How many at the head. -/
def runB (p : UInt8 → Bool) (l : List UInt8) : Nat := (l.takeWhile p).length
/-- The text behind an opening quote, and how many bytes it has, the closing quote too. -/
def quotedF : List UInt8 → Option (List UInt8 × Nat)
  | [] => none
  | [c] => if c = 34 then some ([], 1) else none
  | c :: d :: r => if c = 34 then (if d = 34 then (quotedF r).map (fun x => (34 :: x.1, x.2 + 2)) else some ([], 1)) else (quotedF (d :: r)).map (fun x => (c :: x.1, x.2 + 1))
def signsL : List (List UInt8) := [[60, 62], [60, 61], [62, 61], [60], [62], [61], [43], [45], [42], [47], [38], [40], [41], [44], [58]]
def faultL : List UInt8 := [35, 82, 69, 70, 33]
/-- The token at the head: its kind, its text, its length. -/
def oneF (l : List UInt8) : Option (Nat × List UInt8 × Nat) :=
  if runB isDg l ≠ 0 then
    if [46].isPrefixOf (l.drop (runB isDg l)) then
      (if runB isDg (l.drop (runB isDg l + 1)) = 0 then none else some (1, l.take (runB isDg l + 1 + runB isDg (l.drop (runB isDg l + 1))), runB isDg l + 1 + runB isDg (l.drop (runB isDg l + 1))))
    else some (1, l.take (runB isDg l), runB isDg l)
  else if runB isLd l ≠ 0 then some (3, l.take (runB isLd l), runB isLd l)
  else if l.head? = some 34 then (quotedF l.tail).map (fun x => (2, x.1, x.2 + 1))
  else if faultL.isPrefixOf l then some (5, faultL, 5)
  else (signsL.find? (fun x => x.isPrefixOf l)).map (fun x => (4, x, x.length))
/-- The tokens of a suffix that begins at place p; or the place at which there is none. -/
def splitN : Nat → List UInt8 → Nat → Except Nat (List (Nat × List UInt8 × Nat))
  | _, [], _ => .ok []
  | 0, _ :: _, p => .error p
  | f + 1, c :: r, p => if c = 32 then splitN f r (p + 1) else
    match oneF (c :: r) with
    | none => .error p
    | some (k, x, n) => match splitN f ((c :: r).drop n) (p + n) with
      | .ok l => .ok ((k, x, p) :: l)
      | .error e => .error e
def splitF (l : List UInt8) (p : Nat) : Except Nat (List (Nat × List UInt8 × Nat)) := splitN l.length l p

theorem runB_le (p : UInt8 → Bool) (l : List UInt8) : runB p l ≤ l.length := List.takeWhile_prefix p |>.length_le
theorem quotedF_pos : ∀ {l : List UInt8} {x : List UInt8 × Nat}, quotedF l = some x → 1 ≤ x.2 ∧ x.2 ≤ l.length
  | [], _, h => by simp [quotedF] at h
  | [c], x, h => by
    unfold quotedF at h
    split at h
    · injection h with h; subst h; simp
    · cases h
  | c :: d :: r, x, h => by
    unfold quotedF at h
    split at h
    · split at h
      · rw [Option.map_eq_some_iff] at h
        obtain ⟨y, hy, rfl⟩ := h
        have := quotedF_pos hy
        simp; omega
      · injection h with h; subst h; simp
    · rw [Option.map_eq_some_iff] at h
      obtain ⟨y, hy, rfl⟩ := h
      have := quotedF_pos hy
      simp at this ⊢; omega
theorem prefix_len {x l : List UInt8} (h : x.isPrefixOf l = true) : x.length ≤ l.length := (List.isPrefixOf_iff_prefix.1 h).length_le
theorem signs_pos : ∀ x ∈ signsL, 1 ≤ x.length := by decide
theorem oneF_pos {l : List UInt8} {k n : Nat} {x : List UInt8} (h : oneF l = some (k, x, n)) : 1 ≤ n ∧ n ≤ l.length := by
  unfold oneF at h
  split at h
  · rename_i h0
    have h1 := runB_le isDg l
    split at h
    · split at h
      · cases h
      · injection h with h
        injection h with _ h
        injection h with _ h
        have h2 := runB_le isDg (l.drop (runB isDg l + 1))
        rw [List.length_drop] at h2
        rename_i h3
        omega
    · injection h with h
      injection h with _ h
      injection h with _ h
      omega
  · split at h
    · have h1 := runB_le isLd l
      injection h with h
      injection h with _ h
      injection h with _ h
      omega
    · split at h
      · rename_i hq
        rw [Option.map_eq_some_iff] at h
        obtain ⟨y, hy, e⟩ := h
        injection e with _ e
        injection e with _ e
        have := quotedF_pos hy
        cases l with
        | nil => simp at hq
        | cons c r => simp at this ⊢; omega
      · split at h
        · rename_i hf
          injection h with h
          injection h with _ h
          injection h with _ h
          have := prefix_len hf
          simp [faultL] at this
          omega
        · rw [Option.map_eq_some_iff] at h
          obtain ⟨y, hy, e⟩ := h
          injection e with _ e
          injection e with _ e
          have h1 := signs_pos y (List.mem_of_find?_eq_some hy)
          have h3 := List.find?_some hy
          have h2 : y.length ≤ l.length := prefix_len h3
          omega
/-- Fuel enough is fuel enough. -/
theorem splitN_fuel : ∀ (f : Nat) {l : List UInt8} (p : Nat), l.length ≤ f → splitN f l p = splitF l p := by
  intro f
  induction f using Nat.strongRecOn with
  | _ f ih =>
    intro l p hl
    cases l with
    | nil => unfold splitF; cases f <;> rfl
    | cons c r =>
      obtain ⟨g, rfl⟩ : ∃ g, f = g + 1 := ⟨f - 1, by simp at hl; omega⟩
      have hr : r.length ≤ g := by simpa using hl
      show splitN (g + 1) (c :: r) p = splitN (r.length + 1) (c :: r) p
      unfold splitN
      split
      · rw [ih g (by omega) (p + 1) hr]; rfl
      · cases ho : oneF (c :: r) with
        | none => rfl
        | some t =>
          obtain ⟨k, x, n⟩ := t
          have hp := oneF_pos ho
          have hd : ((c :: r).drop n).length ≤ r.length := by rw [List.length_drop]; simp; omega
          simp only
          rw [ih g (by omega) (p + n) (by omega)]
          by_cases hg : r.length < g + 1
          · rw [ih r.length hg (p + n) hd]
          · omega
theorem splitF_nil (p : Nat) : splitF [] p = .ok [] := rfl
theorem splitF_blank (r : List UInt8) (p : Nat) : splitF (32 :: r) p = splitF r (p + 1) := rfl
theorem splitF_none {c : UInt8} {r : List UInt8} {p : Nat} (hc : c ≠ 32) (h : oneF (c :: r) = none) : splitF (c :: r) p = .error p := by
  show splitN (r.length + 1) (c :: r) p = _
  unfold splitN
  rw [if_neg hc, h]
theorem splitF_some {c : UInt8} {r x : List UInt8} {k n p : Nat} (hc : c ≠ 32) (h : oneF (c :: r) = some (k, x, n)) :
    splitF (c :: r) p = match splitF ((c :: r).drop n) (p + n) with
      | .ok l => .ok ((k, x, p) :: l)
      | .error e => .error e := by
  show splitN (r.length + 1) (c :: r) p = _
  have hp := oneF_pos h
  have e : splitN r.length ((c :: r).drop n) (p + n) = splitF ((c :: r).drop n) (p + n) := splitN_fuel _ _ (by rw [List.length_drop]; simp; omega)
  rw [← e]
  conv => lhs; unfold splitN
  rw [if_neg hc, h]
/-- Not more tokens than bytes. -/
theorem splitN_len : ∀ (f : Nat) (l : List UInt8) (p : Nat) (t : List (Nat × List UInt8 × Nat)), splitN f l p = .ok t → t.length ≤ l.length
  | f, [], p, t, h => by
    have h2 : splitN f [] p = .ok [] := by cases f <;> rfl
    rw [h2] at h
    injection h with h; subst h; simp
  | 0, c :: r, p, t, h => by simp [splitN] at h
  | f + 1, c :: r, p, t, h => by
    unfold splitN at h
    split at h
    · have := splitN_len f r (p + 1) t h
      simp only [List.length_cons]; omega
    · cases ho : oneF (c :: r) with
      | none => rw [ho] at h; cases h
      | some x =>
        obtain ⟨k, x, n⟩ := x
        have hp := oneF_pos ho
        rw [ho] at h
        simp only at h
        cases hs : splitN f ((c :: r).drop n) (p + n) with
        | ok t2 =>
          have h2 := splitN_len f _ _ t2 hs
          rw [hs] at h
          injection h with h; subst h
          rw [List.length_drop] at h2
          rw [List.length_cons]
          omega
        | error e => rw [hs] at h; cases h
theorem splitF_len {l : List UInt8} {p : Nat} {t : List (Nat × List UInt8 × Nat)} (h : splitF l p = .ok t) : t.length ≤ l.length := splitN_len _ _ _ _ h
end Go.Proofs.YtlagjnlajkmmeaaDoor.Tok

namespace Go.Proofs.YtlagjnlajkmmeaaDoor.Tok

def escL (s : List UInt8) : List UInt8 := s.flatMap (fun c => if c = 34 then [34, 34] else [c])
/-- A text as a formula has it. -/
def quoteL (s : List UInt8) : List UInt8 := 34 :: (escL s ++ [34])
theorem quoted_esc : ∀ s : List UInt8, quotedF (escL s ++ [34]) = some (s, (escL s).length + 1)
  | [] => by simp [escL, quotedF]
  | c :: t => by
    have ih := quoted_esc t
    by_cases hc : c = 34
    · subst hc
      have e : escL (34 :: t) = 34 :: 34 :: escL t := rfl
      rw [e]
      show quotedF (34 :: 34 :: (escL t ++ [34])) = _
      simp [quotedF, ih]
    · have e : escL (c :: t) = c :: escL t := by simp [escL, hc]
      rw [e]
      obtain ⟨d, u, hd⟩ : ∃ d u, escL t ++ [34] = d :: u := by
        cases h : escL t ++ [34] with
        | nil => simp at h
        | cons d u => exact ⟨d, u, rfl⟩
      show quotedF (c :: (escL t ++ [34])) = _
      rw [hd] at ih ⊢
      simp [quotedF, hc, ih]
theorem one_quote (s : List UInt8) : oneF (quoteL s) = some (2, s, (quoteL s).length) := by
  have h1 : runB isDg (quoteL s) = 0 := by unfold runB quoteL; rw [List.takeWhile_cons, if_neg (by decide)]; rfl
  have h2 : runB isLd (quoteL s) = 0 := by unfold runB quoteL; rw [List.takeWhile_cons, if_neg (by decide)]; rfl
  unfold oneF
  rw [h1, h2, if_neg (by simp), if_neg (by simp)]
  have h3 : (quoteL s).head? = some 34 := rfl
  have h4 : (quoteL s).tail = escL s ++ [34] := rfl
  rw [if_pos h3, h4, quoted_esc]
  simp [quoteL]
theorem split_quote (s : List UInt8) : splitF (quoteL s) 0 = .ok [(2, s, 0)] := by
  have h := one_quote s
  have hd : (quoteL s).drop (quoteL s).length = [] := List.drop_length
  unfold quoteL at h hd ⊢
  rw [splitF_some (by decide) h, hd, splitF_nil]
theorem esc_len (s : List UInt8) : (escL s).length ≤ 2 * s.length := by
  induction s with
  | nil => simp [escL]
  | cons c t ih =>
    have e : escL (c :: t) = (if c = 34 then [34, 34] else [c]) ++ escL t := rfl
    rw [e, List.length_append, List.length_cons]
    split <;> simp <;> omega
theorem quote_len (s : List UInt8) : (quoteL s).length ≤ 2 * s.length + 2 := by
  have := esc_len s
  simp [quoteL]; omega
end Go.Proofs.YtlagjnlajkmmeaaDoor.Tok

namespace Go.Proofs.YtlagjnlajkmmeaaDoor.Tok

abbrev repA (s old new : List UInt8) : List UInt8 := Lib.replaceAll s old new
theorem repA_def {s old new : List UInt8} (hn : old ≠ new) : repA s old new = Lib.replaceK old new (Lib.count s old) s := by
  unfold repA Lib.replaceAll Lib.replace Lib.replaceNum
  rw [if_neg (by simpa using hn), if_pos (by left; decide)]
theorem repA_nil {old new : List UInt8} (hn : old ≠ new) (h0 : old ≠ []) : repA [] old new = [] := by
  rw [repA_def hn, Lib.count_miss]
  · rfl
  · unfold Lib.index
    rw [if_neg (by simpa using h0)]
theorem repA_hit {s old new : List UInt8} (hn : old ≠ new) (h0 : old ≠ []) (hp : old.isPrefixOf s = true) : repA s old new = new ++ repA (s.drop old.length) old new := by
  have hi : Lib.index s old = ((0 : Nat) : Int) := Lib.index_first (Nat.zero_le _) (by unfold Lib.occAt; rw [List.drop_zero]; exact hp) (fun j h => absurd h (Nat.not_lt_zero _))
  rw [repA_def hn, repA_def hn, Lib.count_hit h0 hi, Nat.add_comm 1, Lib.replaceK_hit _ _ _ _ _ hi]
  simp
theorem repA_miss {c : UInt8} {r old new : List UInt8} (hn : old ≠ new) (h0 : old ≠ []) (hp : old.isPrefixOf (c :: r) = false) : repA (c :: r) old new = c :: repA r old new := by
  rw [repA_def hn, repA_def hn]
  have hge := Lib.index_ge r old
  by_cases hm : Lib.index r old = -1
  · have hi : Lib.index (c :: r) old = -1 := by
      unfold Lib.index
      rw [if_neg (by simp [hp]), if_pos (by simpa using hm)]
    rw [Lib.count_miss hi, Lib.count_miss hm]
    rfl
  · obtain ⟨i, hi⟩ : ∃ i : Nat, Lib.index r old = i := ⟨(Lib.index r old).toNat, by omega⟩
    have hi2 : Lib.index (c :: r) old = ((i + 1 : Nat) : Int) := by
      unfold Lib.index
      rw [if_neg (by simp [hp]), if_neg (by simpa using hm), hi]
      omega
    rw [Lib.count_hit h0 hi2, Lib.count_hit h0 hi, Nat.add_comm 1, Nat.add_comm 1, Lib.replaceK_hit _ _ _ _ _ hi2, Lib.replaceK_hit _ _ _ _ _ hi]
    rw [show i + 1 + old.length = (i + old.length) + 1 from by omega]
    simp
theorem rep_esc : ∀ s : List UInt8, repA s [34] [34, 34] = escL s
  | [] => repA_nil (by decide) (by decide)
  | c :: t => by
    have ih := rep_esc t
    by_cases hc : c = 34
    · subst hc
      rw [repA_hit (by decide) (by decide) (by simp [List.isPrefixOf])]
      show [34, 34] ++ repA t [34] [34, 34] = _
      rw [ih]
      rfl
    · rw [repA_miss (by decide) (by decide) (by simp [List.isPrefixOf]; exact fun e => hc e.symm), ih]
      simp [escL, hc]
theorem rep_unq : ∀ (r x : List UInt8) (m : Nat), quotedF r = some (x, m) → repA (r.take (m - 1)) [34, 34] [34] = x
  | [], _, _, h => by simp [quotedF] at h
  | [c], x, m, h => by
    unfold quotedF at h
    split at h
    · simp only [Option.some.injEq, Prod.mk.injEq] at h
      obtain ⟨rfl, rfl⟩ := h
      exact repA_nil (by decide) (by decide)
    · cases h
  | c :: d :: r, x, m, h => by
    unfold quotedF at h
    split at h
    · rename_i hc
      subst hc
      split at h
      · rename_i hd
        subst hd
        rw [Option.map_eq_some_iff] at h
        obtain ⟨⟨y, k⟩, hy, e⟩ := h
        simp only [Prod.mk.injEq] at e
        obtain ⟨rfl, rfl⟩ := e
        have hp := quotedF_pos hy
        have ih := rep_unq r y k hy
        simp only at hp
        obtain ⟨j, rfl⟩ : ∃ j, k = j + 1 := ⟨k - 1, by omega⟩
        have e2 : (34 :: 34 :: r).take (j + 1 + 2 - 1) = 34 :: 34 :: r.take j := rfl
        rw [e2, repA_hit (by decide) (by decide) (by simp [List.isPrefixOf])]
        show [34] ++ repA (r.take j) [34, 34] [34] = _
        rw [show j + 1 - 1 = j from rfl] at ih
        rw [ih]
        rfl
      · simp only [Option.some.injEq, Prod.mk.injEq] at h
        obtain ⟨rfl, rfl⟩ := h
        exact repA_nil (by decide) (by decide)
    · rename_i hc
      rw [Option.map_eq_some_iff] at h
      obtain ⟨⟨y, k⟩, hy, e⟩ := h
      simp only [Prod.mk.injEq] at e
      obtain ⟨rfl, rfl⟩ := e
      have hp := quotedF_pos hy
      have ih := rep_unq (d :: r) y k hy
      simp only at hp
      obtain ⟨j, rfl⟩ : ∃ j, k = j + 1 := ⟨k - 1, by omega⟩
      have e2 : (c :: d :: r).take (j + 1 + 1 - 1) = c :: (d :: r).take j := rfl
      rw [show j + 1 - 1 = j from rfl] at ih
      rw [e2, repA_miss (by decide) (by decide) (by simp [List.isPrefixOf]; intro e; exact absurd e.symm hc), ih]
end Go.Proofs.YtlagjnlajkmmeaaDoor.Tok
