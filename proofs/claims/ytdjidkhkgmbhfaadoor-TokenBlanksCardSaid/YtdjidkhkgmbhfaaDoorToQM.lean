/-
A quoted text is one token. Of no function of the program.
-/
import Derived.Test.YtdjidkhkgmbhfaaDoorToM
namespace Go.Proofs.YtdjidkhkgmbhfaaDoor.Tok

def escL (s : List UInt8) : List UInt8 := s.flatMap (fun c => if c = 34 then [34, 34] else [c])
/-- A text as a formula has it. -/
def quoteL (s : List UInt8) : List UInt8 := 34 :: (escL s ++ [34])
theorem quoted_esc : ∀ s : List UInt8, quotedF (escL s ++ [34]) = some (s, (escL s).length + 1)
  | [] => by simp [escL, quotedF]
  | c :: t => by
    have ih := quoted_esc t
    by_cases hc : c = 34
    · subst hc
      have e : escL (34 :: t) = 34 :: 34 :: escL t := rfl
      rw [e]
      show quotedF (34 :: 34 :: (escL t ++ [34])) = _
      simp [quotedF, ih]
    · have e : escL (c :: t) = c :: escL t := by simp [escL, hc]
      rw [e]
      obtain ⟨d, u, hd⟩ : ∃ d u, escL t ++ [34] = d :: u := by
        cases h : escL t ++ [34] with
        | nil => simp at h
        | cons d u => exact ⟨d, u, rfl⟩
      show quotedF (c :: (escL t ++ [34])) = _
      rw [hd] at ih ⊢
      simp [quotedF, hc, ih]
theorem one_quote (s : List UInt8) : oneF (quoteL s) = some (2, s, (quoteL s).length) := by
  have h1 : runB isDg (quoteL s) = 0 := by unfold runB quoteL; rw [List.takeWhile_cons, if_neg (by decide)]; rfl
  have h2 : runB isLd (quoteL s) = 0 := by unfold runB quoteL; rw [List.takeWhile_cons, if_neg (by decide)]; rfl
  unfold oneF
  rw [h1, h2, if_neg (by simp), if_neg (by simp)]
  have h3 : (quoteL s).head? = some 34 := rfl
  have h4 : (quoteL s).tail = escL s ++ [34] := rfl
  rw [if_pos h3, h4, quoted_esc]
  simp [quoteL]
theorem split_quote (s : List UInt8) : splitF (quoteL s) 0 = .ok [(2, s, 0)] := by
  have h := one_quote s
  have hd : (quoteL s).drop (quoteL s).length = [] := List.drop_length
  unfold quoteL at h hd ⊢
  rw [splitF_some (by decide) h, hd, splitF_nil]
theorem esc_len (s : List UInt8) : (escL s).length ≤ 2 * s.length := by
  induction s with
  | nil => simp [escL]
  | cons c t ih =>
    have e : escL (c :: t) = (if c = 34 then [34, 34] else [c]) ++ escL t := rfl
    rw [e, List.length_append, List.length_cons]
    split <;> simp <;> omega
theorem quote_len (s : List UInt8) : (quoteL s).length ≤ 2 * s.length + 2 := by
  have := esc_len s
  simp [quoteL]; omega
end Go.Proofs.YtdjidkhkgmbhfaaDoor.Tok
