/-
A number's text is cut into its two parts' texts. No program in it.
-/
import Derived.Test.YtkppkojpdhgicaaDoorGSplit
namespace Go.Proofs.YtkppkojpdhgicaaDoor
open Go.RowKit

theorem noSign_of {l : List UInt8} (h : ∀ c ∈ l, isDig c = true) : NoSign l 0 := fun j b _ hb hs => by
  have := not_sign (h b (List.mem_of_getElem? hb))
  rcases hs with rfl | rfl
  · exact this.2.1 rfl
  · exact this.1 rfl
theorem ascii_of {l : List UInt8} (h : ∀ c ∈ l, c.toNat < 128) : Ascii l := fun _ b hb => h b (List.mem_of_getElem? hb)
theorem dig_ascii {c : UInt8} (h : isDig c = true) : c.toNat < 128 := by
  have := of_decide_eq_true h; omega

theorem cutA {P S : List UInt8} {c : UInt8} {k : Nat} (hc : isSign c) (hS : NoSign S 0) (h : LastS (P ++ c :: S) (k : Int) ∨ (k = 0 ∧ LastS (P ++ c :: S) (-1))) : k = P.length := by
  have hat : (P ++ c :: S)[P.length]? = some c := by simp
  have hno : ∀ j b, P.length < j → (P ++ c :: S)[j]? = some b → ¬ isSign b := fun j b hj hb => by
    rw [List.getElem?_append_right (by omega)] at hb
    obtain ⟨i, hi⟩ : ∃ i, j - P.length = i + 1 := ⟨j - P.length - 1, by omega⟩
    rw [hi, List.getElem?_cons_succ] at hb
    exact hS i b (by omega) hb
  rcases h with h | ⟨_, h⟩
  · rcases h with ⟨h1, _⟩ | ⟨i, h1, ⟨b, h2, h3⟩, h4⟩
    · omega
    · obtain rfl : k = i := by omega
      rcases Nat.lt_trichotomy k P.length with h' | h' | h'
      · exact absurd hc (h4 P.length c (by omega) hat)
      · exact h'
      · exact absurd h3 (hno k b h' h2)
  · rcases h with ⟨_, h⟩ | ⟨i, h1, _⟩
    · exact absurd hc (h P.length c (by omega) hat)
    · omega
theorem cutB {S : List UInt8} {k : Nat} (hS : NoSign S 0) (h : LastS S (k : Int) ∨ (k = 0 ∧ LastS S (-1))) : k = 0 := by
  rcases h with h | ⟨h, _⟩
  · rcases h with ⟨h1, _⟩ | ⟨i, h1, ⟨b, h2, h3⟩, _⟩
    · omega
    · exact absurd h3 (hS i b (by omega) h2)
  · exact h

/-- The tail, ahead of its i. -/
def tl (b : Int) : List UInt8 := if b = 1 then [] else if b = -1 then [45] else Lib.itoa b
theorem tail_tl (b : Int) : tailL b = tl b ++ [105] := by
  unfold tailL tl
  split
  · rfl
  · split
    · rfl
    · rfl
theorem itoa_pos {b : Int} (h : 0 ≤ b) : Lib.itoa b = Lib.decDigits b.toNat := by unfold Lib.itoa; rw [if_neg (by omega)]
theorem itoa_neg {b : Int} (h : b < 0) : Lib.itoa b = 45 :: Lib.decDigits b.natAbs := by unfold Lib.itoa; rw [if_pos h]
theorem tl_pos {b : Int} (h : 0 < b) : ∀ c ∈ tl b, isDig c = true := by
  unfold tl
  split
  · intro c hc; cases hc
  · rw [if_neg (by omega), itoa_pos (by omega)]
    exact (dec_all _).1
theorem tl_neg {b : Int} (h : b < 0) : ∃ r, tl b = 45 :: r ∧ ∀ c ∈ r, isDig c = true := by
  unfold tl
  rw [if_neg (by omega)]
  split
  · exact ⟨[], rfl, by intro c hc; cases hc⟩
  · rw [itoa_neg h]; exact ⟨_, rfl, (dec_all _).1⟩
theorem itoa_ne (b : Int) : Lib.itoa b ≠ [] ∧ Lib.itoa b ≠ [43] ∧ Lib.itoa b ≠ [45] := by
  rcases Int.lt_or_le b 0 with h | h
  · rw [itoa_neg h]
    have := (dec_all b.natAbs).2.2
    refine ⟨by simp, by simp, ?_⟩
    intro e
    exact this (List.cons.inj e).2
  · rw [itoa_pos h]
    obtain ⟨c, r, he, hc⟩ := dec_head b.toNat
    obtain ⟨s1, s2, _⟩ := not_sign hc
    rw [he]
    refine ⟨by simp, ?_, ?_⟩ <;> intro e <;> have := (List.cons.inj e).1
    · exact s2 this
    · exact s1 this
theorem fix2_itoa (b : Int) : fix2 (Lib.itoa b) = Lib.itoa b := by
  obtain ⟨h1, h2, h3⟩ := itoa_ne b
  unfold fix2
  rw [if_neg (by rintro (h | h | h); exact h1 h; exact h2 h; exact h3 h)]
theorem fix_tl (b : Int) (h : -1048576 ≤ b ∧ b ≤ 1048576) : Lib.atoiAll (fix2 (tl b)) = .ok b := by
  unfold tl
  split
  · rename_i e; subst e; decide
  · split
    · rename_i e; subst e; decide
    · rw [fix2_itoa]; exact atoi_itoa b h
theorem fix_ptl (b : Int) (h0 : 0 < b) (h : b ≤ 1048576) : Lib.atoiAll (fix2 (43 :: tl b)) = .ok b := by
  unfold tl
  split
  · rename_i e; subst e; decide
  · rw [if_neg (by omega), itoa_pos (by omega)]
    have hne := (dec_all b.toNat).2.2
    have e : fix2 (43 :: Lib.decDigits b.toNat) = 43 :: Lib.decDigits b.toNat := by
      unfold fix2
      rw [if_neg]
      rintro (h | h | h)
      · cases h
      · exact hne (List.cons.inj h).2
      · have := (List.cons.inj h).1; revert this; decide
    rw [e, atoi_plus _ (by omega)]
    congr 1; omega

theorem suffix_snoc (X : List UInt8) : Lib.hasSuffix (X ++ [105]) [105] = true ∧ Lib.trimSuffix (X ++ [105]) [105] = X := by
  have h : Lib.hasSuffix (X ++ [105]) [105] = true := by
    unfold Lib.hasSuffix; rw [List.isSuffixOf_iff_suffix]; exact List.suffix_append _ _
  refine ⟨h, ?_⟩
  unfold Lib.trimSuffix
  rw [if_pos h]; simp
theorem suffix_digit (n : Int) : Lib.hasSuffix (Lib.itoa n) [105] = false := by
  cases h : Lib.hasSuffix (Lib.itoa n) [105] with
  | false => rfl
  | true =>
    exfalso
    unfold Lib.hasSuffix at h
    rw [List.isSuffixOf_iff_suffix] at h
    have hm : (105 : UInt8) ∈ Lib.itoa n := h.subset (by simp)
    rcases Int.lt_or_le n 0 with h' | h'
    · rw [itoa_neg h'] at hm
      rcases List.mem_cons.1 hm with hm | hm
      · revert hm; decide
      · exact (not_sign ((dec_all _).1 _ hm)).2.2 rfl
    · rw [itoa_pos h'] at hm
      exact (not_sign ((dec_all _).1 _ hm)).2.2 rfl
theorem itoa_ascii (n : Int) : ∀ c ∈ Lib.itoa n, c.toNat < 128 := by
  intro c hc
  rcases Int.lt_or_le n 0 with h' | h'
  · rw [itoa_neg h'] at hc
    rcases List.mem_cons.1 hc with rfl | hc
    · decide
    · exact dig_ascii ((dec_all _).1 _ hc)
  · rw [itoa_pos h'] at hc
    exact dig_ascii ((dec_all _).1 _ hc)
theorem tl_ascii (b : Int) : ∀ c ∈ tl b, c.toNat < 128 := by
  intro c hc
  unfold tl at hc
  split at hc
  · cases hc
  · split at hc
    · rw [List.mem_singleton.1 hc]; decide
    · exact itoa_ascii b c hc

theorem fix1_itoa (a : Int) : fix1 (Lib.itoa a) = Lib.itoa a := by unfold fix1; rw [if_neg (itoa_ne a).1]

/-- Of a number's text the two parts are read as the number's parts. -/
theorem split_text (a b : Int) (h : Rg a b) (f g : List UInt8) (hs : SplitR (textL a b) f g) : Lib.atoiAll f = .ok a ∧ Lib.atoiAll g = .ok b := by
  obtain ⟨ha, hb⟩ := h
  by_cases hb0 : b = 0
  · have e : textL a b = Lib.itoa a := by unfold textL; rw [if_pos hb0]
    rw [e] at hs
    rcases hs with ⟨_, rfl, rfl⟩ | ⟨h, _⟩
    · exact ⟨atoi_itoa a ha, by rw [hb0]; decide⟩
    · rw [suffix_digit] at h; cases h
  -- the text is X and an i
  have key : ∀ X : List UInt8, textL a b = X ++ [105] → Ascii X → (∃ k : Nat, k ≤ X.length ∧ f = fix1 (X.take k) ∧ g = fix2 (X.drop k) ∧ (LastS X (k : Int) ∨ (k = 0 ∧ LastS X (-1)))) := fun X hX hA => by
    rw [hX] at hs
    obtain ⟨s1, s2⟩ := suffix_snoc X
    rcases hs with ⟨h, _⟩ | ⟨_, k, h1, h2, h3, h4⟩
    · rw [s1] at h; cases h
    · rw [s2] at h1 h2 h3 h4
      exact ⟨k, h1, h2, h3, h4 hA⟩
  by_cases ha0 : a = 0
  · have e : textL a b = tl b ++ [105] := by unfold textL; rw [if_neg hb0, if_pos ha0, tail_tl]
    obtain ⟨k, _, hf, hg, hk⟩ := key _ e (ascii_of (tl_ascii b))
    have hk0 : k = 0 := by
      rcases Int.lt_or_le b 0 with h' | h'
      · obtain ⟨r, hr, hd⟩ := tl_neg h'
        rw [hr] at hk
        exact cutA (P := []) (.inr rfl) (noSign_of hd) hk
      · exact cutB (noSign_of (tl_pos (by omega))) hk
    subst hk0
    refine ⟨?_, ?_⟩
    · rw [hf, ha0, List.take_zero]; decide
    · rw [hg, List.drop_zero]; exact fix_tl b hb
  · by_cases hp : 0 < b
    · have e : textL a b = (Lib.itoa a ++ 43 :: tl b) ++ [105] := by
        unfold textL; rw [if_neg hb0, if_neg ha0, if_pos hp, tail_tl]; simp
      obtain ⟨k, _, hf, hg, hk⟩ := key _ e (ascii_of fun c hc => by
        rcases List.mem_append.1 hc with hc | hc
        · exact itoa_ascii a c hc
        · rcases List.mem_cons.1 hc with rfl | hc
          · decide
          · exact tl_ascii b c hc)
      have hk0 := cutA (.inl rfl) (noSign_of (tl_pos hp)) hk
      rw [hk0] at hf hg
      rw [List.take_left, fix1_itoa] at hf
      rw [List.drop_left] at hg
      rw [hf, hg]
      exact ⟨atoi_itoa a ha, fix_ptl b hp hb.2⟩
    · have e : textL a b = (Lib.itoa a ++ tl b) ++ [105] := by
        unfold textL; rw [if_neg hb0, if_neg ha0, if_neg hp, tail_tl]; simp
      obtain ⟨k, _, hf, hg, hk⟩ := key _ e (ascii_of fun c hc => by
        rcases List.mem_append.1 hc with hc | hc
        · exact itoa_ascii a c hc
        · exact tl_ascii b c hc)
      obtain ⟨r, hr, hd⟩ := tl_neg (show b < 0 by omega)
      rw [hr] at hk
      have hk0 := cutA (.inr rfl) (noSign_of hd) hk
      rw [hk0] at hf hg
      rw [List.take_left, fix1_itoa] at hf
      rw [List.drop_left] at hg
      rw [hf, hg]
      exact ⟨atoi_itoa a ha, fix_tl b hb⟩
end Go.Proofs.YtkppkojpdhgicaaDoor
