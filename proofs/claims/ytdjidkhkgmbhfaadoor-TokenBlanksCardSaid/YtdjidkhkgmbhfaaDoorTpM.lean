/-
What the library's ReplaceAll makes of quotes: plain maths. Of no function of the program.
-/
import Derived.Test.YtdjidkhkgmbhfaaDoorToQM
import Derived.Lib.Replace
import Derived.Lib.IndexLaws
namespace Go.Proofs.YtdjidkhkgmbhfaaDoor.Tok

abbrev repA (s old new : List UInt8) : List UInt8 := Lib.replaceAll s old new
theorem repA_def {s old new : List UInt8} (hn : old ≠ new) : repA s old new = Lib.replaceK old new (Lib.count s old) s := by
  unfold repA Lib.replaceAll Lib.replace Lib.replaceNum
  rw [if_neg (by simpa using hn), if_pos (by left; decide)]
theorem repA_nil {old new : List UInt8} (hn : old ≠ new) (h0 : old ≠ []) : repA [] old new = [] := by
  rw [repA_def hn, Lib.count_miss]
  · rfl
  · unfold Lib.index
    rw [if_neg (by simpa using h0)]
theorem repA_hit {s old new : List UInt8} (hn : old ≠ new) (h0 : old ≠ []) (hp : old.isPrefixOf s = true) : repA s old new = new ++ repA (s.drop old.length) old new := by
  have hi : Lib.index s old = ((0 : Nat) : Int) := Lib.index_first (Nat.zero_le _) (by unfold Lib.occAt; rw [List.drop_zero]; exact hp) (fun j h => absurd h (Nat.not_lt_zero _))
  rw [repA_def hn, repA_def hn, Lib.count_hit h0 hi, Nat.add_comm 1, Lib.replaceK_hit _ _ _ _ _ hi]
  simp
theorem repA_miss {c : UInt8} {r old new : List UInt8} (hn : old ≠ new) (h0 : old ≠ []) (hp : old.isPrefixOf (c :: r) = false) : repA (c :: r) old new = c :: repA r old new := by
  rw [repA_def hn, repA_def hn]
  have hge := Lib.index_ge r old
  by_cases hm : Lib.index r old = -1
  · have hi : Lib.index (c :: r) old = -1 := by
      unfold Lib.index
      rw [if_neg (by simp [hp]), if_pos (by simpa using hm)]
    rw [Lib.count_miss hi, Lib.count_miss hm]
    rfl
  · obtain ⟨i, hi⟩ : ∃ i : Nat, Lib.index r old = i := ⟨(Lib.index r old).toNat, by omega⟩
    have hi2 : Lib.index (c :: r) old = ((i + 1 : Nat) : Int) := by
      unfold Lib.index
      rw [if_neg (by simp [hp]), if_neg (by simpa using hm), hi]
      omega
    rw [Lib.count_hit h0 hi2, Lib.count_hit h0 hi, Nat.add_comm 1, Nat.add_comm 1, Lib.replaceK_hit _ _ _ _ _ hi2, Lib.replaceK_hit _ _ _ _ _ hi]
    rw [show i + 1 + old.length = (i + old.length) + 1 from by omega]
    simp
theorem rep_esc : ∀ s : List UInt8, repA s [34] [34, 34] = escL s
  | [] => repA_nil (by decide) (by decide)
  | c :: t => by
    have ih := rep_esc t
    by_cases hc : c = 34
    · subst hc
      rw [repA_hit (by decide) (by decide) (by simp [List.isPrefixOf])]
      show [34, 34] ++ repA t [34] [34, 34] = _
      rw [ih]
      rfl
    · rw [repA_miss (by decide) (by decide) (by simp [List.isPrefixOf]; exact fun e => hc e.symm), ih]
      simp [escL, hc]
theorem rep_unq : ∀ (r x : List UInt8) (m : Nat), quotedF r = some (x, m) → repA (r.take (m - 1)) [34, 34] [34] = x
  | [], _, _, h => by simp [quotedF] at h
  | [c], x, m, h => by
    unfold quotedF at h
    split at h
    · simp only [Option.some.injEq, Prod.mk.injEq] at h
      obtain ⟨rfl, rfl⟩ := h
      exact repA_nil (by decide) (by decide)
    · cases h
  | c :: d :: r, x, m, h => by
    unfold quotedF at h
    split at h
    · rename_i hc
      subst hc
      split at h
      · rename_i hd
        subst hd
        rw [Option.map_eq_some_iff] at h
        obtain ⟨⟨y, k⟩, hy, e⟩ := h
        simp only [Prod.mk.injEq] at e
        obtain ⟨rfl, rfl⟩ := e
        have hp := quotedF_pos hy
        have ih := rep_unq r y k hy
        simp only at hp
        obtain ⟨j, rfl⟩ : ∃ j, k = j + 1 := ⟨k - 1, by omega⟩
        have e2 : (34 :: 34 :: r).take (j + 1 + 2 - 1) = 34 :: 34 :: r.take j := rfl
        rw [e2, repA_hit (by decide) (by decide) (by simp [List.isPrefixOf])]
        show [34] ++ repA (r.take j) [34, 34] [34] = _
        rw [show j + 1 - 1 = j from rfl] at ih
        rw [ih]
        rfl
      · simp only [Option.some.injEq, Prod.mk.injEq] at h
        obtain ⟨rfl, rfl⟩ := h
        exact repA_nil (by decide) (by decide)
    · rename_i hc
      rw [Option.map_eq_some_iff] at h
      obtain ⟨⟨y, k⟩, hy, e⟩ := h
      simp only [Prod.mk.injEq] at e
      obtain ⟨rfl, rfl⟩ := e
      have hp := quotedF_pos hy
      have ih := rep_unq (d :: r) y k hy
      simp only at hp
      obtain ⟨j, rfl⟩ : ∃ j, k = j + 1 := ⟨k - 1, by omega⟩
      have e2 : (c :: d :: r).take (j + 1 + 1 - 1) = c :: (d :: r).take j := rfl
      rw [show j + 1 - 1 = j from rfl] at ih
      rw [e2, repA_miss (by decide) (by decide) (by simp [List.isPrefixOf]; intro e; exact absurd e.symm hc), ih]
end Go.Proofs.YtdjidkhkgmbhfaaDoor.Tok
