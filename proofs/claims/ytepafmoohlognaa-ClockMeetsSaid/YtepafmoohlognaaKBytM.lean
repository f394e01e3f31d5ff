/-
Clocks as bytes: what stands at the end of a clock (maths).
-/
import Derived.Test.YtepafmoohlognaaKTake
import Derived.Test.YtepafmoohlognaaKPut
import Derived.Test.YtepafmoohlognaaKMSt
namespace Go.Proofs.Ytepafmoohlognaa
open Go.RowKit
open Wire (numL valL takeL runL bytesL)

theorem cut_last (F : List Nat) : (cutF F).getLast? ≠ some 0 := by
  have key : ∀ l : List Nat, (l.dropWhile (· == 0)).head? ≠ some 0 := by
    intro l
    induction l with
    | nil => simp
    | cons x l ih =>
      rw [List.dropWhile_cons]
      split
      · exact ih
      · rename_i h
        intro e
        simp only [List.head?_cons, Option.some.injEq] at e
        exact h (by simp [e])
  have h2 : (cutF F).reverse = F.reverse.dropWhile (· == 0) := by
    have hd : F.reverse = List.replicate (F.length - cutN F) 0 ++ (cutF F).reverse := by
      have := drop_cut F
      rw [← List.reverse_replicate, ← this, ← List.reverse_append]
      unfold cutF
      rw [List.take_append_drop]
    have hl : (F.reverse.dropWhile (· == 0)).length = cutN F := rfl
    have hs := List.dropWhile_suffix (l := F.reverse) (· == 0)
    have hcl : (cutF F).reverse.length = cutN F := by
      unfold cutF
      rw [List.length_reverse, List.length_take, Nat.min_eq_left (cutN_le F)]
    exact ((List.suffix_of_suffix_length_le ⟨_, hd.symm⟩ hs (by omega)).eq_of_length (by omega))
  have := key F.reverse
  rw [← h2, List.head?_reverse] at this
  exact this
theorem cut_pad {ys : List Nat} (hl : ys.length ≤ 64) (h : ys.getLast? ≠ some 0) : cutF (padF ys) = ys := by
  have hc : cutN (padF ys) = ys.length := by
    refine cutN_of (by rw [padF_len hl]; exact hl) ?_ ?_
    · intro j x hj hx
      unfold padF at hx
      rw [List.getElem?_append_right hj, List.getElem?_replicate] at hx
      split at hx
      · exact (Option.some.inj hx).symm
      · cases hx
    · rcases Nat.eq_zero_or_pos ys.length with h0 | h0
      · exact .inl h0
      · refine .inr ?_
        obtain ⟨x, hx⟩ : ∃ x, ys[ys.length - 1]? = some x := ⟨_, List.getElem?_eq_getElem (by omega)⟩
        refine ⟨x, padF_get hx, fun e => h ?_⟩
        rw [List.getLast?_eq_getElem?, hx, e]
  unfold cutF
  rw [hc]
  unfold padF
  rw [List.take_left]
theorem clkT_some {b ys : List Nat} {k : Nat} (h : clkT b = some (ys, k)) : ys.length ≤ 64 ∧ 0 < k ∧ k ≤ b.length ∧ ys.getLast? ≠ some 0 ∧ ∀ x ∈ ys, x < 18446744073709551616 := by
  unfold clkT at h
  split at h
  · cases h
  · rename_i hc
    cases ht : takeNums (takeL b).1 (b.drop (takeL b).2) with
    | none => rw [ht] at h; cases h
    | some p =>
      obtain ⟨xs, m⟩ := p
      rw [ht] at h
      simp only at h
      obtain ⟨h1, h2, h3⟩ := takeNums_len ht
      split at h
      · cases h
      · rename_i hz
        simp only [Option.some.injEq, Prod.mk.injEq] at h
        obtain ⟨rfl, rfl⟩ := h
        rw [List.length_drop] at h2
        have hle : (takeL b).2 ≤ b.length := (Wire.takeL_le b).1
        exact ⟨by omega, by omega, by omega, hz, h3⟩
theorem clkL_len {ns : List Nat} (h : FitC ns) : (clkL ns).length ≤ 700 := by
  unfold clkL
  have h1 := Wire.numL_length_10 (show ns.length < 18446744073709551616 by have := h.1; omega)
  have h2 := numsL_len h.2
  have := h.1
  rw [List.length_append]
  omega
theorem clkL_bytes {ns : List Nat} : ∀ x ∈ clkL ns, x < 256 := by
  intro x hx
  unfold clkL at hx
  rcases List.mem_append.1 hx with h | h
  · exact Wire.numL_bytes _ x h
  · unfold numsL at h
    obtain ⟨y, _, hy⟩ := List.mem_flatMap.1 h
    exact Wire.numL_bytes _ x hy
theorem cutpad_fit {ns : List Nat} (h : FitC ns) : FitC (cutF (padF ns)) := cut_fit (padF_len h.1) (pad_fit h)
theorem clkT_put {ns : List Nat} (h : FitC ns) : clkT (clkL (cutF (padF ns))) = some (cutF (padF ns), (clkL (cutF (padF ns))).length) := by
  have h2 := cutpad_fit h
  have := clkT_clkL (r := []) h2.1 h2.2 (cut_last _)
  rwa [List.append_nil] at this
end Go.Proofs.Ytepafmoohlognaa
