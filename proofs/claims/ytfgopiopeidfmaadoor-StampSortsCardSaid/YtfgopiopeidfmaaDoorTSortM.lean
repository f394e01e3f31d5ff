/-
A sorted permutation, its doubles struck, is the ascending list with the same members. Of no function of the program.
-/
import Derived.Test.YtfgopiopeidfmaaDoorSMath
import Derived.Test.YtfgopiopeidfmaaDoorSOrders
import Derived.Lib.SlicesCompact
import Derived.Sort.Statements
namespace Go.Proofs.YtfgopiopeidfmaaDoor
open Go.RowKit Go.Lib

abbrev cfI (x y : Nat × Int) : Int := cmpI x.1 x.2 y.1 y.2
theorem lt_cfI (x y : Nat × Int) : decide (cfI x y < 0) = lessX x y := by
  unfold cfI cmpI lessX
  by_cases h : lessB x.1 x.2 y.1 y.2 = true
  · rw [if_pos h, h]; rfl
  · rw [if_neg h]
    have : lessB x.1 x.2 y.1 y.2 = false := by simpa using h
    rw [this]
    split <;> rfl
theorem swoI : Go.Sort.SWO lessX where
  irrefl x := by simpa using lessX_irrefl x
  trans x y z h1 h2 := lessX_trans h1 h2
  ntrans x y z h1 h2 := by
    have a : ¬ lessX x y = true := by simp [h1]
    have b : ¬ lessX y z = true := by simp [h2]
    rw [lessX_iff] at a b
    have c : ¬ lessX x z = true := by rw [lessX_iff]; omega
    simpa using c
theorem sorted_le {d : Array (Nat × Int)} (hs : Go.Sort.SortedIn lessX 0 d.size d) {i j : Nat} (hij : i ≤ j) (hj : j < d.size) : ¬ lessX d[j]! d[i]! = true := by
  rcases Nat.lt_or_ge i j with h | h
  · have := hs i j (Nat.zero_le _) h hj
    simp [this]
  · obtain rfl : i = j := by omega
    exact lessX_irrefl _
theorem compact_asc {d : Array (Nat × Int)} (hs : Go.Sort.SortedIn lessX 0 d.size d) : ∀ m, m ≤ d.size → Asc (compactUpTo d m) ∧ ∀ x ∈ compactUpTo d m, ∃ j, j < m ∧ x = d[j]!
  | 0, _ => by simp [compactUpTo]
  | m + 1, hm => by
    obtain ⟨h1, h2⟩ := compact_asc hs m (by omega)
    rw [compactUpTo_succ]
    by_cases hk : keeps d m = true
    · rw [if_pos hk]
      refine ⟨List.pairwise_append.2 ⟨h1, List.pairwise_singleton _ _, fun x hx y hy => ?_⟩, fun x hx => ?_⟩
      · obtain rfl : y = d[m]! := by simpa using hy
        obtain ⟨j, hj, rfl⟩ := h2 x hx
        refine lessX_total (sorted_le hs (Nat.le_of_lt hj) (by omega)) (fun e => ?_)
        have hk' : m = 0 ∨ d[m]! ≠ d[m - 1]! := by simpa [keeps] using hk
        rcases hk' with h0 | hne
        · omega
        · have a := sorted_le hs (i := j) (j := m - 1) (by omega) (by omega)
          have b := sorted_le hs (i := m - 1) (j := m) (by omega) (by omega)
          rw [e] at b
          by_cases q : d[m - 1]! = d[j]!
          · exact hne (by rw [e, q])
          · exact a (lessX_total b (fun z => q z.symm))
      · rcases List.mem_append.1 hx with h | h
        · obtain ⟨j, hj, e⟩ := h2 x h
          exact ⟨j, by omega, e⟩
        · exact ⟨m, by omega, by simpa using h⟩
    · rw [if_neg hk, List.append_nil]
      exact ⟨h1, fun x hx => by obtain ⟨j, hj, e⟩ := h2 x hx; exact ⟨j, by omega, e⟩⟩
theorem compact_has {d : Array (Nat × Int)} : ∀ m, m ≤ d.size → ∀ j, j < m → d[j]! ∈ compactUpTo d m
  | 0, _, j, hj => by omega
  | m + 1, hm, j, hj => by
    rw [compactUpTo_succ]
    rcases Nat.lt_or_ge j m with h | h
    · exact List.mem_append_left _ (compact_has m (by omega) j h)
    · obtain rfl : j = m := by omega
      by_cases hk : keeps d j = true
      · rw [if_pos hk]; exact List.mem_append_right _ (by simp)
      · rw [if_neg hk, List.append_nil]
        have hk' : ¬ (j = 0 ∨ d[j]! ≠ d[j - 1]!) := by simpa [keeps] using hk
        have h0 : j ≠ 0 := fun e => hk' (.inl e)
        have e : d[j]! = d[j - 1]! := Classical.byContradiction fun h => hk' (.inr h)
        rw [e]
        exact compact_has j (by omega) (j - 1) (by omega)
theorem perm_mem {l : List (Nat × Int)} {d' : Array (Nat × Int)} (hp : Go.Sort.PermIn 0 l.toArray.size l.toArray d') (x : Nat × Int) : x ∈ d'.toList ↔ x ∈ l := by
  obtain ⟨h1, _, h3⟩ := hp
  have e1 : (d'.extract 0 l.toArray.size).toList = d'.toList := by rw [← h1]; simp
  have e2 : (l.toArray.extract 0 l.toArray.size).toList = l := by simp
  rw [e1, e2] at h3
  exact h3.mem_iff
/-- The sorted row, its doubles struck. -/
theorem compact_sorted {l : List (Nat × Int)} {d' : Array (Nat × Int)} (hp : Go.Sort.PermIn 0 l.toArray.size l.toArray d') (hs : Go.Sort.SortedIn lessX 0 l.toArray.size d') : compactUpTo d' d'.size = sortedI l := by
  have hz : d'.size = l.toArray.size := hp.1
  rw [← hz] at hs
  obtain ⟨h1, h2⟩ := compact_asc hs d'.size (Nat.le_refl _)
  refine sortedI_of h1 (fun x => ⟨fun hx => ?_, fun hx => ?_⟩)
  · obtain ⟨j, hj, rfl⟩ := h2 x hx
    exact (perm_mem hp _).1 (by rw [getElem!_pos d' j hj]; exact Array.getElem_mem_toList hj)
  · have hx' := (perm_mem hp x).2 hx
    obtain ⟨j, hj, rfl⟩ := List.getElem_of_mem hx'
    have := compact_has d'.size (Nat.le_refl _) j (by simpa using hj)
    rw [getElem!_pos d' j (by simpa using hj)] at this
    simpa using this
theorem compact_len {l : List (Nat × Int)} (d : Array (Nat × Int)) : (compactUpTo d d.size).length ≤ d.size := by
  unfold compactUpTo
  rw [List.length_map]
  exact Nat.le_trans (List.length_filter_le _ _) (by simp)
end Go.Proofs.YtfgopiopeidfmaaDoor
