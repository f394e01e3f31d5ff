/-
Lists of stamps in ascending order, each once: there is one with given members. Of no function of the program.
-/
import Derived.Test.YtfgopiopeidfmaaDoorSSorts
namespace Go.Proofs.YtfgopiopeidfmaaDoor
open Go.RowKit

theorem lessX_iff {x y : Nat × Int} : lessX x y = true ↔ (x.1 < y.1 ∨ (x.1 = y.1 ∧ x.2 < y.2)) := by
  unfold lessX lessB
  split
  · rename_i h; simp [h]
  · rename_i h; simp [h]
theorem lessX_irrefl (x : Nat × Int) : ¬ lessX x x = true := by rw [lessX_iff]; omega
theorem lessX_trans {x y z : Nat × Int} (h : lessX x y = true) (k : lessX y z = true) : lessX x z = true := by
  rw [lessX_iff] at h k ⊢; omega
theorem lessX_total {x y : Nat × Int} (h : ¬ lessX x y = true) (hne : x ≠ y) : lessX y x = true := by
  rw [lessX_iff] at h ⊢
  have : ¬ (x.1 = y.1 ∧ x.2 = y.2) := fun e => hne (Prod.ext e.1 e.2)
  omega
abbrev Asc (l : List (Nat × Int)) : Prop := l.Pairwise (fun x y => lessX x y = true)

theorem asc_unique : ∀ {l m : List (Nat × Int)}, Asc l → Asc m → (∀ x, x ∈ l ↔ x ∈ m) → l = m
  | [], [], _, _, _ => rfl
  | [], y :: m, _, _, h => absurd ((h y).2 List.mem_cons_self) (by simp)
  | x :: l, [], _, _, h => absurd ((h x).1 List.mem_cons_self) (by simp)
  | x :: l, y :: m, hl, hm, h => by
    have hl' := List.pairwise_cons.1 hl
    have hm' := List.pairwise_cons.1 hm
    have hxy : x = y := by
      rcases List.mem_cons.1 ((h x).1 List.mem_cons_self) with e | hx
      · exact e
      · rcases List.mem_cons.1 ((h y).2 List.mem_cons_self) with e | hy
        · exact e.symm
        · exact absurd (lessX_trans (hl'.1 y hy) (hm'.1 x hx)) (lessX_irrefl x)
    subst hxy
    have ht : l = m := asc_unique hl'.2 hm'.2 (fun z => ⟨fun hz => by
        rcases List.mem_cons.1 ((h z).1 (List.mem_cons_of_mem _ hz)) with e | hz'
        · subst e; exact absurd (hl'.1 z hz) (lessX_irrefl z)
        · exact hz', fun hz => by
        rcases List.mem_cons.1 ((h z).2 (List.mem_cons_of_mem _ hz)) with e | hz'
        · subst e; exact absurd (hm'.1 z hz) (lessX_irrefl z)
        · exact hz'⟩)
    rw [ht]

theorem posI_le (l : List (Nat × Int)) (a : Nat × Int) : posI l a ≤ l.length := by
  unfold posI; exact List.takeWhile_prefix _ |>.length_le
theorem take_pos : ∀ (l : List (Nat × Int)) (a : Nat × Int), l.take (posI l a) = l.takeWhile (fun x => lessX x a)
  | [], _ => rfl
  | x :: l, a => by
    unfold posI
    rw [List.takeWhile_cons]
    split
    · rw [List.length_cons, List.take_succ_cons]
      exact congrArg _ (take_pos l a)
    · rfl
theorem pos_not {l : List (Nat × Int)} {a x : Nat × Int} (h : l[posI l a]? = some x) : ¬ lessX x a = true := by
  induction l with
  | nil => simp at h
  | cons y t ih =>
    unfold posI at h
    rw [List.takeWhile_cons] at h
    split at h
    · rw [List.length_cons, List.getElem?_cons_succ] at h
      exact ih h
    · rename_i hy
      simp at h
      subst h
      exact hy
theorem insI_asc {l : List (Nat × Int)} {a : Nat × Int} (h : Asc l) : Asc (insI l a) := by
  unfold insI
  split
  · exact h
  · rename_i hne
    have ht : ∀ x ∈ l.take (posI l a), lessX x a = true := by
      rw [take_pos]
      intro x hx
      have := List.all_takeWhile (l := l) (p := fun x => lessX x a)
      rw [List.all_eq_true] at this
      exact this x hx
    have hd : ∀ x ∈ l.drop (posI l a), lessX a x = true := by
      cases hg : l[posI l a]? with
      | none =>
        intro x hx
        rw [List.drop_of_length_le (by simpa using hg)] at hx
        simp at hx
      | some y =>
        have hy := pos_not hg
        have hya : lessX a y = true := lessX_total hy (fun e => hne (by rw [hg, e]))
        rw [drop_at hg]
        intro x hx
        rcases List.mem_cons.1 hx with e | hx
        · rw [e]; exact hya
        · have hp := h.drop (i := posI l a)
          rw [drop_at hg] at hp
          exact lessX_trans hya ((List.pairwise_cons.1 hp).1 x hx)
    rw [Asc, List.pairwise_append]
    refine ⟨h.take, List.pairwise_cons.2 ⟨hd, h.drop⟩, fun x hx y hy => ?_⟩
    rcases List.mem_cons.1 hy with e | hy
    · rw [e]; exact ht x hx
    · exact lessX_trans (ht x hx) (hd y hy)
theorem insI_mem {l : List (Nat × Int)} {a : Nat × Int} (x : Nat × Int) : x ∈ insI l a ↔ x = a ∨ x ∈ l := by
  unfold insI
  split
  · rename_i h
    refine ⟨fun hx => .inr hx, fun hx => ?_⟩
    rcases hx with e | hx
    · rw [e]; exact List.mem_of_getElem? h
    · exact hx
  · rw [List.mem_append, List.mem_cons]
    constructor
    · rintro (hx | hx | hx)
      · exact .inr (List.mem_of_mem_take hx)
      · exact .inl hx
      · exact .inr (List.mem_of_mem_drop hx)
    · rintro (hx | hx)
      · exact .inr (.inl hx)
      · have e := List.take_append_drop (posI l a) l
        rw [← e] at hx
        rcases List.mem_append.1 hx with h | h
        · exact .inl h
        · exact .inr (.inr h)
theorem foldI : ∀ (l m : List (Nat × Int)), Asc m → Asc (l.foldl insI m) ∧ ∀ x, x ∈ l.foldl insI m ↔ x ∈ l ∨ x ∈ m
  | [], m, h => ⟨h, fun x => by simp⟩
  | a :: l, m, h => by
    obtain ⟨h1, h2⟩ := foldI l (insI m a) (insI_asc h)
    refine ⟨h1, fun x => ?_⟩
    rw [List.foldl_cons, h2 x, insI_mem, List.mem_cons]
    constructor
    · rintro (h | h | h)
      · exact .inl (.inr h)
      · exact .inl (.inl h)
      · exact .inr h
    · rintro ((h | h) | h)
      · exact .inr (.inl h)
      · exact .inl h
      · exact .inr (.inr h)
/-- What is in order, each once, with the members of l is the one. -/
theorem sortedI_of {l m : List (Nat × Int)} (h : Asc m) (hm : ∀ x, x ∈ m ↔ x ∈ l) : m = sortedI l := by
  obtain ⟨h1, h2⟩ := foldI l [] List.Pairwise.nil
  refine asc_unique h h1 (fun x => ?_)
  rw [hm x]
  show _ ↔ x ∈ l.foldl insI []
  rw [h2 x]
  simp
end Go.Proofs.YtfgopiopeidfmaaDoor
