/-
Slices of clocks, read and appended; the laws of stage 6's contracts: what they ask of package clock.
-/
import Derived.Test.YtepafmoohlognaaKIs
namespace Go.Proofs.Ytepafmoohlognaa
open Go.RowKit

/-- The slice value v reads as these clocks. -/
def RdC (w : World) (v : Value) (ls : List (List Nat)) : Prop :=
  (∃ p c, v = .slice p 0 c ∧ ls = [] ∧ (p = none → c = 0)) ∨ ∃ b off cap, v = .slice (some ⟨b, off, none⟩) ls.length cap ∧ ls.length ≤ cap ∧ cap ≤ maxLen ∧ b < w.heap.size ∧ ∀ (j : Nat) (xs : List Nat), ls[j]? = some xs → ∃ u, w.cell? ⟨b, off + j, none⟩ = some u ∧ RdU w u xs
theorem RdC.named {w : World} {v : Value} {ls : List (List Nat)} (h : RdC w v ls) : ∃ A n c, v = .slice A n c ∧ n = ls.length := by
  rcases h with ⟨p, c, rfl, rfl, _⟩ | ⟨b, off, cap, rfl, _⟩
  · exact ⟨p, 0, c, rfl, rfl⟩
  · exact ⟨_, _, cap, rfl, rfl⟩
theorem RdC.below {w w' : World} {v : Value} {ls : List (List Nat)} (h : RdC w v ls) (hb : Below w.heap.size w w') : RdC w' v ls := by
  rcases h with h | ⟨b, off, cap, rfl, hcap, hm, hlt, hc⟩
  · exact .inl h
  · refine .inr ⟨b, off, cap, rfl, hcap, hm, Nat.lt_of_lt_of_le hlt hb.size, fun j x hx => ?_⟩
    obtain ⟨u, h1, h2⟩ := hc j x hx
    exact ⟨u, by rw [bcell hb _ _ hlt]; exact h1, h2.below hb⟩
theorem RdC.at_ {w : World} {A : Option Addr} {n c k : Nat} {xs : List Nat} {ls : List (List Nat)} (h : RdC w (.slice A n c) ls) (hx : ls[k]? = some xs) :
    ∃ b off u, A = some ⟨b, off, none⟩ ∧ RdU w u xs ∧ ∀ w', Below w.heap.size w w' → w'.cell? ⟨b, off + k, none⟩ = some u := by
  rcases h with ⟨p, c', hv, rfl, _⟩ | ⟨b, off, cap, hv, hcap, hm, hb, hc⟩
  · simp at hx
  · simp only [Value.slice.injEq] at hv
    obtain ⟨rfl, _, _⟩ := hv
    obtain ⟨u, h1, h2⟩ := hc k xs hx
    exact ⟨b, off, u, rfl, h2, fun w' hw => by rw [bcell hw _ _ hb]; exact h1⟩
/-- A row of slice values of the call's own. -/
def OwnV (B : Nat) (w : World) (v : Value) (us : List Value) : Prop := w.ownsRow B 25 1 v us.length us
theorem OwnV.below {B : Nat} {w w' : World} {v : Value} {us : List Value} (h : OwnV B w v us) (hb : Below w.heap.size w w') : OwnV B w' v us := ownsRow_below h hb (Nat.le_refl _)
theorem OwnV.nil (B : Nat) (w : World) : OwnV B w (.slice none 0 0) [] := World.ownsRow_nil _ _ _ _
theorem OwnV.rd {B : Nat} {w : World} {v : Value} {us : List Value} {ls : List (List Nat)} (h : OwnV B w v us) (hl : us.length = ls.length) (hu : ∀ (j : Nat) u xs, us[j]? = some u → ls[j]? = some xs → RdU w u xs) : RdC w v ls := by
  rcases h.2 with ⟨hv, hn⟩ | ⟨g, cap, cur, hv, _, hh, hnc, hm, hs, ht⟩
  · exact .inl ⟨none, 0, hv, List.eq_nil_of_length_eq_zero (hl ▸ hn), fun _ => rfl⟩
  · refine .inr ⟨g, 0, cap, hl ▸ hv, hl ▸ hnc, hm, (Array.getElem?_eq_some_iff.1 hh).1, fun j x hj => ?_⟩
    have hjl : j < us.length := by rw [hl]; exact (List.getElem?_eq_some_iff.1 hj).1
    obtain ⟨u, hx⟩ : ∃ u, us[j]? = some u := ⟨_, List.getElem?_eq_getElem hjl⟩
    refine ⟨u, ?_, hu j _ x hx hj⟩
    rw [Nat.zero_add, cell_of_row w g j cur 25 (0, 0) hh]
    rw [← ht, List.getElem?_take] at hx
    split at hx
    · simpa using hx
    · cases hx
theorem info_clock : (Try.prog.info? 25).map (fun i => (i.zero, i.size, i.bytes)) = some (some (.slice none 0 0), 1, 24) := by kernel_rfl
/-- One more clock, from a cell. -/
theorem run_appV (T : TypeId) (hT : Try.prog.underlying T = some (.slice 25)) (ty : TypeId) (w : World) (B : Nat) (v : Value) (us : List Value) (hown : OwnV B w v us) (g off cap : Nat) (A : Option Addr) (n c : Nat) (hc : w.cell? ⟨g, off, none⟩ = some (.slice A n c)) (hcap : 1 ≤ cap) (hm : cap ≤ maxLen) (hl : us.length ≤ 1000000) (hB : B ≤ w.heap.size) :
    ∃ v' w', (Builtin.append_ #[T, T] ty #[v, .slice (some ⟨g, off, none⟩) 1 cap]).run Try.prog w = .ok v' w' ∧ OwnV B w' v' (us ++ [.slice A n c]) ∧ w.grownBy w' v.ownBlock ∧ (v'.ownBlock = v.ownBlock ∨ v'.ownBlock = some w.heap.size) := by
  obtain ⟨i0, hi, hz0, hz1, hz2⟩ := info_parts info_clock
  obtain ⟨v', w', hr, ho, hg, _, hv⟩ := run_append_own_at (P := Try.prog) w B T ty 25 i0 (.slice none 0 0) 1 24 hT hi hz0 hz1 hz2 rfl (by decide) v _ _ hown ⟨g, off, none⟩ 1 cap [.slice A n c] (by simp) (by
      intro j u hj
      rcases j with _ | j
      · rw [Addr.add_lit]
        simp only [List.getElem?_cons_zero, Option.some.injEq] at hj
        subst hj
        exact hc
      · simp at hj) (by intro u hu; rcases List.mem_singleton.1 hu with rfl; rfl) (by unfold maxLen; omega) (by omega) hB
  exact ⟨v', w', hr, by unfold OwnV; simpa using ho, hg, hv⟩
theorem wp_appV (T : TypeId) (hT : Try.prog.underlying T = some (.slice 25)) {ops : Array Oper} {rest : List Oper} {o : Oper} {a : Act} {Q : Exit → Act → World → Prop} {w : World} (hgd : o.guard = none) (s x : Operand)
    (ho : o.op = Op.call { callee := Callee.builtin Builtin.append, args := #[s, x], argTypes := #[T, T] }) (B : Nat) (v : Value) (us : List Value) (hs : a.eval s = v) (hown : OwnV B w v us)
    (g off cap : Nat) (A : Option Addr) (n c : Nat) (hx : a.eval x = .slice (some ⟨g, off, none⟩) 1 cap) (hc : w.cell? ⟨g, off, none⟩ = some (.slice A n c)) (hcap : 1 ≤ cap) (hm : cap ≤ maxLen) (hl : us.length ≤ 1000000) (hB : B ≤ w.heap.size)
    (h : ∀ v' w', OwnV B w' v' (us ++ [.slice A n c]) → Below B w w' → w.grownBy w' v.ownBlock → (v'.ownBlock = v.ownBlock ∨ v'.ownBlock = some w.heap.size) → wpList Try.prog ops Q rest (a.put o.dst v') w') :
    wpList Try.prog ops Q (o :: rest) a w := by
  obtain ⟨v', w', hr, h1, h2, h3⟩ := run_appV T hT o.type w B v us hown g off cap A n c hc hcap hm hl hB
  exact Lib.wpList_append_run w hgd s x _ _ ho v (.slice (some ⟨g, off, none⟩) 1 cap) hs hx v' w' hr (h v' w' h1 ((Below.refl B w).grown h2 hB (fun k hk => (World.ownsRow.lt hown k hk).1)) h2 h3)
/-- Two clocks in a new row. -/
theorem RdC.two {w : World} {g : Nat} (hg : g = w.heap.size) {v u : Value} {xs ys : List Nat} (hv : RdU w v xs) (hu : RdU w u ys) (T : TypeId) : RdC (w.alloc (.cells #[v, u] T)) (.slice (some ⟨g, 0, none⟩) 2 2) [xs, ys] := by
  have h1 : (w.alloc (.cells #[v, u] T)).heap[g]? = some (.cells #[v, u] T (0, 0)) := heap_new hg
  refine .inr ⟨g, 0, 2, rfl, Nat.le_refl _, by decide, by rw [hg]; simp, fun j zs hj => ?_⟩
  match j with
  | 0 =>
    simp only [List.getElem?_cons_zero, Option.some.injEq] at hj
    subst hj
    exact ⟨v, by rw [Nat.zero_add, cell_of_row _ _ 0 _ _ _ h1]; rfl, hv.below (below_alloc _ _)⟩
  | 1 =>
    simp only [List.getElem?_cons_succ, List.getElem?_cons_zero, Option.some.injEq] at hj
    subst hj
    exact ⟨u, by rw [Nat.zero_add, cell_of_row _ _ 1 _ _ _ h1]; rfl, hu.below (below_alloc _ _)⟩
  | j + 2 => simp at hj

/-- A clock that fits. -/
def FitC (xs : List Nat) : Prop := xs.length ≤ 64 ∧ ∀ x ∈ xs, x < 18446744073709551616
def joinV (xs ys : List Nat) : List Nat := cutF (List.zipWith max (padF xs) (padF ys))
def meetF (F : List Nat) (ls : List (List Nat)) : List Nat := ls.foldl (fun F ys => List.zipWith min F (padF ys)) F
def meetV : List (List Nat) → List Nat
  | [] => []
  | xs :: ls => cutF (meetF (padF xs) ls)
/-- What the laws ask of Join, Meet, Within, Same, Apart; E: what the world holds. -/
structure ClockOk (E : World → Prop) : Prop where
  keep : ∀ {w w'}, E w → Below w.heap.size w w' → E w'
  joinA : ∀ (xs ys : List Nat) (v u : Value) (w : World), E w → FitC xs → FitC ys → RdU w v xs → RdU w u ys →
    Calls Try.prog 11 #[v, u] w fun e w' => ∃ v', e = .returned v' ∧ RdU w' v' (joinV xs ys) ∧ Below w.heap.size w w' ∧ (joinV xs ys = [] ∨ ∀ k, v'.ownBlock = some k → (v.ownBlock = some k ∧ xs ≠ []) ∨ (u.ownBlock = some k ∧ ys ≠ []) ∨ w.heap.size ≤ k)
  meet : ∀ (ls : List (List Nat)) (v : Value) (w : World), E w → ls.length ≤ 20 → (∀ xs ∈ ls, FitC xs) → RdC w v ls →
    Calls Try.prog 13 #[v] w fun e w' => ∃ v', e = .returned v' ∧ RdU w' v' (meetV ls) ∧ Below w.heap.size w w'
  within : ∀ (xs ys : List Nat) (v u : Value) (w : World), E w → FitC xs → FitC ys → RdU w v xs → RdU w u ys →
    Calls Try.prog 15 #[v, u] w fun e w' => e = .returned (.bool (withinB (padF xs) (padF ys))) ∧ Below w.heap.size w w'
  same : ∀ (xs ys : List Nat) (v u : Value) (w : World), E w → FitC xs → FitC ys → RdU w v xs → RdU w u ys →
    Calls Try.prog 16 #[v, u] w fun e w' => e = .returned (.bool (withinB (padF xs) (padF ys) && withinB (padF ys) (padF xs))) ∧ Below w.heap.size w w'
  apart : ∀ (xs ys : List Nat) (v u : Value) (w : World), E w → FitC xs → FitC ys → RdU w v xs → RdU w u ys →
    Calls Try.prog 17 #[v, u] w fun e w' => e = .returned (.bool (!withinB (padF xs) (padF ys) && !withinB (padF ys) (padF xs))) ∧ Below w.heap.size w w'

theorem ClockOk.join {E : World → Prop} (K : ClockOk E) (xs ys : List Nat) (v u : Value) (w : World) (hE : E w) (h1 : FitC xs) (h2 : FitC ys) (hv : RdU w v xs) (hu : RdU w u ys) :
    Calls Try.prog 11 #[v, u] w fun e w' => ∃ v', e = .returned v' ∧ RdU w' v' (joinV xs ys) ∧ Below w.heap.size w w' :=
  (K.joinA xs ys v u w hE h1 h2 hv hu).mono (fun _ _ ⟨v', a, b, c, _⟩ => ⟨v', a, b, c⟩)
/-- is, at any clock. -/
theorem is_any (xs F : List Nat) (v : Value) (hl : xs.length ≤ 1000) (hF : F.length = 64) (w : World) (h : RdU w v xs) :
    Calls Try.prog 10 #[v, .agg (fullA F)] w fun e w' => e = .returned (.bool (decide (xs = cutF F))) ∧ Below w.heap.size w w' := by
  obtain ⟨A, n, c, rfl, hn⟩ := h.named
  exact is_form xs F n c A hn (by omega) hF w h
theorem zip_len {f : Nat → Nat → Nat} {F G : List Nat} (hF : F.length = 64) (hG : G.length = 64) : (List.zipWith f F G).length = 64 := by rw [List.length_zipWith, hF, hG]; rfl
theorem cut_len {F : List Nat} (hF : F.length = 64) : (cutF F).length ≤ 64 := by unfold cutF; rw [List.length_take]; omega
theorem join_len {xs ys : List Nat} (h1 : FitC xs) (h2 : FitC ys) : (joinV xs ys).length ≤ 64 := cut_len (zip_len (padF_len h1.1) (padF_len h2.1))
end Go.Proofs.Ytepafmoohlognaa
