/-
Rows of parts of trees of the call's own; appended. Of no function of the program.
-/
import Derived.Test.YtlagjnlajkmmeaaGreatDoorTrM
namespace Go.Proofs.YtlagjnlajkmmeaaGreatDoor
open Go.RowKit

abbrev PartV := Tr × Value
def cell6 (x : PartV) : List Value := [.int .i64 x.1.kind, .int .i64 x.1.num, .string ⟨x.1.text.toArray⟩, .int .i64 x.1.a, .int .i64 x.1.b, x.2]
def OwnN (T : TypeId) (B : Nat) (w : World) (v : Value) (l : List PartV) : Prop := w.ownsRow B T 6 v l.length (l.flatMap cell6)
theorem OwnN.below {T : TypeId} {B : Nat} {w w' : World} {v : Value} {l : List PartV} (h : OwnN T B w v l) (hb : Below w.heap.size w w') : OwnN T B w' v l := ownsRow_below h hb (Nat.le_refl _)
theorem OwnN.nil (T : TypeId) (B : Nat) (w : World) : OwnN T B w (.slice none 0 0) [] := World.ownsRow_nil _ _ _ _
theorem OwnN.form {T : TypeId} {B : Nat} {w : World} {v : Value} {l : List PartV} (h : OwnN T B w v l) : ∃ A n c, v = .slice A n c := by
  rcases h.2 with ⟨hv, _⟩ | ⟨g, cap, cur, hv, _⟩
  · exact ⟨_, _, _, hv⟩
  · exact ⟨_, _, _, hv⟩
theorem flat6_cons (y : PartV) (t : List PartV) : (y :: t).flatMap cell6 = .int .i64 y.1.kind :: .int .i64 y.1.num :: .string ⟨y.1.text.toArray⟩ :: .int .i64 y.1.a :: .int .i64 y.1.b :: y.2 :: t.flatMap cell6 := rfl
theorem flat6_get : ∀ (l : List PartV) (i : Nat) (x : PartV), l[i]? = some x → ∀ j, j < 6 → (l.flatMap cell6)[i * 6 + j]? = (cell6 x)[j]?
  | [], _, _, h => by simp at h
  | y :: t, 0, x, h => by
    simp at h
    subst h
    intro j hj
    rw [List.flatMap_cons, List.getElem?_append_left (by simp [cell6]; omega)]
    simp
  | y :: t, i + 1, x, h => by
    intro j hj
    have ih := flat6_get t i x (by simpa using h) j hj
    rw [List.flatMap_cons, List.getElem?_append_right (by simp [cell6]; omega), ← ih]
    congr 1
    simp [cell6]
    omega
theorem flat6_len : ∀ l : List PartV, (l.flatMap cell6).length = l.length * 6
  | [] => rfl
  | y :: t => by rw [List.flatMap_cons, List.length_append, flat6_len t, List.length_cons]; simp [cell6]; omega
theorem OwnN.rdA {T : TypeId} {B : Nat} {p : Nat → Prop} {w : World} {v : Value} {l : List PartV} (h : OwnN T B w v l) (hl : ∀ x ∈ l, FitN x.1 ∧ RdA p w x.1.args x.2) (hp : ∀ g, v.ownBlock = some g → p g) : RdA p w (l.map (·.1)) v := by
  rcases h.2 with ⟨hv, hn⟩ | ⟨g, cap, cur, hv, _, hh, hnc, hm, hs, ht⟩
  · exact .inl ⟨none, 0, hv, by simp [List.eq_nil_of_length_eq_zero hn], fun _ => rfl⟩
  · refine .inr ⟨g, 0, cap, by simpa using hv, by simpa using hnc, hm, (Array.getElem?_eq_some_iff.1 hh).1, hp g (by rw [hv]; rfl), RdL.of _ _ _ fun i x hx => ?_⟩
    have key : ∀ i u, (l.flatMap cell6)[i]? = some u → w.cell? ⟨g, i, none⟩ = some u := fun i u hu => by
      rw [cell_of_row w g i cur T (0, 0) hh]
      rw [← ht, List.getElem?_take] at hu
      split at hu
      · simpa using hu
      · cases hu
    obtain ⟨y, hy, rfl⟩ : ∃ y, l[i]? = some y ∧ y.1 = x := by
      rw [List.getElem?_map] at hx
      cases hq : l[i]? with
      | none => rw [hq] at hx; cases hx
      | some y => rw [hq] at hx; simp at hx; exact ⟨y, rfl, hx⟩
    have hg := flat6_get l i y hy
    obtain ⟨h0, h1⟩ := hl y (List.mem_of_getElem? hy)
    rw [Nat.zero_add]
    exact RdC_iff.2 ⟨h0, y.2, ⟨key _ _ (hg 0 (by omega)), key _ _ (hg 1 (by omega)), key _ _ (hg 2 (by omega)), key _ _ (hg 3 (by omega)), key _ _ (hg 4 (by omega)), key _ _ (hg 5 (by omega))⟩, h1⟩
def infoN (T : TypeId) : Prop := (Tryz.prog.info? T).map (fun i => (i.zero, i.size, i.bytes)) = some (some (.agg #[.int .i64 0, .int .i64 0, .string ⟨#[]⟩, .int .i64 0, .int .i64 0, .slice none 0 0]), 6, 72)
/-- One more part, behind a slice that is the call's own. -/
theorem run_appN {T ST : TypeId} (hT : infoN T) (hST : Tryz.prog.underlying ST = some (.slice T)) (w : World) (ty : TypeId) (B : Nat) (v : Value) (l : List PartV) (hown : OwnN T B w v l) (g off cap : Nat) (x : Tr) (u : Value) (hcap : 1 ≤ cap) (hm : cap ≤ maxLen)
    (hc : At6 w g off x.kind x.num x.text x.a x.b u) (hlit : ∃ A n c, u = .slice A n c) (hl : l.length + 1 ≤ 1000000) (hB : B ≤ w.heap.size) :
    ∃ v' w', (Builtin.append_ #[ST, ST] ty #[v, .slice (some ⟨g, off, none⟩) 1 cap]).run Tryz.prog w = .ok v' w' ∧ OwnN T B w' v' (l ++ [(x, u)]) ∧ Below B w w' ∧ w.grownBy w' v.ownBlock ∧ (v'.ownBlock = v.ownBlock ∨ v'.ownBlock = some w.heap.size) := by
  obtain ⟨i0, hi, hz0, hz1, hz2⟩ := info_parts hT
  obtain ⟨v', w', hr, ho, hg, _, hv⟩ := run_append_own_at (P := Tryz.prog) w B ST ty T i0 (.agg #[.int .i64 0, .int .i64 0, .string ⟨#[]⟩, .int .i64 0, .int .i64 0, .slice none 0 0]) 6 72 hST hi hz0 hz1 hz2 rfl (by decide) v _ _ hown ⟨g, off, none⟩ 1 cap (cell6 (x, u)) rfl
    (by
      obtain ⟨c0, c1, c2, c3, c4, c5⟩ := hc
      intro i z hz
      rw [Addr.add_lit]
      match i, hz with
      | 0, hz => simp [cell6] at hz; subst hz; exact c0
      | 1, hz => simp [cell6] at hz; subst hz; exact c1
      | 2, hz => simp [cell6] at hz; subst hz; exact c2
      | 3, hz => simp [cell6] at hz; subst hz; exact c3
      | 4, hz => simp [cell6] at hz; subst hz; exact c4
      | 5, hz => simp [cell6] at hz; subst hz; exact c5
      | i + 6, hz => simp [cell6] at hz)
    (by
      intro z hz
      obtain ⟨A, n, c, rfl⟩ := hlit
      simp [cell6] at hz
      rcases hz with rfl | rfl | rfl | rfl | rfl | rfl <;> rfl) (by unfold maxLen; omega) (by omega) hB
  refine ⟨v', w', hr, by unfold OwnN; simpa [List.flatMap_append] using ho, (Below.refl B w).grown hg hB (fun k hk => (World.ownsRow.lt hown k hk).1), hg, hv⟩
theorem wp_appN {T ST : TypeId} (hT : infoN T) (hST : Tryz.prog.underlying ST = some (.slice T)) {ops : Array Oper} {rest : List Oper} {o : Oper} {a : Act} {Q : Exit → Act → World → Prop} {w : World} (hgd : o.guard = none) (s x : Operand)
    (ho : o.op = Op.call { callee := Callee.builtin Builtin.append, args := #[s, x], argTypes := #[ST, ST] }) (B : Nat) (v : Value) (l : List PartV) (hs : a.eval s = v) (hown : OwnN T B w v l)
    (g off cap : Nat) (y : Tr) (u : Value) (hx : a.eval x = .slice (some ⟨g, off, none⟩) 1 cap) (hcap : 1 ≤ cap) (hm : cap ≤ maxLen) (hc : At6 w g off y.kind y.num y.text y.a y.b u) (hlit : ∃ A n c, u = .slice A n c) (hl : l.length + 1 ≤ 1000000) (hB : B ≤ w.heap.size)
    (h : ∀ v' w', OwnN T B w' v' (l ++ [(y, u)]) → Below B w w' → w.grownBy w' v.ownBlock → (v'.ownBlock = v.ownBlock ∨ v'.ownBlock = some w.heap.size) → wpList Tryz.prog ops Q rest (a.put o.dst v') w') :
    wpList Tryz.prog ops Q (o :: rest) a w := by
  obtain ⟨v', w', hr, h1, h2, h3, h4⟩ := run_appN hT hST w o.type B v l hown g off cap y u hcap hm hc hlit hl hB
  exact Lib.wpList_append_run w hgd s x _ _ ho v _ hs hx v' w' hr (h v' w' h1 h2 h3 h4)
end Go.Proofs.YtlagjnlajkmmeaaGreatDoor
