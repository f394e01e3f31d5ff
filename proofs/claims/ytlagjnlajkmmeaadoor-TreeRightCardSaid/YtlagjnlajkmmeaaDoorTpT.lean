/-
Slices of the program's tokens that read as lists; appended, in a region that draws its order too.
-/
import Derived.Test.YtlagjnlajkmmeaaDoorTokR
import Derived.Test.YtlagjnlajkmmeaaDoorBHeld
namespace Go.Proofs.YtlagjnlajkmmeaaDoor
open Go.RowKit Go.Proofs.YtlagjnlajkmmeaaDoor.Tok

theorem info_ptok : (Tryd.prog.info? 53).map (fun i => (i.zero, i.size, i.bytes)) = some (some (.agg #[.int .i64 0, .string ⟨#[]⟩, .int .i64 0]), 3, 32) := by kernel_rfl
/-- The slice value v is nil, or heads a row from block B on; it reads as these tokens. -/
def OwnP (B : Nat) (w : World) (v : Value) (l : List TokD) : Prop := w.ownsRow B 53 3 v l.length (l.flatMap tokC)
theorem OwnP.below {B : Nat} {w w' : World} {v : Value} {l : List TokD} (h : OwnP B w v l) (hb : Below w.heap.size w w') : OwnP B w' v l := ownsRow_below h hb (Nat.le_refl _)
theorem OwnP.nil (B : Nat) (w : World) : OwnP B w (.slice none 0 0) [] := World.ownsRow_nil _ _ _ _
theorem OwnP.rd {B : Nat} {w : World} {v : Value} {l : List TokD} (h : OwnP B w v l) : RdT w v l := by
  rcases h.2 with ⟨hv, hn⟩ | ⟨g, cap, cur, hv, _, hh, hnc, hm, hs, ht⟩
  · exact .inl ⟨none, 0, hv, List.eq_nil_of_length_eq_zero hn, fun _ => rfl⟩
  · refine .inr ⟨g, 0, cap, hv, hnc, hm, (Array.getElem?_eq_some_iff.1 hh).1, fun j x hj => ?_⟩
    have key : ∀ i u, (l.flatMap tokC)[i]? = some u → w.cell? ⟨g, i, none⟩ = some u := fun i u hu => by
      rw [cell_of_row w g i cur 53 (0, 0) hh]
      rw [← ht, List.getElem?_take] at hu
      split at hu
      · simpa using hu
      · cases hu
    obtain ⟨h1, h2, h3⟩ := flatT_get l j x hj
    rw [Nat.zero_add]
    exact ⟨key _ _ h1, key _ _ h2, key _ _ h3⟩
/-- More tokens, behind a slice that is the call's own. -/
theorem run_appP (w : World) (ty : TypeId) (B : Nat) (v : Value) (l : List TokD) (hown : OwnP B w v l) (g off cap : Nat) (m : List TokD) (hcap : m.length ≤ cap) (hm : cap ≤ maxLen) (hc : ∀ (j : Nat) x, m[j]? = some x → TokAt w g (off + j * 3) x) (hl : l.length + m.length ≤ 1000000) (hB : B ≤ w.heap.size) :
    ∃ v' w', (Builtin.append_ #[48, 48] ty #[v, .slice (some ⟨g, off, none⟩) m.length cap]).run Tryd.prog w = .ok v' w' ∧ OwnP B w' v' (l ++ m) ∧ Below B w w' ∧ w.grownBy w' v.ownBlock ∧ (v'.ownBlock = v.ownBlock ∨ v'.ownBlock = some w.heap.size) := by
  obtain ⟨i0, hi, hz0, hz1, hz2⟩ := info_parts info_ptok
  have fin : ∀ v' w', w'.ownsRow B 53 3 v' (l.length + m.length) (l.flatMap tokC ++ m.flatMap tokC) → w.grownBy w' v.ownBlock → OwnP B w' v' (l ++ m) ∧ Below B w w' := fun v' w' ho hg =>
    ⟨by unfold OwnP; simpa using ho, (Below.refl B w).grown hg hB (fun k hk => (World.ownsRow.lt hown k hk).1)⟩
  obtain ⟨v', w', hr, ho, hg, _, hv⟩ := run_append_own_at (P := Tryd.prog) w B 48 ty 53 i0 (.agg #[.int .i64 0, .string ⟨#[]⟩, .int .i64 0]) 3 32 Tryd.underlying48 hi hz0 hz1 hz2 rfl (by decide) v _ _ hown ⟨g, off, none⟩ m.length cap (m.flatMap tokC) (flatT_len m) (cells_ofT hc)
      (by intro u hu; obtain ⟨x, _, hx⟩ := List.mem_flatMap.1 hu; simp [tokC] at hx; rcases hx with rfl | rfl | rfl <;> rfl) (by unfold maxLen; omega) (by omega) hB
  obtain ⟨a1, a2⟩ := fin v' w' ho hg
  exact ⟨v', w', hr, a1, a2, hg, hv⟩
theorem wp_appP {ops : Array Oper} {rest : List Oper} {o : Oper} {a : Act} {Q : Exit → Act → World → Prop} {w : World} (hgd : o.guard = none) (s x : Operand)
    (ho : o.op = Op.call { callee := Callee.builtin Builtin.append, args := #[s, x], argTypes := #[48, 48] }) (B : Nat) (v : Value) (l : List TokD) (hs : a.eval s = v) (hown : OwnP B w v l)
    (g off cap : Nat) (y : TokD) (hx : a.eval x = .slice (some ⟨g, off, none⟩) 1 cap) (hcap : 1 ≤ cap) (hm : cap ≤ maxLen) (hc : TokAt w g off y) (hl : l.length + 1 ≤ 1000000) (hB : B ≤ w.heap.size)
    (h : ∀ v' w', OwnP B w' v' (l ++ [y]) → Below B w w' → wpList Tryd.prog ops Q rest (a.put o.dst v') w') :
    wpList Tryd.prog ops Q (o :: rest) a w := by
  obtain ⟨v', w', hr, h1, h2, _, _⟩ := run_appP w o.type B v l hown g off cap [y] hcap hm (fun j z hj => by
    rcases j with _ | j
    · simp at hj; subst hj; simpa using hc
    · simp at hj) hl hB
  exact Lib.wpList_append_run w hgd s x _ _ ho v _ hs hx v' w' hr (h v' w' h1 h2)
theorem OwnP.form {B : Nat} {w : World} {v : Value} {l : List TokD} (h : OwnP B w v l) : ∃ A c, v = .slice A l.length c := by
  obtain ⟨A, n, c, rfl, rfl⟩ := h.rd.named
  exact ⟨A, c, rfl⟩
theorem step_appP {ops : Array Oper} {o : Oper} {a : Act} {K : Act → World → Prop} {Q : Exit → Act → World → Prop} {E : Prop} {w : World} (hgd : o.guard = none) (s x : Operand)
    (ho : o.op = Op.call { callee := Callee.builtin Builtin.append, args := #[s, x], argTypes := #[48, 48] }) (B : Nat) (v : Value) (l : List TokD) (hs : a.eval s = v) (hown : OwnP B w v l)
    (g off cap : Nat) (y : TokD) (hx : a.eval x = .slice (some ⟨g, off, none⟩) 1 cap) (hcap : 1 ≤ cap) (hm : cap ≤ maxLen) (hc : TokAt w g off y) (hl : l.length + 1 ≤ 1000000) (hB : B ≤ w.heap.size)
    (h : ∀ v' w', OwnP B w' v' (l ++ [y]) → Below B w w' → K (a.put o.dst v') w') :
    if Region.wanted o (yielded ops a.tmps) = true then Oper.wp Tryd.prog o a w K Q else E := by
  have hw : Region.wanted o (yielded ops a.tmps) = true := by simp [Region.wanted, hgd]
  rw [if_pos hw]
  obtain ⟨v', w', hr, h1, h2, _, _⟩ := run_appP w o.type B v l hown g off cap [y] hcap hm (fun j z hj => by
    rcases j with _ | j
    · simp at hj; subst hj; simpa using hc
    · simp at hj) hl hB
  unfold Oper.wp
  simp [execOp, ho, resolve, invoke, builtin, hs, hx] at hr ⊢
  simp [hr, Result.andThen]
  exact h v' w' h1 h2
end Go.Proofs.YtlagjnlajkmmeaaDoor
