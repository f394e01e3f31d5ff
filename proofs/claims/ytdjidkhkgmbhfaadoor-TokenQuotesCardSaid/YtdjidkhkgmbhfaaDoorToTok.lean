/-
Slices of the reference's tokens that read as lists; appended.
-/
import Derived.Test.YtdjidkhkgmbhfaaDoorToOne
namespace Go.Proofs.YtdjidkhkgmbhfaaDoor
open Go.RowKit Go.Proofs.YtdjidkhkgmbhfaaDoor.Tok

abbrev TokD := Nat × List UInt8 × Nat
def tokC (x : TokD) : List Value := [.int .i64 (x.1 : Int), .string ⟨x.2.1.toArray⟩, .int .i64 (x.2.2 : Int)]
/-- The cells at b, off are this token's. -/
def TokAt (w : World) (b off : Nat) (x : TokD) : Prop := w.cell? ⟨b, off, none⟩ = some (.int .i64 (x.1 : Int)) ∧ w.cell? ⟨b, off + 1, none⟩ = some (.string ⟨x.2.1.toArray⟩) ∧ w.cell? ⟨b, off + 2, none⟩ = some (.int .i64 (x.2.2 : Int))
/-- The slice value v reads as these tokens. -/
def RdT (w : World) (v : Value) (l : List TokD) : Prop :=
  (∃ p c, v = .slice p 0 c ∧ l = [] ∧ (p = none → c = 0)) ∨ ∃ b off cap, v = .slice (some ⟨b, off, none⟩) l.length cap ∧ l.length ≤ cap ∧ cap ≤ maxLen ∧ b < w.heap.size ∧
    ∀ (j : Nat) x, l[j]? = some x → TokAt w b (off + j * 3) x
theorem TokAt.below {w w' : World} {b off : Nat} {x : TokD} (h : TokAt w b off x) (hb : Below w.heap.size w w') : TokAt w' b off x := by
  obtain ⟨h0, h1, h2⟩ := h
  have hl := World.block_lt_of_cell? _ _ h0
  exact ⟨by rw [bcell hb _ _ hl]; exact h0, by rw [bcell hb _ _ hl]; exact h1, by rw [bcell hb _ _ hl]; exact h2⟩
theorem RdT.below {w w' : World} {v : Value} {l : List TokD} (h : RdT w v l) (hb : Below w.heap.size w w') : RdT w' v l := by
  rcases h with h | ⟨b, off, cap, rfl, hcap, hm, hlt, hc⟩
  · exact .inl h
  · exact .inr ⟨b, off, cap, rfl, hcap, hm, Nat.lt_of_lt_of_le hlt hb.size, fun j x hx => (hc j x hx).below hb⟩
theorem RdT.named {w : World} {v : Value} {l : List TokD} (h : RdT w v l) : ∃ A n c, v = .slice A n c ∧ n = l.length := by
  rcases h with ⟨p, c, rfl, rfl, _⟩ | ⟨b, off, cap, rfl, _⟩
  · exact ⟨p, 0, c, rfl, rfl⟩
  · exact ⟨_, _, cap, rfl, rfl⟩
theorem RdT.at_ {w : World} {A : Option Addr} {n c k : Nat} {l : List TokD} {x : TokD} (h : RdT w (.slice A n c) l) (hx : l[k]? = some x) :
    ∃ b off, A = some ⟨b, off, none⟩ ∧ TokAt w b (off + k * 3) x := by
  rcases h with ⟨p, c', hv, rfl, _⟩ | ⟨b, off, cap, hv, hcap, hm, hb, hc⟩
  · simp at hx
  · simp only [Value.slice.injEq] at hv
    obtain ⟨rfl, _, _⟩ := hv
    exact ⟨b, off, rfl, hc k x hx⟩
theorem info_tok : (Tryd.prog.info? 34).map (fun i => (i.zero, i.size, i.bytes)) = some (some (.agg #[.int .i64 0, .string ⟨#[]⟩, .int .i64 0]), 3, 32) := by kernel_rfl
/-- The slice value v is nil, or heads a row from block B on; it reads as these tokens. -/
def OwnT (B : Nat) (w : World) (v : Value) (l : List TokD) : Prop := w.ownsRow B 34 3 v l.length (l.flatMap tokC)
theorem OwnT.below {B : Nat} {w w' : World} {v : Value} {l : List TokD} (h : OwnT B w v l) (hb : Below w.heap.size w w') : OwnT B w' v l := ownsRow_below h hb (Nat.le_refl _)
theorem OwnT.nil (B : Nat) (w : World) : OwnT B w (.slice none 0 0) [] := World.ownsRow_nil _ _ _ _
theorem flatT_get : ∀ (l : List TokD) (j : Nat) (x : TokD), l[j]? = some x → (l.flatMap tokC)[j * 3]? = some (.int .i64 (x.1 : Int)) ∧ (l.flatMap tokC)[j * 3 + 1]? = some (.string ⟨x.2.1.toArray⟩) ∧ (l.flatMap tokC)[j * 3 + 2]? = some (.int .i64 (x.2.2 : Int))
  | [], _, _, h => by simp at h
  | y :: t, 0, x, h => by simp at h; subst h; exact ⟨rfl, rfl, rfl⟩
  | y :: t, j + 1, x, h => by
    have ih := flatT_get t j x (by simpa using h)
    have e : (y :: t).flatMap tokC = .int .i64 (y.1 : Int) :: .string ⟨y.2.1.toArray⟩ :: .int .i64 (y.2.2 : Int) :: t.flatMap tokC := rfl
    rw [e, show (j + 1) * 3 = j * 3 + 1 + 1 + 1 from by omega, show j * 3 + 1 + 1 + 1 + 1 = (j * 3 + 1) + 1 + 1 + 1 from by omega, show j * 3 + 1 + 1 + 1 + 2 = (j * 3 + 2) + 1 + 1 + 1 from by omega]
    simp only [List.getElem?_cons_succ]
    exact ih
theorem flatT_len : ∀ l : List TokD, (l.flatMap tokC).length = l.length * 3
  | [] => rfl
  | y :: t => by
    have e : (y :: t).flatMap tokC = .int .i64 (y.1 : Int) :: .string ⟨y.2.1.toArray⟩ :: .int .i64 (y.2.2 : Int) :: t.flatMap tokC := rfl
    rw [e, List.length_cons, List.length_cons, List.length_cons, flatT_len t, List.length_cons]; omega
theorem OwnT.rd {B : Nat} {w : World} {v : Value} {l : List TokD} (h : OwnT B w v l) : RdT w v l := by
  rcases h.2 with ⟨hv, hn⟩ | ⟨g, cap, cur, hv, _, hh, hnc, hm, hs, ht⟩
  · exact .inl ⟨none, 0, hv, List.eq_nil_of_length_eq_zero hn, fun _ => rfl⟩
  · refine .inr ⟨g, 0, cap, hv, hnc, hm, (Array.getElem?_eq_some_iff.1 hh).1, fun j x hj => ?_⟩
    have key : ∀ i u, (l.flatMap tokC)[i]? = some u → w.cell? ⟨g, i, none⟩ = some u := fun i u hu => by
      rw [cell_of_row w g i cur 34 (0, 0) hh]
      rw [← ht, List.getElem?_take] at hu
      split at hu
      · simpa using hu
      · cases hu
    obtain ⟨h1, h2, h3⟩ := flatT_get l j x hj
    rw [Nat.zero_add]
    exact ⟨key _ _ h1, key _ _ h2, key _ _ h3⟩
theorem cells_ofT {w : World} {b off : Nat} {l : List TokD} (hc : ∀ (j : Nat) x, l[j]? = some x → TokAt w b (off + j * 3) x) :
    ∀ i u, (l.flatMap tokC)[i]? = some u → w.cell? ((⟨b, off, none⟩ : Addr).add i) = some u := by
  intro i u hu
  have hi : i < l.length * 3 := by
    have := (List.getElem?_eq_some_iff.1 hu).1
    rw [flatT_len] at this; exact this
  obtain ⟨x, hx⟩ : ∃ x, l[i / 3]? = some x := ⟨_, List.getElem?_eq_getElem (by omega)⟩
  obtain ⟨g0, g1, g2⟩ := flatT_get l (i / 3) x hx
  obtain ⟨c0, c1, c2⟩ := hc (i / 3) x hx
  rw [Addr.add_lit]
  have h3 : i % 3 = 0 ∨ i % 3 = 1 ∨ i % 3 = 2 := by omega
  rcases h3 with h | h | h
  · have e : i = i / 3 * 3 := by omega
    rw [← e] at g0 c0
    rw [c0, ← g0]; exact hu
  · have e : i = i / 3 * 3 + 1 := by omega
    rw [← e] at g1
    rw [show off + i / 3 * 3 + 1 = off + i from by omega] at c1
    rw [c1, ← g1]; exact hu
  · have e : i = i / 3 * 3 + 2 := by omega
    rw [← e] at g2
    rw [show off + i / 3 * 3 + 2 = off + i from by omega] at c2
    rw [c2, ← g2]; exact hu
/-- More tokens, behind a slice that is the call's own. -/
theorem run_appT (w : World) (ty : TypeId) (B : Nat) (v : Value) (l : List TokD) (hown : OwnT B w v l) (g off cap : Nat) (m : List TokD) (hcap : m.length ≤ cap) (hm : cap ≤ maxLen) (hc : ∀ (j : Nat) x, m[j]? = some x → TokAt w g (off + j * 3) x) (hl : l.length + m.length ≤ 1000000) (hB : B ≤ w.heap.size) :
    ∃ v' w', (Builtin.append_ #[27, 27] ty #[v, .slice (some ⟨g, off, none⟩) m.length cap]).run Tryd.prog w = .ok v' w' ∧ OwnT B w' v' (l ++ m) ∧ Below B w w' ∧ w.grownBy w' v.ownBlock ∧ (v'.ownBlock = v.ownBlock ∨ v'.ownBlock = some w.heap.size) := by
  obtain ⟨i0, hi, hz0, hz1, hz2⟩ := info_parts info_tok
  have fin : ∀ v' w', w'.ownsRow B 34 3 v' (l.length + m.length) (l.flatMap tokC ++ m.flatMap tokC) → w.grownBy w' v.ownBlock → OwnT B w' v' (l ++ m) ∧ Below B w w' := fun v' w' ho hg =>
    ⟨by unfold OwnT; simpa using ho, (Below.refl B w).grown hg hB (fun k hk => (World.ownsRow.lt hown k hk).1)⟩
  obtain ⟨v', w', hr, ho, hg, _, hv⟩ := run_append_own_at (P := Tryd.prog) w B 27 ty 34 i0 (.agg #[.int .i64 0, .string ⟨#[]⟩, .int .i64 0]) 3 32 Tryd.underlying27 hi hz0 hz1 hz2 rfl (by decide) v _ _ hown ⟨g, off, none⟩ m.length cap (m.flatMap tokC) (flatT_len m) (cells_ofT hc)
      (by intro u hu; obtain ⟨x, _, hx⟩ := List.mem_flatMap.1 hu; simp [tokC] at hx; rcases hx with rfl | rfl | rfl <;> rfl) (by unfold maxLen; omega) (by omega) hB
  obtain ⟨a1, a2⟩ := fin v' w' ho hg
  exact ⟨v', w', hr, a1, a2, hg, hv⟩
theorem wp_appT {ops : Array Oper} {rest : List Oper} {o : Oper} {a : Act} {Q : Exit → Act → World → Prop} {w : World} (hgd : o.guard = none) (s x : Operand)
    (ho : o.op = Op.call { callee := Callee.builtin Builtin.append, args := #[s, x], argTypes := #[27, 27] }) (B : Nat) (v : Value) (l : List TokD) (hs : a.eval s = v) (hown : OwnT B w v l)
    (g off cap : Nat) (y : TokD) (hx : a.eval x = .slice (some ⟨g, off, none⟩) 1 cap) (hcap : 1 ≤ cap) (hm : cap ≤ maxLen) (hc : TokAt w g off y) (hl : l.length + 1 ≤ 1000000) (hB : B ≤ w.heap.size)
    (h : ∀ v' w', OwnT B w' v' (l ++ [y]) → Below B w w' → wpList Tryd.prog ops Q rest (a.put o.dst v') w') :
    wpList Tryd.prog ops Q (o :: rest) a w := by
  obtain ⟨v', w', hr, h1, h2, _, _⟩ := run_appT w o.type B v l hown g off cap [y] hcap hm (fun j z hj => by
    rcases j with _ | j
    · simp at hj; subst hj; simpa using hc
    · simp at hj) hl hB
  exact Lib.wpList_append_run w hgd s x _ _ ho v _ hs hx v' w' hr (h v' w' h1 h2)
end Go.Proofs.YtdjidkhkgmbhfaaDoor
