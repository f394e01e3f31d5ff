/-
Slices of unsigned integers that read as lists: kept, cut, appended. Of no function of the program.
-/
import Derived.Test.YtepafmoohlognaaBRead
namespace Go.Proofs.Ytepafmoohlognaa
open Go.RowKit

def nu (d : Nat) : Value := .int .u64 (d : Int)
/-- The slice value v reads as these unsigned integers. -/
def RdU (w : World) (v : Value) (ns : List Nat) : Prop :=
  (∃ p c, v = .slice p 0 c ∧ ns = [] ∧ (p = none → c = 0)) ∨ ∃ b off cap, v = .slice (some ⟨b, off, none⟩) ns.length cap ∧ ns.length ≤ cap ∧ cap ≤ maxLen ∧ b < w.heap.size ∧ ∀ (j n : Nat), ns[j]? = some n → w.cell? ⟨b, off + j, none⟩ = some (.int .u64 (n : Int))
theorem RdU.named {w : World} {v : Value} {ns : List Nat} (h : RdU w v ns) : ∃ A n c, v = .slice A n c ∧ n = ns.length := by
  rcases h with ⟨p, c, rfl, rfl, _⟩ | ⟨b, off, cap, rfl, _⟩
  · exact ⟨p, 0, c, rfl, rfl⟩
  · exact ⟨_, _, cap, rfl, rfl⟩
theorem RdU.below {w w' : World} {v : Value} {ns : List Nat} (h : RdU w v ns) (hb : Below w.heap.size w w') : RdU w' v ns := by
  rcases h with h | ⟨b, off, cap, rfl, hcap, hm, hlt, hc⟩
  · exact .inl h
  · exact .inr ⟨b, off, cap, rfl, hcap, hm, Nat.lt_of_lt_of_le hlt hb.size, fun j x hx => by rw [bcell hb _ _ hlt]; exact hc j x hx⟩
theorem RdU.at_ {w : World} {A : Option Addr} {n c k x : Nat} {ns : List Nat} (h : RdU w (.slice A n c) ns) (hx : ns[k]? = some x) :
    ∃ b off, A = some ⟨b, off, none⟩ ∧ ∀ w', Below w.heap.size w w' → w'.cell? ⟨b, off + k, none⟩ = some (.int .u64 (x : Int)) := by
  rcases h with ⟨p, c', hv, rfl, _⟩ | ⟨b, off, cap, hv, hcap, hm, hb, hc⟩
  · simp at hx
  · simp only [Value.slice.injEq] at hv
    obtain ⟨rfl, _, _⟩ := hv
    exact ⟨b, off, rfl, fun w' hw => by rw [bcell hw _ _ hb]; exact hc k x hx⟩
/-- The slice value v is nil, or heads a row from block B on; it reads as these numbers. -/
def OwnU (B : Nat) (w : World) (v : Value) (ns : List Nat) : Prop := w.ownsRow B 26 1 v ns.length (ns.map nu)
theorem OwnU.below {B : Nat} {w w' : World} {v : Value} {ns : List Nat} (h : OwnU B w v ns) (hb : Below w.heap.size w w') : OwnU B w' v ns := ownsRow_below h hb (Nat.le_refl _)
theorem OwnU.nil (B : Nat) (w : World) : OwnU B w (.slice none 0 0) [] := World.ownsRow_nil _ _ _ _
theorem OwnU.rd {B : Nat} {w : World} {v : Value} {ns : List Nat} (h : OwnU B w v ns) : RdU w v ns := by
  rcases h.2 with ⟨hv, hn⟩ | ⟨g, cap, cur, hv, _, hh, hnc, hm, hs, ht⟩
  · exact .inl ⟨none, 0, hv, List.eq_nil_of_length_eq_zero hn, fun _ => rfl⟩
  · refine .inr ⟨g, 0, cap, hv, hnc, hm, (Array.getElem?_eq_some_iff.1 hh).1, fun j x hj => ?_⟩
    have hx : (ns.map nu)[j]? = some (nu x) := by simp [hj]
    rw [Nat.zero_add, cell_of_row w g j cur 26 (0, 0) hh]
    rw [← ht, List.getElem?_take] at hx
    split at hx
    · simpa [nu] using hx
    · cases hx
theorem OwnU.empty (B : Nat) (w : World) {g : Nat} (hg : g = w.heap.size) (hB : B ≤ w.heap.size) : OwnU B (w.alloc (.cells #[] 26)) (.slice (some ⟨g, 0, none⟩) 0 0) [] :=
  ⟨rfl, .inr ⟨g, 0, #[], rfl, by omega, heap_new hg, Nat.le_refl _, Nat.zero_le _, rfl, rfl⟩⟩
theorem info_u64 : (Try.prog.info? 26).map (fun i => (i.zero, i.size, i.bytes)) = some (some (.int .u64 0), 1, 8) := by kernel_rfl

/-- An append onto a row of the call's own, from cells that hold these numbers. -/
theorem run_appU (T : TypeId) (hT : Try.prog.underlying T = some (.slice 26)) (ty : TypeId) (w : World) (B : Nat) (v : Value) (xs : List Nat) (hown : OwnU B w v xs) (vb : Value) (ys : List Nat) (hb : RdU w vb ys) (hl : xs.length + ys.length ≤ 1000000) (hB : B ≤ w.heap.size) :
    ∃ v' w', (Builtin.append_ #[T, T] ty #[v, vb]).run Try.prog w = .ok v' w' ∧ OwnU B w' v' (xs ++ ys) ∧ w.grownBy w' v.ownBlock ∧ (v'.ownBlock = v.ownBlock ∨ v'.ownBlock = some w.heap.size) := by
  obtain ⟨i0, hi, hz0, hz1, hz2⟩ := info_parts info_u64
  rcases hb with ⟨p, c, rfl, rfl, h0⟩ | ⟨g, off, cap, rfl, hcap, hm, hg, hc⟩
  · rcases p with _ | p
    · obtain rfl := h0 rfl
      exact ⟨v, w, run_append_owned_none (P := Try.prog) (w := w) B _ ty 26 i0 1 hT hi v _ _ hown, by simpa using hown, World.grownBy.refl w _, .inl rfl⟩
    · obtain ⟨v', w', hr, ho, hg, _, hv⟩ := run_append_own_at (P := Try.prog) w B T ty 26 i0 (.int .u64 0) 1 8 hT hi hz0 hz1 hz2 rfl (by decide) v _ _ hown p 0 c [] (by simp) (by simp) (by simp) (by unfold maxLen; omega) (by omega) hB
      exact ⟨v', w', hr, by unfold OwnU; simpa using ho, hg, hv⟩
  · obtain ⟨v', w', hr, ho, hg, _, hv⟩ := run_append_own_at (P := Try.prog) w B T ty 26 i0 (.int .u64 0) 1 8 hT hi hz0 hz1 hz2 rfl (by decide) v _ _ hown ⟨g, off, none⟩ ys.length cap (ys.map nu) (by simp) (by
        intro j u hj
        have hlt : j < ys.length := by
          have := (List.getElem?_eq_some_iff.1 hj).1
          simpa using this
        rw [Addr.add_lit, hc j ys[j] (List.getElem?_eq_getElem hlt)]
        simpa [hlt, nu] using hj) (by intro u hu; obtain ⟨_, _, rfl⟩ := List.mem_map.1 hu; rfl) (by unfold maxLen; omega) (by omega) hB
    exact ⟨v', w', hr, by unfold OwnU; simpa using ho, hg, hv⟩
theorem wp_appU (T : TypeId) (hT : Try.prog.underlying T = some (.slice 26)) {ops : Array Oper} {rest : List Oper} {o : Oper} {a : Act} {Q : Exit → Act → World → Prop} {w : World} (hgd : o.guard = none) (s x : Operand)
    (ho : o.op = Op.call { callee := Callee.builtin Builtin.append, args := #[s, x], argTypes := #[T, T] }) (B : Nat) (v : Value) (xs : List Nat) (hs : a.eval s = v) (hown : OwnU B w v xs)
    (vb : Value) (ys : List Nat) (hx : a.eval x = vb) (hb : RdU w vb ys) (hl : xs.length + ys.length ≤ 1000000) (hB : B ≤ w.heap.size)
    (h : ∀ v' w', OwnU B w' v' (xs ++ ys) → Below B w w' → w.grownBy w' v.ownBlock → (v'.ownBlock = v.ownBlock ∨ v'.ownBlock = some w.heap.size) → wpList Try.prog ops Q rest (a.put o.dst v') w') :
    wpList Try.prog ops Q (o :: rest) a w := by
  obtain ⟨v', w', hr, h1, h2, h3⟩ := run_appU T hT o.type w B v xs hown vb ys hb hl hB
  exact Lib.wpList_append_run w hgd s x _ _ ho v vb hs hx v' w' hr (h v' w' h1 ((Below.refl B w).grown h2 hB (fun k hk => (World.ownsRow.lt hown k hk).1)) h2 h3)
end Go.Proofs.Ytepafmoohlognaa
