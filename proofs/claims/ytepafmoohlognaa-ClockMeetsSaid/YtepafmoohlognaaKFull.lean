/-
The reference of stage 6: sixty-four numbers as one value; Join and Meet, by contracts.
-/
import Derived.Test.YtepafmoohlognaaBReadU
import Derived.Deep.MidRow
import Derived.Deep.WholeRow
import Derived.Deep.QuietTactic
import Derived.BigQuiet
namespace Go.Proofs.Ytepafmoohlognaa
open Go.RowKit

def fullA (F : List Nat) : Array Value := (F.map nu).toArray
theorem fullA_size (F : List Nat) : (fullA F).size = F.length := by simp [fullA]
theorem fullA_get {F : List Nat} {k x : Nat} (h : F[k]? = some x) : (fullA F)[k]? = some (nu x) := by simp [fullA, h]
theorem fullA_one (F : List Nat) : (fullA F).all (·.oneCell') = true := by
  refine Array.all_eq_true_iff_forall_mem.2 fun v hv => ?_
  unfold fullA at hv
  obtain ⟨x, _, rfl⟩ := List.mem_map.1 (by simpa using hv : v ∈ F.map nu)
  rfl
theorem info_full : (Try.prog.info? 28).map (·.size) = some 64 := by kernel_rfl
/-- Block g is these numbers. -/
def Row (w : World) (g : Nat) (F : List Nat) : Prop := w.heap[g]? = some (.cells (fullA F) 28 (0, 0)) ∧ F.length = 64
section
variable {w w' : World} {g : Nat} {F : List Nat}
theorem Row.lt (h : Row w g F) : g < w.heap.size := (Array.getElem?_eq_some_iff.1 h.1).1
theorem Row.cell (h : Row w g F) {k x : Nat} (hx : F[k]? = some x) : w.cell? ⟨g, k, none⟩ = some (.int .u64 (x : Int)) := by rw [cell_of_row w g k _ _ _ h.1]; exact fullA_get hx
theorem Row.frozen (h : Row w g F) (k : Nat) : w.frozen? ⟨g, k, none⟩ = false := by have := h.1; simp [World.frozen?, this]
theorem Row.range (h : Row w g F) : w.rangeAt g 0 (F.map nu) := fun j v hv => by
  rw [Nat.zero_add, cell_of_row w g j _ _ _ h.1]
  simpa [fullA] using hv
theorem Row.there (h : Row w g F) : w.there g 0 64 := fun j hj => by
  obtain ⟨x, hx⟩ : ∃ x, F[j]? = some x := ⟨_, List.getElem?_eq_getElem (by rw [h.2]; exact hj)⟩
  rw [Nat.zero_add]
  exact ⟨by rw [h.cell hx]; rfl, h.frozen j⟩
theorem Row.block (h : Row w g F) (hb : w'.heap[g]? = w.heap[g]?) : Row w' g F := ⟨hb.trans h.1, h.2⟩
theorem Row.below (h : Row w g F) (hb : Below w.heap.size w w') : Row w' g F := h.block (hb.block g h.lt)
/-- One number is stored. -/
theorem Row.set (h : Row w g F) (k x : Nat) : Row (w.setCell ⟨g, k, none⟩ (nu x)) g (F.set k x) := by
  refine ⟨?_, by simp [h.2]⟩
  have := h.1
  simp [World.setCell, Array.getElem?_modify, this, fullA, List.map_set]
theorem setCells_heap (g : Nat) : ∀ (vs : List Value) (o : Nat) (w : World) (cs : Array Value) (t : TypeId) (fr : Nat × Nat), w.heap[g]? = some (.cells cs t fr) → ∃ cs' : Array Value, (w.setCells g o vs).heap[g]? = some (.cells cs' t fr) ∧ cs'.size = cs.size ∧ (∀ i, i < o ∨ o + vs.length ≤ i → cs'[i]? = cs[i]?) ∧ (∀ i v, vs[i]? = some v → o + i < cs.size → cs'[o + i]? = some v)
  | [], o, w, cs, t, fr, h => ⟨cs, h, rfl, fun _ _ => rfl, fun i v hv => by simp at hv⟩
  | u :: r, o, w, cs, t, fr, h => by
    have h1 : (w.setCell ⟨g, o, none⟩ u).heap[g]? = some (.cells (cs.setIfInBounds o u) t fr) := by simp [World.setCell, Array.getElem?_modify, h]
    obtain ⟨cs', e1, e2, e3, e4⟩ := setCells_heap g r (o + 1) (w.setCell ⟨g, o, none⟩ u) _ t fr h1
    refine ⟨cs', by rw [World.setCells]; exact e1, by rw [e2]; simp, fun i hi => ?_, fun i v hv hlt => ?_⟩
    · rw [e3 i (by rcases hi with h | h; exact .inl (by omega); exact .inr (by simp at h; omega))]
      rw [Array.getElem?_setIfInBounds_ne (by rcases hi with h | h; omega; (simp at h; omega))]
    · rcases i with _ | i
      · simp at hv; subst hv
        rw [Nat.add_zero, e3 o (.inl (by omega))]
        rw [Array.getElem?_setIfInBounds_self_of_lt (by simpa using hlt)]
      · have := e4 i v (by simpa using hv) (by simp; omega)
        rw [show o + 1 + i = o + (i + 1) from by omega] at this
        exact this
/-- All numbers are stored at once. -/
theorem Row.store (h : Row w g F) {G : List Nat} (hG : G.length = 64) : Row (w.setCells g 0 (G.map nu)) g G := by
  obtain ⟨cs', e1, e2, _, e4⟩ := setCells_heap g (G.map nu) 0 w _ _ _ h.1
  refine ⟨?_, hG⟩
  rw [e1]
  have : cs' = fullA G := by
    apply Array.ext_getElem?
    intro i
    rcases Nat.lt_or_ge i 64 with hi | hi
    · obtain ⟨x, hx⟩ : ∃ x, G[i]? = some x := ⟨_, List.getElem?_eq_getElem (by omega)⟩
      rw [fullA_get hx]
      have := e4 i (nu x) (by simp [hx]) (by rw [Nat.zero_add, fullA_size, h.2]; exact hi)
      rwa [Nat.zero_add] at this
    · rw [Array.getElem?_eq_none (by rw [e2, fullA_size, h.2]; exact hi), Array.getElem?_eq_none (by rw [fullA_size, hG]; exact hi)]
  rw [this]
theorem setCells_other (g : Nat) : ∀ (vs : List Value) (o : Nat) (w : World) (k : Nat), k ≠ g → (w.setCells g o vs).heap[k]? = w.heap[k]?
  | [], _, _, _, _ => rfl
  | u :: r, o, w, k, h => by
    rw [World.setCells, setCells_other g r (o + 1) _ k h]
    exact Below.heap_setCell w _ u k h
theorem setCells_below (g : Nat) (B : Nat) (hg : B ≤ g) : ∀ (vs : List Value) (o : Nat) (w : World), Below B w (w.setCells g o vs)
  | [], _, w => Below.refl _ _
  | u :: r, o, w => by
    rw [World.setCells]
    exact ((Below.refl B w).setCell (p := ⟨g, o, none⟩) hg u).trans (setCells_below g B hg r (o + 1) _)
end
theorem row_new {w : World} {g : Nat} {F : List Nat} (hg : g = w.heap.size) (hF : F.length = 64) : Row (w.alloc (.cells (fullA F) 28)) g F := ⟨heap_new hg, hF⟩

/-- The whole row is read. -/
theorem wp_loadF {ops : Array Oper} {rest : List Oper} {op : Oper} {a : Act} {w : World} {Q : Exit → Act → World → Prop} (hgd : op.guard = none) (x : Operand) (ho : op.op = .load 28 x)
    (g : Nat) (hx : a.eval x = .pointer (some ⟨g, 0, none⟩)) (F : List Nat) (hr : Row w g F) (h : wpList Try.prog ops Q rest (a.put op.dst (.agg (fullA F))) w) : wpList Try.prog ops Q (op :: rest) a w :=
  wpList_load_mid hgd 28 x ho g 0 hx (F.map nu) _ hr.range Try.underlying28 rfl (by rw [info_full]; simp [hr.2]) h
/-- The whole row is written. -/
theorem wp_storeF {ops : Array Oper} {rest : List Oper} {op : Oper} {a : Act} {w : World} {Q : Exit → Act → World → Prop} (hgd : op.guard = none) (x y : Operand) (ho : op.op = .store 28 x y)
    (g : Nat) (hx : a.eval x = .pointer (some ⟨g, 0, none⟩)) (F G : List Nat) (hy : a.eval y = .agg (fullA G)) (hr : Row w g F) (hG : G.length = 64)
    (h : ∀ w', Row w' g G → (∀ k, k ≠ g → w'.heap[k]? = w.heap[k]?) → (∀ B, B ≤ g → Below B w w') → wpList Try.prog ops Q rest (a.put op.dst undef) w') : wpList Try.prog ops Q (op :: rest) a w := by
  have hsz : (fullA G).size = 64 := by rw [fullA_size]; exact hG
  refine wpList_store_mid hgd 28 x y ho g 0 (fullA G) hx hy (by rw [hsz]; exact hr.there) (by rw [info_full, hsz]) (fullA_one G) ?_
  have e : (fullA G).toList = G.map nu := by simp [fullA]
  rw [e]
  exact h _ (hr.store hG) (fun k hk => setCells_other g _ 0 w k hk) (fun B hB => setCells_below g B hB _ 0 w)
theorem loadF {w : World} {g : Nat} {F : List Nat} (hr : Row w g F) : (loadVar 28 ⟨g, 0, none⟩).run Try.prog w = .ok (.agg (fullA F)) w :=
  run_loadVar_mid w g 0 28 (F.map nu) _ hr.range Try.underlying28 rfl (by rw [info_full]; simp [hr.2])
end Go.Proofs.Ytepafmoohlognaa
