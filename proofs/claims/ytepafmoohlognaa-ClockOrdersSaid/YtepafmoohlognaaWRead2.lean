/-
wire.Read once more: the Reader's bytes are its own.
-/
import Derived.Test.YtepafmoohlognaaWReader
namespace Go.Proofs.Ytepafmoohlognaa
open Go.RowKit

set_option maxRecDepth 20000 in
theorem read_own (v : Value) (xs : List Nat) (w : World) (h : Rd w v xs) (hl : xs.length ≤ 100000) :
    Calls Try.prog 19 #[v] w fun e w' => ∃ g v', e = .returned (.pointer (some ⟨g, 0, none⟩)) ∧ Rr w.heap.size w' g v' xs false ∧ Below w.heap.size w w' ∧ ∀ k, v'.ownBlock = some k → w.heap.size ≤ k := by
  have hcl := clone_any v xs w h (by omega)
  have HC := Lib.hid hcl
  clear h hl hcl
  go_enter Try.func19, Try.ntmps19
  go_wp2_with (go_at_call 34; (with_reducible refine (HC.out).mono ?_); rintro e w1 ⟨v1, rfl, hown1, hbel1⟩; have HO := Lib.hid hown1; have hsz1 := hbel1.size; (obtain ⟨A1, n1, c1, rfl, hn1⟩ := hown1.rd.named); clear hn1 hown1)
  go_ret
  have hlt : ∀ k, (Value.slice A1 n1 c1).ownBlock = some k → k < w1.heap.size := fun k hk => (World.ownsRow.lt HO.out k hk).2
  have hrd : Rd w1 (.slice A1 n1 c1) xs := HO.out.rd
  exact ⟨w1.heap.size, _, rfl, ⟨hsz1, heap_new rfl, hrd.below (below_alloc _ _), fun e => absurd (hlt _ e) (Nat.lt_irrefl _), fun h => by cases h⟩, hbel1.alloc hsz1 _, HO.out.base_le⟩
/-- Kept where another Reader moves on. -/
theorem Rr.otherG {B g g' : Nat} {w w' : World} {v : Value} {xs : List Nat} {bad : Bool} (h : Rr B w g v xs bad) (hk : KeptG g' w w') (hne : g ≠ g') (hv : v.ownBlock ≠ some g') : Rr B w' g v xs bad :=
  ⟨h.1, (hk.block g h.lt hne (by simp [Value.ownBlock])).trans h.2.1, h.2.2.1.keptG hk hv, h.2.2.2⟩
theorem Rr.otherNil {B g g' : Nat} {w w' : World} {v : Value} {bad : Bool} (h : Rr B w g v [] bad) (hk : KeptG g' w w') (hne : g ≠ g') : Rr B w' g v [] bad := by
  refine ⟨h.1, (hk.block g h.lt hne (by simp [Value.ownBlock])).trans h.2.1, ?_, h.2.2.2⟩
  rcases h.2.2.1 with h1 | ⟨b, off, cap, h1, hcap, hm, hlt, hc⟩
  · exact .inl h1
  · exact .inl ⟨_, cap, h1, rfl, fun e => by cases e⟩
end Go.Proofs.Ytepafmoohlognaa
