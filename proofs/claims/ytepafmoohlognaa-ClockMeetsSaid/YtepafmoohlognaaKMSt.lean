/-
The state of ClockMeets' loop; a whole row stored as a step of a drawing region.
-/
import Derived.Test.YtepafmoohlognaaKMeetM
import Derived.Test.YtepafmoohlognaaKAwake
namespace Go.Proofs.Ytepafmoohlognaa
open Go.RowKit

/-- A row of unsigned integers is kept where its block is. -/
theorem RdU.other {w w' : World} {v : Value} {ns : List Nat} (h : RdU w v ns) (hs : w.heap.size ≤ w'.heap.size) (hb : ns = [] ∨ ∀ b, v.ownBlock = some b → w'.heap[b]? = w.heap[b]?) : RdU w' v ns := by
  rcases h with h | ⟨b, off, cap, rfl, hcap, hm, hlt, hc⟩
  · exact .inl h
  · rcases hb with rfl | hb
    · exact .inl ⟨_, cap, rfl, rfl, fun e => by cases e⟩
    · have hbb := hb b rfl
      exact .inr ⟨b, off, cap, rfl, hcap, hm, Nat.lt_of_lt_of_le hlt hs, fun j x hx => (World.cell?_of_block (a := ⟨b, off + j, none⟩) hbb).trans (hc j x hx)⟩
theorem RdU.block_lt {w : World} {v : Value} {ns : List Nat} (h : RdU w v ns) (hne : ns ≠ []) {b : Nat} (hb : v.ownBlock = some b) : b < w.heap.size := by
  rcases h with ⟨_, _, _, rfl, _⟩ | ⟨b', off, cap, rfl, hcap, hm, hlt, hc⟩
  · exact absurd rfl hne
  · obtain rfl : b' = b := Option.some.inj hb
    exact hlt
/-- The law's memory in the round: v: the clocks gathered, jn: their join, F: what they have in common. -/
structure St (w wr : World) (v jn : Value) (us : List Value) (F J : List Nat) : Prop where
  own : OwnV (w.heap.size + 1) wr v us
  row : Row wr w.heap.size F
  jrd : RdU wr jn J
  jb : J = [] ∨ ∀ b, jn.ownBlock = some b → b ≠ w.heap.size ∧ v.ownBlock ≠ some b
  bel : Below w.heap.size w wr
theorem St.below {w wr w' : World} {v jn : Value} {us : List Value} {F J : List Nat} (h : St w wr v jn us F J) (hb : Below wr.heap.size wr w') : St w w' v jn us F J :=
  ⟨h.own.below hb, h.row.below hb, h.jrd.below hb, h.jb, h.bel.trans (hb.mono h.bel.size)⟩
theorem St.app {w wr w' : World} {v v' jn : Value} {us us' : List Value} {F J : List Nat} (h : St w wr v jn us F J) (ho : OwnV (w.heap.size + 1) w' v' us') (hg : wr.grownBy w' v.ownBlock) (hv : v'.ownBlock = v.ownBlock ∨ v'.ownBlock = some wr.heap.size) : St w w' v' jn us' F J := by
  have hlt := fun k hk => World.ownsRow.lt h.own k hk
  refine ⟨ho, ?_, ?_, ?_, ?_⟩
  · exact h.row.block (hg.block _ h.row.lt (fun e => by have := (hlt _ e.symm).1; omega))
  · refine h.jrd.other hg.size ?_
    rcases h.jb with hj | hj
    · exact .inl hj
    · by_cases hJ : J = []
      · exact .inl hJ
      · exact .inr fun b hb => hg.block b (h.jrd.block_lt hJ hb) (fun e => (hj b hb).2 e.symm)
  · rcases h.jb with hj | hj
    · exact .inl hj
    · by_cases hJ : J = []
      · exact .inl hJ
      · refine .inr fun b hb => ⟨(hj b hb).1, ?_⟩
        rcases hv with e | e
        · rw [e]; exact (hj b hb).2
        · rw [e]; intro e2; have := h.jrd.block_lt hJ hb; have := Option.some.inj e2; omega
  · exact h.bel.grown hg h.bel.size (fun k hk => by have := (hlt k hk).1; omega)
theorem St.store {w wr w' : World} {v jn : Value} {us : List Value} {F G J : List Nat} (h : St w wr v jn us F J) (hr : Row w' w.heap.size G) (ho : ∀ k, k ≠ w.heap.size → w'.heap[k]? = wr.heap[k]?) (hb : ∀ B, B ≤ w.heap.size → Below B wr w') : St w w' v jn us G J := by
  have hs : wr.heap.size ≤ w'.heap.size := (hb _ (Nat.le_refl _)).size
  refine ⟨⟨h.own.1, ?_⟩, hr, ?_, h.jb, h.bel.trans (hb _ (Nat.le_refl _))⟩
  · rcases h.own.2 with e | ⟨g, cap, cur, e1, e2, e3, e4⟩
    · exact .inl e
    · exact .inr ⟨g, cap, cur, e1, e2, by rw [ho g (by omega)]; exact e3, e4⟩
  · refine h.jrd.other hs ?_
    rcases h.jb with hj | hj
    · exact .inl hj
    · exact .inr fun b hb2 => ho b (hj b hb2).1
theorem St.join {w wr w' : World} {v jn jn' x : Value} {us : List Value} {F J J' xs : List Nat} (h : St w wr v jn us F J) (hx : RdU w x xs) (hr : RdU w' jn' J') (hb : Below wr.heap.size wr w')
    (hc : J' = [] ∨ ∀ k, jn'.ownBlock = some k → (jn.ownBlock = some k ∧ J ≠ []) ∨ (x.ownBlock = some k ∧ xs ≠ []) ∨ wr.heap.size ≤ k) : St w w' v jn' us F J' := by
  have hlt := fun k hk => World.ownsRow.lt h.own k hk
  refine ⟨h.own.below hb, h.row.below hb, hr, ?_, h.bel.trans (hb.mono h.bel.size)⟩
  rcases hc with hc | hc
  · exact .inl hc
  · refine .inr fun b hb2 => ?_
    rcases hc b hb2 with ⟨e, hJ⟩ | ⟨e, hX⟩ | e
    · rcases h.jb with hj | hj
      · exact absurd hj hJ
      · exact hj b e
    · have := hx.block_lt hX e
      exact ⟨by omega, fun e2 => by have := (hlt b e2).1; omega⟩
    · refine ⟨fun e2 => by have := h.row.lt; omega, fun e2 => by have := (hlt b e2).2; omega⟩
theorem step_storeF {ops : Array Oper} {o : Oper} {a : Act} {K : Act → World → Prop} {Q : Exit → Act → World → Prop} {E : Prop} {w : World} (hgd : o.guard = none) (x y : Operand) (ho : o.op = .store 28 x y)
    (g : Nat) (hx : a.eval x = .pointer (some ⟨g, 0, none⟩)) (F G : List Nat) (hy : a.eval y = .agg (fullA G)) (hr : Row w g F) (hG : G.length = 64)
    (h : ∀ w', Row w' g G → (∀ k, k ≠ g → w'.heap[k]? = w.heap[k]?) → (∀ B, B ≤ g → Below B w w') → K (a.put o.dst undef) w') :
    if Region.wanted o (yielded ops a.tmps) = true then Oper.wp Try.prog o a w K Q else E := by
  have hw : Region.wanted o (yielded ops a.tmps) = true := by simp [Region.wanted, hgd]
  rw [if_pos hw]
  have hsz : (fullA G).size = 64 := by rw [fullA_size]; exact hG
  have e : (fullA G).toList = G.map nu := by simp [fullA]
  have hK := h _ (hr.store hG) (fun k hk => setCells_other g _ 0 w k hk) (fun B hB => setCells_below g B hB _ 0 w)
  rw [← e] at hK
  exact wp_store_mid 28 x y ho g 0 (fullA G) hx hy (by rw [hsz]; exact hr.there) (by rw [info_full, hsz]) (fullA_one G) hK
theorem zero_lit : fullA zeroF = #[.int .u64 0, .int .u64 0, .int .u64 0, .int .u64 0, .int .u64 0, .int .u64 0, .int .u64 0, .int .u64 0, .int .u64 0, .int .u64 0, .int .u64 0, .int .u64 0, .int .u64 0, .int .u64 0, .int .u64 0, .int .u64 0, .int .u64 0, .int .u64 0, .int .u64 0, .int .u64 0, .int .u64 0, .int .u64 0, .int .u64 0, .int .u64 0, .int .u64 0, .int .u64 0, .int .u64 0, .int .u64 0, .int .u64 0, .int .u64 0, .int .u64 0, .int .u64 0, .int .u64 0, .int .u64 0, .int .u64 0, .int .u64 0, .int .u64 0, .int .u64 0, .int .u64 0, .int .u64 0, .int .u64 0, .int .u64 0, .int .u64 0, .int .u64 0, .int .u64 0, .int .u64 0, .int .u64 0, .int .u64 0, .int .u64 0, .int .u64 0, .int .u64 0, .int .u64 0, .int .u64 0, .int .u64 0, .int .u64 0, .int .u64 0, .int .u64 0, .int .u64 0, .int .u64 0, .int .u64 0, .int .u64 0, .int .u64 0, .int .u64 0, .int .u64 0] := by kernel_rfl
theorem row_zero (w : World) : Row (w.alloc (.cells #[.int .u64 0, .int .u64 0, .int .u64 0, .int .u64 0, .int .u64 0, .int .u64 0, .int .u64 0, .int .u64 0, .int .u64 0, .int .u64 0, .int .u64 0, .int .u64 0, .int .u64 0, .int .u64 0, .int .u64 0, .int .u64 0, .int .u64 0, .int .u64 0, .int .u64 0, .int .u64 0, .int .u64 0, .int .u64 0, .int .u64 0, .int .u64 0, .int .u64 0, .int .u64 0, .int .u64 0, .int .u64 0, .int .u64 0, .int .u64 0, .int .u64 0, .int .u64 0, .int .u64 0, .int .u64 0, .int .u64 0, .int .u64 0, .int .u64 0, .int .u64 0, .int .u64 0, .int .u64 0, .int .u64 0, .int .u64 0, .int .u64 0, .int .u64 0, .int .u64 0, .int .u64 0, .int .u64 0, .int .u64 0, .int .u64 0, .int .u64 0, .int .u64 0, .int .u64 0, .int .u64 0, .int .u64 0, .int .u64 0, .int .u64 0, .int .u64 0, .int .u64 0, .int .u64 0, .int .u64 0, .int .u64 0, .int .u64 0, .int .u64 0, .int .u64 0] 28)) w.heap.size zeroF := by
  rw [← zero_lit]
  exact row_new rfl rfl
end Go.Proofs.Ytepafmoohlognaa
