/-
The law's few, by its contract: the numbers among the first thirty, as the program's numbers and as pairs.
-/
import Derived.Test.YtkppkojpdhgicaaDoorGRefM
import Derived.Laws.AppendOwn
namespace Go.Proofs.YtkppkojpdhgicaaDoor
open Go.RowKit Go.Proofs.YtkppkojpdhgicaaDoor.Gf

def cvp (x : Int × Int) : Value := cv x.1 x.2
def prs (x : Int × Int) : List Value := [.int .i64 x.1, .int .i64 x.2]
/-- The slice value v is the call's own and reads as these numbers. -/
def OwnC (B : Nat) (w : World) (v : Value) (xs : List (Int × Int)) : Prop := w.ownsRow B 23 1 v xs.length (xs.map cvp)
/-- The slice value v is the call's own and reads as these pairs. -/
def OwnP (B : Nat) (w : World) (v : Value) (xs : List (Int × Int)) : Prop := w.ownsRow B 28 2 v xs.length (xs.flatMap prs)

theorem ownsRow_below {w w' : World} {K B e s n : Nat} {v : Value} {xs : List Value} (h : w.ownsRow B e s v n xs) (hb : Below K w w') (hK : w.heap.size ≤ K) : w'.ownsRow B e s v n xs := by
  refine ⟨h.1, ?_⟩
  rcases h.2 with h2 | ⟨g, cap, cur, hv, hg, hh, r⟩
  · exact .inl h2
  · have hlt := (Array.getElem?_eq_some_iff.1 hh).1
    exact .inr ⟨g, cap, cur, hv, hg, by rw [hb.block g (by omega)]; exact hh, r⟩
theorem OwnC.below {B : Nat} {w w' : World} {v : Value} {xs : List (Int × Int)} (h : OwnC B w v xs) (hb : Below w.heap.size w w') : OwnC B w' v xs := ownsRow_below h hb (Nat.le_refl _)
theorem OwnP.below {B : Nat} {w w' : World} {v : Value} {xs : List (Int × Int)} (h : OwnP B w v xs) (hb : Below w.heap.size w w') : OwnP B w' v xs := ownsRow_below h hb (Nat.le_refl _)
theorem apart_own {B : Nat} {w : World} {v v2 : Value} {xs ys : List (Int × Int)} (h : OwnC B w v xs) (k : OwnP B w v2 ys) : (v2.ownBlock = none ∨ v2.ownBlock ≠ v.ownBlock) ∧ (v.ownBlock = none ∨ v.ownBlock ≠ v2.ownBlock) := by
  rcases h.2 with ⟨rfl, _⟩ | ⟨g, cap, cur, rfl, _, hh, _⟩
  · rcases k.2 with ⟨rfl, _⟩ | ⟨g2, cap2, cur2, rfl, _, hh2, _⟩
    · exact ⟨.inl rfl, .inl rfl⟩
    · exact ⟨.inr (by simp [Value.ownBlock]), .inl rfl⟩
  · rcases k.2 with ⟨rfl, _⟩ | ⟨g2, cap2, cur2, rfl, _, hh2, _⟩
    · exact ⟨.inl rfl, .inr (by simp [Value.ownBlock])⟩
    · have hne : g ≠ g2 := by
        rintro rfl
        rw [hh] at hh2
        cases hh2
      exact ⟨.inr (by simp [Value.ownBlock]; omega), .inr (by simp [Value.ownBlock]; omega)⟩

theorem info_num : (Tryd.prog.info? 23).map (fun i => (i.zero, i.size, i.bytes)) = some (some (.complex .f64 0 0), 1, 16) := by kernel_rfl
theorem info_pair : (Tryd.prog.info? 28).map (fun i => (i.zero, i.size, i.bytes)) = some (some (.agg #[.int .i64 0, .int .i64 0]), 2, 16) := by kernel_rfl

/-- One number more. -/
theorem wp_appC {ops : Array Oper} {rest : List Oper} {o : Oper} {a : Act} {Q : Exit → Act → World → Prop} {w : World} (hgd : o.guard = none) (s x : Operand)
    (ho : o.op = Op.call { callee := Callee.builtin Builtin.append, args := #[s, x], argTypes := #[34, 34] }) (B : Nat) (v : Value) (xs : List (Int × Int)) (hs : a.eval s = v) (hown : OwnC B w v xs)
    (c d : Int) (hx : a.eval x = .slice (some ⟨w.heap.size, 0, none⟩) 1 1) (hl : xs.length + 1 ≤ 1000) (hB : B ≤ w.heap.size) (vf : Value) (ys : List (Int × Int)) (hf : OwnP B w vf ys)
    (h : ∀ v' w', OwnC B w' v' (xs ++ [(c, d)]) → OwnP B w' vf ys → Below B w w' → w.heap.size < w'.heap.size → wpList Tryd.prog ops Q rest (a.put o.dst v') w') :
    wpList Tryd.prog ops Q (o :: rest) a (w.alloc (.cells #[cv c d] 23)) := by
  obtain ⟨i0, hi, hz0, hz1, hz2⟩ := info_parts info_num
  have hap := (apart_own hown hf).1
  refine wpList_append_own _ hgd s x _ ho B 23 i0 (.complex .f64 0 0) 1 16 Tryd.underlying34 hi hz0 hz1 hz2 rfl (by decide) v _ _ hs (World.ownsRow.alloc hown _) ⟨w.heap.size, 0, none⟩ 1 1 [cvp (c, d)] hx rfl (cell_one_new _ _ _) ?_ ?_ ?_ ?_ ?_
  · intro u hu; simp at hu; subst hu; rfl
  · unfold maxLen; omega
  · omega
  · simp; omega
  · intro v' w' ho' hg' _
    have hbel : Below B w w' := ((Below.refl B w).alloc hB _).grown hg' (by simp; omega) (fun k hk => (World.ownsRow.lt hown k hk).1)
    have hsz := hg'.size
    refine h v' w' ?_ (World.ownsRow.kept (World.ownsRow.alloc hf _) hg' hap) hbel (by simp at hsz; omega)
    unfold OwnC
    simpa using ho'
theorem cell_two_new (w : World) (u v : Value) (T : TypeId) : ∀ (j : Nat) (z : Value), [u, v][j]? = some z → (w.alloc (.cells #[u, v] T)).cell? (Addr.add ⟨w.heap.size, 0, none⟩ j) = some z := by
  intro j z hz
  have h0 : (w.alloc (.cells #[u, v] T)).heap[w.heap.size]? = some (.cells #[u, v] T (0, 0)) := heap_alloc_new w _
  rw [Addr.add_lit, Nat.zero_add, cell_of_row _ _ j _ _ _ h0]
  simpa using hz
/-- One pair more. -/
theorem wp_appP {ops : Array Oper} {rest : List Oper} {o : Oper} {a : Act} {Q : Exit → Act → World → Prop} {w : World} (hgd : o.guard = none) (s x : Operand)
    (ho : o.op = Op.call { callee := Callee.builtin Builtin.append, args := #[s, x], argTypes := #[33, 33] }) (B : Nat) (v : Value) (xs : List (Int × Int)) (hs : a.eval s = v) (hown : OwnP B w v xs)
    (c d : Int) (hx : a.eval x = .slice (some ⟨w.heap.size, 0, none⟩) 1 1) (hl : xs.length + 1 ≤ 1000) (hB : B ≤ w.heap.size) (vf : Value) (ys : List (Int × Int)) (hf : OwnC B w vf ys)
    (h : ∀ v' w', OwnP B w' v' (xs ++ [(c, d)]) → OwnC B w' vf ys → Below B w w' → w.heap.size < w'.heap.size → wpList Tryd.prog ops Q rest (a.put o.dst v') w') :
    wpList Tryd.prog ops Q (o :: rest) a (w.alloc (.cells #[.int .i64 c, .int .i64 d] 28)) := by
  obtain ⟨i0, hi, hz0, hz1, hz2⟩ := info_parts info_pair
  have hap := (apart_own hf hown).2
  refine wpList_append_own _ hgd s x _ ho B 28 i0 (.agg #[.int .i64 0, .int .i64 0]) 2 16 Tryd.underlying33 hi hz0 hz1 hz2 rfl (by decide) v _ _ hs (World.ownsRow.alloc hown _) ⟨w.heap.size, 0, none⟩ 1 1 (prs (c, d)) hx rfl (cell_two_new _ _ _ _) ?_ ?_ ?_ ?_ ?_
  · intro u hu; simp [prs] at hu; rcases hu with rfl | rfl <;> rfl
  · unfold maxLen; omega
  · omega
  · simp; omega
  · intro v' w' ho' hg' _
    have hbel : Below B w w' := ((Below.refl B w).alloc hB _).grown hg' (by simp; omega) (fun k hk => (World.ownsRow.lt hown k hk).1)
    have hsz := hg'.size
    refine h v' w' ?_ (World.ownsRow.kept (World.ownsRow.alloc hf _) hg' hap) hbel (by simp at hsz; omega)
    unfold OwnP
    simpa using ho'

/-- Those that may be, in their order. -/
def fl (xs : List (Int × Int)) : List (Int × Int) := xs.filter fun x => decide (Rg x.1 x.2)
theorem fl_in {xs : List (Int × Int)} {k : Nat} {x : Int × Int} (hx : xs[k]? = some x) (h : Rg x.1 x.2) : fl (xs.take (k + 1)) = fl (xs.take k) ++ [x] := by
  obtain ⟨h1, h2⟩ := List.getElem?_eq_some_iff.1 hx
  unfold fl
  rw [List.take_succ_eq_append_getElem h1, h2, List.filter_append]
  simp [List.filter_cons, h]
theorem fl_out {xs : List (Int × Int)} {k : Nat} {x : Int × Int} (hx : xs[k]? = some x) (h : ¬ Rg x.1 x.2) : fl (xs.take (k + 1)) = fl (xs.take k) := by
  obtain ⟨h1, h2⟩ := List.getElem?_eq_some_iff.1 hx
  unfold fl
  rw [List.take_succ_eq_append_getElem h1, h2, List.filter_append]
  simp [List.filter_cons, h]
theorem fl_len (xs : List (Int × Int)) (k : Nat) : (fl (xs.take k)).length ≤ k := by
  unfold fl
  exact Nat.le_trans (List.length_filter_le _ _) (List.length_take_le _ _)
theorem fl_rg {xs : List (Int × Int)} : ∀ x ∈ fl xs, Rg x.1 x.2 := fun x hx => by
  have := (List.mem_filter.1 hx).2
  simpa using this
end Go.Proofs.YtkppkojpdhgicaaDoor
