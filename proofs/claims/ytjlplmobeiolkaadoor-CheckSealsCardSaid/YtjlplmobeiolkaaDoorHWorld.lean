/-
What reads, kept in later worlds; appends; the chapter's example (awake).
-/
import Derived.Test.YtjlplmobeiolkaaDoorHSum
import Derived.Below
import Derived.Laws.AppendOwn
import Derived.Laws.AppendOwnNone
namespace Go.Proofs.YtjlplmobeiolkaaDoor
open Go.RowKit
open Crc (st stN by8 run sumN tab nib)

theorem bcell {W w1 : World} (hb : Below W.heap.size W w1) : ∀ b o, b < W.heap.size → w1.cell? ⟨b, o, none⟩ = W.cell? ⟨b, o, none⟩ :=
  fun b o h => hb.cell (p := ⟨b, o, none⟩) h
theorem Rd.below {w w' : World} {v : Value} {xs : List Nat} (h : Rd w v xs) (hb : Below w.heap.size w w') : Rd w' v xs := by
  rcases h with h | ⟨b, off, cap, rfl, hcap, hm, hlt, hc⟩
  · exact .inl h
  · exact .inr ⟨b, off, cap, rfl, hcap, hm, Nat.lt_of_lt_of_le hlt hb.size, fun j x hx => by rw [bcell hb _ _ hlt]; exact hc j x hx⟩
theorem RdP.below {w w' : World} {v : Value} {pss : List (List Nat)} (h : RdP w v pss) (hb : Below w.heap.size w w') : RdP w' v pss := by
  rcases h with h | ⟨b, off, cap, rfl, hcap, hm, hlt, hc⟩
  · exact .inl h
  · refine .inr ⟨b, off, cap, rfl, hcap, hm, Nat.lt_of_lt_of_le hlt hb.size, fun j x hx => ?_⟩
    obtain ⟨u, hu, hr⟩ := hc j x hx
    exact ⟨u, by rw [bcell hb _ _ hlt]; exact hu, hr.below hb⟩
theorem Tab.lt {w : World} (h : Tab w) : 0 < w.heap.size := World.block_lt_of_cell? _ _ (h 0 (by decide))
theorem Tab.below {w w' : World} (h : Tab w) (hb : Below w.heap.size w w') : Tab w' := fun r hr => by
  rw [bcell hb _ _ h.lt]; exact h r hr

/-- The slice value v is nil, or heads a row from block B on; it reads as these bytes. -/
def Own (B : Nat) (w : World) (v : Value) (xs : List Nat) : Prop := w.ownsRow B 5 1 v xs.length (xs.map nv)
theorem ownsRow_below {w w' : World} {K B e s n : Nat} {v : Value} {xs : List Value} (h : w.ownsRow B e s v n xs) (hb : Below K w w') (hK : w.heap.size ≤ K) : w'.ownsRow B e s v n xs := by
  refine ⟨h.1, ?_⟩
  rcases h.2 with h2 | ⟨g, cap, cur, hv, hg, hh, r⟩
  · exact .inl h2
  · have hlt := (Array.getElem?_eq_some_iff.1 hh).1
    exact .inr ⟨g, cap, cur, hv, hg, by rw [hb.block g (by omega)]; exact hh, r⟩
theorem Own.below {B : Nat} {w w' : World} {v : Value} {xs : List Nat} (h : Own B w v xs) (hb : Below w.heap.size w w') : Own B w' v xs := ownsRow_below h hb (Nat.le_refl _)
theorem Own.nil (B : Nat) (w : World) : Own B w (.slice none 0 0) [] := World.ownsRow_nil _ _ _ _
theorem Own.rd {B : Nat} {w : World} {v : Value} {xs : List Nat} (h : Own B w v xs) : Rd w v xs := by
  rcases h.2 with ⟨hv, hn⟩ | ⟨g, cap, cur, hv, _, hh, hnc, hm, hs, ht⟩
  · exact .inl ⟨none, 0, hv, List.eq_nil_of_length_eq_zero hn, fun _ => rfl⟩
  · refine .inr ⟨g, 0, cap, hv, hnc, hm, (Array.getElem?_eq_some_iff.1 hh).1, fun j x hj => ?_⟩
    have hx : (xs.map nv)[j]? = some (nv x) := by simp [hj]
    rw [Nat.zero_add, cell_of_row w g j cur 5 (0, 0) hh]
    rw [← ht, List.getElem?_take] at hx
    split at hx
    · simpa using hx
    · cases hx

/-- A block that the call made, read as bytes. -/
theorem rd_row {w : World} {g : Nat} {cs : Array Value} {t : TypeId} (xs : List Nat) (n : Nat) (hn : n = xs.length) (hm : n ≤ maxLen) (hh : w.heap[g]? = some (.cells cs t (0, 0))) (hcs : cs.toList = xs.map nv) : Rd w (.slice (some ⟨g, 0, none⟩) n n) xs := by
  subst hn
  refine .inr ⟨g, 0, _, rfl, Nat.le_refl _, hm, (Array.getElem?_eq_some_iff.1 hh).1, fun j x hj => ?_⟩
  rw [Nat.zero_add, cell_of_row w g j cs t (0, 0) hh, ← Array.getElem?_toList, hcs]
  simp [hj]
/-- A block that the call made, read as parts. -/
theorem rdP_row {w : World} {g : Nat} {cs : Array Value} {t : TypeId} (pss : List (List Nat)) (n : Nat) (hn : n = pss.length) (hm : n ≤ maxLen) (hh : w.heap[g]? = some (.cells cs t (0, 0))) (hcs : ∀ (j : Nat) (ps : List Nat), pss[j]? = some ps → ∃ u : Value, cs[j]? = some u ∧ Rd w u ps) : RdP w (.slice (some ⟨g, 0, none⟩) n n) pss := by
  subst hn
  refine .inr ⟨g, 0, _, rfl, Nat.le_refl _, hm, (Array.getElem?_eq_some_iff.1 hh).1, fun j x hj => ?_⟩
  obtain ⟨u, hu, hr⟩ := hcs j x hj
  exact ⟨u, by rw [Nat.zero_add, cell_of_row w g j cs t (0, 0) hh]; exact hu, hr⟩

theorem info_u8 : (Tryd.prog.info? 5).map (fun i => (i.zero, i.size, i.bytes)) = some (some (.int .u8 0), 1, 1) := by kernel_rfl

/-- More bytes, behind a slice that is the call's own. -/
theorem wp_appR {ops : Array Oper} {rest : List Oper} {o : Oper} {a : Act} {Q : Exit → Act → World → Prop} {w : World} (hgd : o.guard = none) (s x : Operand)
    (ho : o.op = Op.call { callee := Callee.builtin Builtin.append, args := #[s, x], argTypes := #[23, 23] }) (B : Nat) (v : Value) (xs : List Nat) (hs : a.eval s = v) (hown : Own B w v xs)
    (vb : Value) (ys : List Nat) (hx : a.eval x = vb) (hb : Rd w vb ys) (hl : xs.length + ys.length ≤ 1000000) (hB : B ≤ w.heap.size)
    (h : ∀ v' w', Own B w' v' (xs ++ ys) → Below B w w' → w.heap.size ≤ w'.heap.size → wpList Tryd.prog ops Q rest (a.put o.dst v') w') :
    wpList Tryd.prog ops Q (o :: rest) a w := by
  obtain ⟨i0, hi, hz0, hz1, hz2⟩ := info_parts info_u8
  rcases hb with ⟨p, c, rfl, rfl, h0⟩ | ⟨g, off, cap, rfl, hcap, hm, hg, hc⟩
  · rcases p with _ | p
    · obtain rfl := h0 rfl
      refine wpList_append_own_none hgd s x _ ho B 5 i0 1 Tryd.underlying23 hi v _ _ hs hown hx ?_
      exact h v w (by simpa using hown) (Below.refl _ _) (Nat.le_refl _)
    · refine wpList_append_own _ hgd s x _ ho B 5 i0 (.int .u8 0) 1 1 Tryd.underlying23 hi hz0 hz1 hz2 rfl (by decide) v _ _ hs hown p 0 c [] hx (by simp) (by simp) (by simp) ?_ ?_ hB ?_
      · unfold maxLen; omega
      · omega
      · intro v' w' ho' hg' _
        exact h v' w' (by unfold Own; simpa using ho') ((Below.refl B w).grown hg' hB (fun k hk => (World.ownsRow.lt hown k hk).1)) hg'.size
  · refine wpList_append_own _ hgd s x _ ho B 5 i0 (.int .u8 0) 1 1 Tryd.underlying23 hi hz0 hz1 hz2 rfl (by decide) v _ _ hs hown ⟨g, off, none⟩ ys.length cap (ys.map nv) hx (by simp) ?_ ?_ ?_ ?_ ?_ ?_
    · intro j u hj
      have hlt : j < ys.length := by
        have := (List.getElem?_eq_some_iff.1 hj).1
        simpa using this
      rw [Addr.add_lit, hc j ys[j] (List.getElem?_eq_getElem hlt)]
      simpa [hlt, nv] using hj
    · intro u hu; obtain ⟨_, _, rfl⟩ := List.mem_map.1 hu; rfl
    · unfold maxLen; omega
    · omega
    · exact hB
    · intro v' w' ho' hg' _
      have hbel : Below B w w' := (Below.refl B w).grown hg' hB (fun k hk => (World.ownsRow.lt hown k hk).1)
      refine h v' w' ?_ hbel hg'.size
      unfold Own
      simpa using ho'

theorem below_alloc (w : World) (o : Obj) : Below w.heap.size w (w.alloc o) := (Below.refl _ w).alloc (Nat.le_refl _) o

theorem heap_new {w : World} {o : Obj} {g : Nat} (h : g = w.heap.size) : (w.alloc o).heap[g]? = some o := h ▸ heap_alloc_new w o
theorem heap_old {w : World} {o x : Obj} {g : Nat} (h : w.heap[g]? = some x) : (w.alloc o).heap[g]? = some x :=
  (Below.heap_alloc w o g (Array.getElem?_eq_some_iff.1 h).1).trans h
theorem below2 (w : World) (o p : Obj) : Below w.heap.size w ((w.alloc o).alloc p) := (below_alloc w o).alloc (by simp) p
theorem below3 (w : World) (o p q : Obj) : Below w.heap.size w (((w.alloc o).alloc p).alloc q) := (below2 w o p).alloc (by simp; omega) q

/-- One part, in a block of its own. -/
theorem rdP_one {w : World} {v : Value} {xs : List Nat} {t : TypeId} {g : Nat} (hg : g = w.heap.size) (h : Rd w v xs) : RdP (w.alloc (.cells #[v] t)) (.slice (some ⟨g, 0, none⟩) 1 1) [xs] := by
  refine rdP_row [xs] 1 rfl (by decide) (heap_new hg) (fun j ps hj => ?_)
  rcases j with _ | j
  · simp at hj; subst hj; exact ⟨v, rfl, h.below (below_alloc w _)⟩
  · simp at hj
/-- Two. -/
theorem rdP_two {w : World} {v u : Value} {xs ys : List Nat} {t : TypeId} {g : Nat} (hg : g = w.heap.size) (h : Rd w v xs) (h2 : Rd w u ys) : RdP (w.alloc (.cells #[v, u] t)) (.slice (some ⟨g, 0, none⟩) 2 2) [xs, ys] := by
  refine rdP_row [xs, ys] 2 rfl (by decide) (heap_new hg) (fun j ps hj => ?_)
  rcases j with _ | _ | j
  · simp at hj; subst hj; exact ⟨v, rfl, h.below (below_alloc w _)⟩
  · simp at hj; subst hj; exact ⟨u, rfl, h2.below (below_alloc w _)⟩
  · simp at hj

set_option maxRecDepth 20000 in
/-- awake. -/
theorem awake_any (w : World) (ht : Tab w) : Calls Tryd.prog 5 #[] w fun e w' => e = .returned (.bool true) ∧ Below w.heap.size w w' := by
  have HT := Lib.hid ht; clear ht
  have hex : sumN [[49, 50, 51, 52, 53], [54, 55, 56, 57]].flatten = 3808858755 := Crc.example_sum
  have HE := Lib.hid hex; clear hex
  go_enter Tryd.func5, Tryd.ntmps5
  go_wp2_with (go_at_call 6; refine (sum_any _ [[49, 50, 51, 52, 53], [54, 55, 56, 57]] _ (HT.out.below (below3 _ _ _ _)) (rdP_two (by simp) (rd_row _ _ rfl (by decide) (heap_old (heap_new rfl)) rfl) (rd_row _ _ rfl (by decide) (heap_new (by simp)) rfl)) (by decide) (by decide)).mono ?_; rw [HE.out]; rintro e w' ⟨rfl, rfl⟩)
  go_ret
  exact ⟨rfl, below3 _ _ _ _⟩
end Go.Proofs.YtjlplmobeiolkaaDoor
