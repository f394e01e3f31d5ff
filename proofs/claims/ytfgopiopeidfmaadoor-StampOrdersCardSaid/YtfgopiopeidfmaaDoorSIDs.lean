/-
Slices of stamps that read as lists: kept, cut, appended.
-/
import Derived.Test.YtfgopiopeidfmaaDoorSRef
import Derived.Deep.RegionHeld3
import Derived.Deep.QuietTactic
import Derived.BigQuiet
namespace Go.Proofs.YtfgopiopeidfmaaDoor
open Go.RowKit

def idC (x : Nat × Int) : List Value := [.int .u64 (x.1 : Int), .int .i64 x.2]
/-- The slice value v reads as these stamps. -/
def RdI (w : World) (v : Value) (l : List (Nat × Int)) : Prop :=
  (∃ p c, v = .slice p 0 c ∧ l = [] ∧ (p = none → c = 0)) ∨ ∃ b off cap, v = .slice (some ⟨b, off, none⟩) l.length cap ∧ l.length ≤ cap ∧ cap ≤ maxLen ∧ b < w.heap.size ∧
    ∀ (j : Nat) x, l[j]? = some x → w.cell? ⟨b, off + j * 2, none⟩ = some (.int .u64 (x.1 : Int)) ∧ w.cell? ⟨b, off + j * 2 + 1, none⟩ = some (.int .i64 x.2)
theorem RdI.below {w w' : World} {v : Value} {l : List (Nat × Int)} (h : RdI w v l) (hb : Below w.heap.size w w') : RdI w' v l := by
  rcases h with h | ⟨b, off, cap, rfl, hcap, hm, hlt, hc⟩
  · exact .inl h
  · exact .inr ⟨b, off, cap, rfl, hcap, hm, Nat.lt_of_lt_of_le hlt hb.size, fun j x hx => ⟨by rw [bcell hb _ _ hlt]; exact (hc j x hx).1, by rw [bcell hb _ _ hlt]; exact (hc j x hx).2⟩⟩
theorem RdI.named {w : World} {v : Value} {l : List (Nat × Int)} (h : RdI w v l) : ∃ A n c, v = .slice A n c ∧ n = l.length := by
  rcases h with ⟨p, c, rfl, rfl, _⟩ | ⟨b, off, cap, rfl, _⟩
  · exact ⟨p, 0, c, rfl, rfl⟩
  · exact ⟨_, _, cap, rfl, rfl⟩
theorem RdI.at_ {w : World} {A : Option Addr} {n c k : Nat} {l : List (Nat × Int)} {x : Nat × Int} (h : RdI w (.slice A n c) l) (hx : l[k]? = some x) :
    ∃ b off, A = some ⟨b, off, none⟩ ∧ ∀ w', Below w.heap.size w w' → w'.cell? ⟨b, off + k * 2, none⟩ = some (.int .u64 (x.1 : Int)) ∧ w'.cell? ⟨b, off + k * 2 + 1, none⟩ = some (.int .i64 x.2) := by
  rcases h with ⟨p, c', hv, rfl, _⟩ | ⟨b, off, cap, hv, hcap, hm, hb, hc⟩
  · simp at hx
  · simp only [Value.slice.injEq] at hv
    obtain ⟨rfl, _, _⟩ := hv
    exact ⟨b, off, rfl, fun w' hw => ⟨by rw [bcell hw _ _ hb]; exact (hc k x hx).1, by rw [bcell hw _ _ hb]; exact (hc k x hx).2⟩⟩
theorem RdI.cap_le {w : World} {A : Option Addr} {n c : Nat} {l : List (Nat × Int)} (h : RdI w (.slice A n c) l) : n ≤ c := by
  rcases h with ⟨p, c', hv, rfl, _⟩ | ⟨b, off, cap, hv, hcap, hm, hb, hc⟩
  · simp only [Value.slice.injEq] at hv; omega
  · simp only [Value.slice.injEq] at hv; omega
/-- Cut from a place on, and up to one. -/
def sliceVI (A : Option Addr) (n c m : Nat) : Value := .slice (if c = m then A else A.map (·.add (m * 2))) (n - m) (c - m)
def sliceHI (A : Option Addr) (c m : Nat) : Value := .slice (if c = 0 then A else A.map (·.add 0)) m c
theorem elem_ids : Tryd.prog.elem 29 = 24 := by kernel_rfl
theorem info_id : (Tryd.prog.info? 24).map (fun i => (i.zero, i.size, i.bytes)) = some (some (.agg #[.int .u64 0, .int .i64 0]), 2, 16) := by kernel_rfl
theorem sliceVI_run (A : Option Addr) (n c m : Nat) (h : m ≤ n) (W : World) : (Instr.slice 29 (.slice A n c) (some (.int .i64 (m : Int))) none none).run Tryd.prog W = .ok (sliceVI A n c m) W := by
  obtain ⟨i0, hi, hz0, hz1, hz2⟩ := info_parts info_id
  rw [run_slice_l (P := Tryd.prog) W 29 A n c (by rw [elem_ids]; exact Tryd.underlying29) .i64 (m : Int) (by omega) (by omega), elem_ids]
  have hs : (sizeOf 24).run Tryd.prog W = .ok 2 W := by simp [sizeOf, typeInfo, hi, hz1]
  rw [hs]
  simp [Result.andThen, sliced, sliceVI]
theorem sliceHI_run (A : Option Addr) (n c m : Nat) (h : m ≤ c) (W : World) : (Instr.slice 29 (.slice A n c) none (some (.int .i64 (m : Int))) none).run Tryd.prog W = .ok (sliceHI A c m) W := by
  obtain ⟨i0, hi, hz0, hz1, hz2⟩ := info_parts info_id
  rw [run_slice_h (P := Tryd.prog) W 29 A n c (by rw [elem_ids]; exact Tryd.underlying29) .i64 (m : Int) (by omega) (by omega), elem_ids]
  have hs : (sizeOf 24).run Tryd.prog W = .ok 2 W := by simp [sizeOf, typeInfo, hi, hz1]
  rw [hs]
  simp [Result.andThen, sliced, sliceHI]
theorem RdI.cutV {w : World} {A : Option Addr} {n c : Nat} {l : List (Nat × Int)} (h : RdI w (.slice A n c) l) (m : Nat) (hm : m ≤ n) : RdI w (sliceVI A n c m) (l.drop m) := by
  rcases h with ⟨p, c', hv, rfl, hp⟩ | ⟨b, off, cap, hv, hcap, hmx, hb, hc⟩
  · simp only [Value.slice.injEq] at hv
    obtain ⟨rfl, rfl, rfl⟩ := hv
    obtain rfl : m = 0 := by omega
    refine .inl ⟨_, _, rfl, by simp, fun e => ?_⟩
    by_cases hc : c = 0
    · subst hc; rfl
    · rw [if_neg hc] at e
      exact absurd (hp (by simpa using e)) hc
  · simp only [Value.slice.injEq] at hv
    obtain ⟨rfl, rfl, rfl⟩ := hv
    unfold sliceVI
    by_cases hcm : c = m
    · rw [if_pos hcm, show l.length - m = 0 from by omega]
      exact .inl ⟨_, _, rfl, List.drop_of_length_le (by omega), fun e => by cases e⟩
    · rw [if_neg hcm]
      simp only [Option.map_some, Addr.add_lit]
      refine .inr ⟨b, off + m * 2, c - m, by simp, by simp; omega, by omega, hb, fun j x hx => ?_⟩
      have hx' : l[m + j]? = some x := by rw [← List.getElem?_drop]; exact hx
      have h1 := hc (m + j) x hx'
      rw [show off + m * 2 + j * 2 = off + (m + j) * 2 from by omega]
      exact h1
theorem RdI.takeH {w : World} {A : Option Addr} {n c : Nat} {l : List (Nat × Int)} (h : RdI w (.slice A n c) l) (m : Nat) (hm : m ≤ n) : RdI w (sliceHI A c m) (l.take m) := by
  have ha : ∀ B : Option Addr, B.map (·.add 0) = B := fun B => by
    rcases B with _ | a
    · rfl
    · simp [Addr.add]
  have e : sliceHI A c m = .slice A m c := by unfold sliceHI; rw [ha]; split <;> rfl
  rw [e]
  rcases h with ⟨p, c', hv, rfl, hp⟩ | ⟨b, off, cap, hv, hcap, hmx, hb, hc⟩
  · simp only [Value.slice.injEq] at hv
    obtain ⟨rfl, rfl, rfl⟩ := hv
    obtain rfl : m = 0 := by omega
    exact .inl ⟨_, _, rfl, by simp, hp⟩
  · simp only [Value.slice.injEq] at hv
    obtain ⟨rfl, rfl, rfl⟩ := hv
    refine .inr ⟨b, off, c, by simp [Nat.min_eq_left hm], by simp; omega, hmx, hb, fun j x hx => hc j x ?_⟩
    rw [List.getElem?_take] at hx
    split at hx
    · exact hx
    · cases hx

/-- The slice value v is nil, or heads a row from block B on; it reads as these stamps. -/
def OwnI (B : Nat) (w : World) (v : Value) (l : List (Nat × Int)) : Prop := w.ownsRow B 24 2 v l.length (l.flatMap idC)
theorem OwnI.below {B : Nat} {w w' : World} {v : Value} {l : List (Nat × Int)} (h : OwnI B w v l) (hb : Below w.heap.size w w') : OwnI B w' v l := ownsRow_below h hb (Nat.le_refl _)
theorem OwnI.nil (B : Nat) (w : World) : OwnI B w (.slice none 0 0) [] := World.ownsRow_nil _ _ _ _
theorem flat_get : ∀ (l : List (Nat × Int)) (j : Nat) (x : Nat × Int), l[j]? = some x → (l.flatMap idC)[j * 2]? = some (.int .u64 (x.1 : Int)) ∧ (l.flatMap idC)[j * 2 + 1]? = some (.int .i64 x.2)
  | [], _, _, h => by simp at h
  | y :: t, 0, x, h => by simp at h; subst h; exact ⟨rfl, rfl⟩
  | y :: t, j + 1, x, h => by
    have ih := flat_get t j x (by simpa using h)
    have e : (y :: t).flatMap idC = .int .u64 (y.1 : Int) :: .int .i64 y.2 :: t.flatMap idC := rfl
    rw [e, show (j + 1) * 2 = j * 2 + 1 + 1 from by omega, show j * 2 + 1 + 1 + 1 = (j * 2 + 1) + 1 + 1 from by omega]
    simp only [List.getElem?_cons_succ]
    exact ih
theorem flat_len : ∀ l : List (Nat × Int), (l.flatMap idC).length = l.length * 2
  | [] => rfl
  | y :: t => by
    have e : (y :: t).flatMap idC = .int .u64 (y.1 : Int) :: .int .i64 y.2 :: t.flatMap idC := rfl
    rw [e, List.length_cons, List.length_cons, flat_len t, List.length_cons]; omega
theorem OwnI.rd {B : Nat} {w : World} {v : Value} {l : List (Nat × Int)} (h : OwnI B w v l) : RdI w v l := by
  rcases h.2 with ⟨hv, hn⟩ | ⟨g, cap, cur, hv, _, hh, hnc, hm, hs, ht⟩
  · exact .inl ⟨none, 0, hv, List.eq_nil_of_length_eq_zero hn, fun _ => rfl⟩
  · refine .inr ⟨g, 0, cap, hv, hnc, hm, (Array.getElem?_eq_some_iff.1 hh).1, fun j x hj => ?_⟩
    have key : ∀ i u, (l.flatMap idC)[i]? = some u → w.cell? ⟨g, i, none⟩ = some u := fun i u hu => by
      rw [cell_of_row w g i cur 24 (0, 0) hh]
      rw [← ht, List.getElem?_take] at hu
      split at hu
      · simpa using hu
      · cases hu
    obtain ⟨h1, h2⟩ := flat_get l j x hj
    exact ⟨by rw [Nat.zero_add]; exact key _ _ h1, by rw [Nat.zero_add]; exact key _ _ h2⟩
theorem cells_of {w : World} {b off : Nat} {l : List (Nat × Int)} (hc : ∀ (j : Nat) x, l[j]? = some x → w.cell? ⟨b, off + j * 2, none⟩ = some (.int .u64 (x.1 : Int)) ∧ w.cell? ⟨b, off + j * 2 + 1, none⟩ = some (.int .i64 x.2)) :
    ∀ i u, (l.flatMap idC)[i]? = some u → w.cell? ((⟨b, off, none⟩ : Addr).add i) = some u := by
  intro i u hu
  have hi : i < l.length * 2 := by
    have := (List.getElem?_eq_some_iff.1 hu).1
    rw [flat_len] at this; exact this
  obtain ⟨x, hx⟩ : ∃ x, l[i / 2]? = some x := ⟨_, List.getElem?_eq_getElem (by omega)⟩
  obtain ⟨g0, g1⟩ := flat_get l (i / 2) x hx
  obtain ⟨c0, c1⟩ := hc (i / 2) x hx
  rw [Addr.add_lit]
  rcases Nat.mod_two_eq_zero_or_one i with h | h
  · have e : i = i / 2 * 2 := by omega
    rw [← e] at g0 c0
    rw [c0, ← g0]; exact hu
  · have e : i = i / 2 * 2 + 1 := by omega
    rw [← e] at g1
    rw [show off + i / 2 * 2 + 1 = off + i from by omega] at c1
    rw [c1, ← g1]; exact hu

/-- More stamps, behind a slice that is the call's own. -/
theorem run_appI (w : World) (ty : TypeId) (B : Nat) (v : Value) (l : List (Nat × Int)) (hown : OwnI B w v l) (vb : Value) (m : List (Nat × Int)) (hb : RdI w vb m) (hl : l.length + m.length ≤ 1000000) (hB : B ≤ w.heap.size) :
    ∃ v' w', (Builtin.append_ #[29, 29] ty #[v, vb]).run Tryd.prog w = .ok v' w' ∧ OwnI B w' v' (l ++ m) ∧ Below B w w' ∧ w.grownBy w' v.ownBlock ∧ (v'.ownBlock = v.ownBlock ∨ v'.ownBlock = some w.heap.size) := by
  obtain ⟨i0, hi, hz0, hz1, hz2⟩ := info_parts info_id
  have fin : ∀ v' w', w'.ownsRow B 24 2 v' (l.length + m.length) (l.flatMap idC ++ m.flatMap idC) → w.grownBy w' v.ownBlock → OwnI B w' v' (l ++ m) ∧ Below B w w' := fun v' w' ho hg =>
    ⟨by unfold OwnI; simpa using ho, (Below.refl B w).grown hg hB (fun k hk => (World.ownsRow.lt hown k hk).1)⟩
  rcases hb with ⟨p, c, rfl, rfl, h0⟩ | ⟨g, off, cap, rfl, hcap, hm, hg, hc⟩
  · rcases p with _ | p
    · obtain rfl := h0 rfl
      exact ⟨v, w, run_append_owned_none (P := Tryd.prog) (w := w) B _ ty 24 i0 2 Tryd.underlying29 hi v _ _ hown, by simpa using hown, Below.refl _ _, World.grownBy.refl w _, .inl rfl⟩
    · obtain ⟨v', w', hr, ho, hg, _, hv⟩ := run_append_own_at (P := Tryd.prog) w B 29 ty 24 i0 (.agg #[.int .u64 0, .int .i64 0]) 2 16 Tryd.underlying29 hi hz0 hz1 hz2 rfl (by decide) v _ _ hown p 0 c [] (by simp) (by simp) (by simp) (by unfold maxLen; omega) (by omega) hB
      obtain ⟨a1, a2⟩ := fin v' w' (by simpa using ho) hg
      exact ⟨v', w', hr, a1, a2, hg, hv⟩
  · obtain ⟨v', w', hr, ho, hg, _, hv⟩ := run_append_own_at (P := Tryd.prog) w B 29 ty 24 i0 (.agg #[.int .u64 0, .int .i64 0]) 2 16 Tryd.underlying29 hi hz0 hz1 hz2 rfl (by decide) v _ _ hown ⟨g, off, none⟩ m.length cap (m.flatMap idC) (flat_len m) (cells_of hc)
      (by intro u hu; obtain ⟨x, _, hx⟩ := List.mem_flatMap.1 hu; simp [idC] at hx; rcases hx with rfl | rfl <;> rfl) (by unfold maxLen; omega) (by omega) hB
    obtain ⟨a1, a2⟩ := fin v' w' ho hg
    exact ⟨v', w', hr, a1, a2, hg, hv⟩
theorem step_appI {ops : Array Oper} {o : Oper} {a : Act} {K : Act → World → Prop} {Q : Exit → Act → World → Prop} {E : Prop} {w : World} (hgd : o.guard = none) (s x : Operand)
    (ho : o.op = Op.call { callee := Callee.builtin Builtin.append, args := #[s, x], argTypes := #[29, 29] }) (B : Nat) (v : Value) (l : List (Nat × Int)) (hs : a.eval s = v) (hown : OwnI B w v l)
    (vb : Value) (m : List (Nat × Int)) (hx : a.eval x = vb) (hb : RdI w vb m) (hl : l.length + m.length ≤ 1000000) (hB : B ≤ w.heap.size)
    (h : ∀ v' w', OwnI B w' v' (l ++ m) → Below B w w' → w.heap.size ≤ w'.heap.size → K (a.put o.dst v') w') :
    if Region.wanted o (yielded ops a.tmps) = true then Oper.wp Tryd.prog o a w K Q else E := by
  have hw : Region.wanted o (yielded ops a.tmps) = true := by simp [Region.wanted, hgd]
  rw [if_pos hw]
  obtain ⟨v', w', hr, h1, h2, _, _⟩ := run_appI w o.type B v l hown vb m hb hl hB
  unfold Oper.wp
  simp [execOp, ho, resolve, invoke, builtin, hs, hx, hr, Result.andThen]
  exact h v' w' h1 h2 h2.size

theorem eq_id (W : World) (t : Nat) (r : Int) (t' : Nat) (r' : Int) : (binOp .eql 24 (.agg #[.int .u64 (t : Int), .int .i64 r]) (.agg #[.int .u64 (t' : Int), .int .i64 r'])).run Tryd.prog W = .ok (.bool (decide (t = t' ∧ r = r'))) W := by
  by_cases h1 : t = t'
  · subst h1
    by_cases h2 : r = r'
    · subst h2
      go_simp
    · go_simp
  · go_simp
    omega
theorem ne_id (W : World) (t : Nat) (r : Int) (t' : Nat) (r' : Int) : (binOp .neq 24 (.agg #[.int .u64 (t : Int), .int .i64 r]) (.agg #[.int .u64 (t' : Int), .int .i64 r'])).run Tryd.prog W = .ok (.bool (!decide (t = t' ∧ r = r'))) W := by
  by_cases h1 : t = t'
  · subst h1
    by_cases h2 : r = r'
    · subst h2
      go_simp
    · go_simp
  · go_simp
    omega
/-- Kept where a row of another block grows. -/
theorem RdI.grown {w w' : World} {v : Value} {l : List (Nat × Int)} {row : Option Nat} (h : RdI w v l) (hg : w.grownBy w' row) (hne : ∀ k, v.ownBlock = some k → row ≠ some k) : RdI w' v l := by
  rcases h with h | ⟨b, off, cap, rfl, hcap, hm, hlt, hc⟩
  · exact .inl h
  · have hb := hg.block b hlt (fun e => hne b rfl e.symm)
    exact .inr ⟨b, off, cap, rfl, hcap, hm, Nat.lt_of_lt_of_le hlt hg.size, fun j x hx => ⟨(World.cell?_of_block (a := ⟨b, off + j * 2, none⟩) hb).trans (hc j x hx).1, (World.cell?_of_block (a := ⟨b, off + j * 2 + 1, none⟩) hb).trans (hc j x hx).2⟩⟩
/-- The empty slice that the call makes. -/
theorem OwnI.empty (B : Nat) (w : World) {g : Nat} (hg : g = w.heap.size) (hB : B ≤ w.heap.size) : OwnI B (w.alloc (.cells #[] 24)) (.slice (some ⟨g, 0, none⟩) 0 0) [] :=
  ⟨rfl, .inr ⟨g, 0, #[], rfl, by omega, heap_new hg, Nat.le_refl _, Nat.zero_le _, rfl, rfl⟩⟩
/-- One stamp in a block of its own. -/
theorem RdI.one (w : World) {g : Nat} (hg : g = w.heap.size) (t : Nat) (r : Int) : RdI (w.alloc (.cells #[.int .u64 (t : Int), .int .i64 r] 24)) (.slice (some ⟨g, 0, none⟩) 1 1) [(t, r)] := by
  have h1 : (w.alloc (.cells #[.int .u64 (t : Int), .int .i64 r] 24)).heap[g]? = some (.cells #[.int .u64 (t : Int), .int .i64 r] 24 (0, 0)) := heap_new hg
  refine .inr ⟨g, 0, 1, rfl, Nat.le_refl _, by decide, by simp; omega, fun j x hj => ?_⟩
  rcases j with _ | j
  · simp at hj; subst hj
    exact ⟨by rw [cell_of_row _ _ _ _ _ _ h1]; rfl, by rw [cell_of_row _ _ _ _ _ _ h1]; rfl⟩
  · simp at hj
/-- The append's step. -/
theorem step_appG {ops : Array Oper} {o : Oper} {a : Act} {K : Act → World → Prop} {Q : Exit → Act → World → Prop} {E : Prop} {w : World} (hgd : o.guard = none) (s x : Operand)
    (ho : o.op = Op.call { callee := Callee.builtin Builtin.append, args := #[s, x], argTypes := #[29, 29] }) (B : Nat) (v : Value) (l : List (Nat × Int)) (hs : a.eval s = v) (hown : OwnI B w v l)
    (vb : Value) (m : List (Nat × Int)) (hx : a.eval x = vb) (hb : RdI w vb m) (hl : l.length + m.length ≤ 1000000) (hB : B ≤ w.heap.size)
    (h : ∀ v' w', OwnI B w' v' (l ++ m) → Below B w w' → w.grownBy w' v.ownBlock → (v'.ownBlock = v.ownBlock ∨ v'.ownBlock = some w.heap.size) → K (a.put o.dst v') w') :
    if Region.wanted o (yielded ops a.tmps) = true then Oper.wp Tryd.prog o a w K Q else E := by
  have hw : Region.wanted o (yielded ops a.tmps) = true := by simp [Region.wanted, hgd]
  rw [if_pos hw]
  obtain ⟨v', w', hr, h1, h2, h3, h4⟩ := run_appI w o.type B v l hown vb m hb hl hB
  unfold Oper.wp
  simp [execOp, ho, resolve, invoke, builtin, hs, hx, hr, Result.andThen]
  exact h v' w' h1 h2 h3 h4
end Go.Proofs.YtfgopiopeidfmaaDoor
