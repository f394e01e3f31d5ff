/-
cmp.Compare, cmp.Or, and the program's stamp.Compare, Less and Right, by contracts.
-/
import Derived.Test.YtfgopiopeidfmaaDoorSOrders
import Derived.Test.YtfgopiopeidfmaaDoorBHeld
import Derived.Sort.Grow
namespace Go.Proofs.YtfgopiopeidfmaaDoor
open Go.RowKit Go.Sort

def cmpZ (x y : Int) : Int := if x < y then -1 else if y < x then 1 else 0

set_option maxRecDepth 20000 in
theorem cmpu_any (x y : Int) (w : World) : Calls Tryd.prog 31 #[.int .u64 x, .int .u64 y] w fun e w' => e = .returned (.int .i64 (cmpZ x y)) ∧ w' = w := by
  by_cases h1 : x < y
  · have e : cmpZ x y = -1 := if_pos h1
    rw [e]; clear e
    have h2 : x ≤ y := by omega
    go_enter Tryd.func31, Tryd.ntmps31
    go_wp2
    go_ret
    exact ⟨rfl, rfl⟩
  · by_cases h2 : y < x
    · have e : cmpZ x y = 1 := by unfold cmpZ; rw [if_neg h1, if_pos h2]
      rw [e]; clear e
      have h1' : y ≤ x := by omega
      clear h1
      go_enter Tryd.func31, Tryd.ntmps31
      go_wp2
      go_ret
      exact ⟨rfl, rfl⟩
    · have e : cmpZ x y = 0 := by unfold cmpZ; rw [if_neg h1, if_neg h2]
      rw [e]; clear e
      obtain rfl : x = y := by omega
      clear h1 h2
      go_enter Tryd.func31, Tryd.ntmps31
      go_wp2
      go_ret
      exact ⟨rfl, rfl⟩

set_option maxRecDepth 20000 in
theorem cmpi_any (x y : Int) (w : World) : Calls Tryd.prog 32 #[.int .i64 x, .int .i64 y] w fun e w' => e = .returned (.int .i64 (cmpZ x y)) ∧ w' = w := by
  by_cases h1 : x < y
  · have e : cmpZ x y = -1 := if_pos h1
    rw [e]; clear e
    have h2 : x ≤ y := by omega
    go_enter Tryd.func32, Tryd.ntmps32
    go_wp2
    go_ret
    exact ⟨rfl, rfl⟩
  · by_cases h2 : y < x
    · have e : cmpZ x y = 1 := by unfold cmpZ; rw [if_neg h1, if_pos h2]
      rw [e]; clear e
      have h1' : y ≤ x := by omega
      clear h1
      go_enter Tryd.func32, Tryd.ntmps32
      go_wp2
      go_ret
      exact ⟨rfl, rfl⟩
    · have e : cmpZ x y = 0 := by unfold cmpZ; rw [if_neg h1, if_neg h2]
      rw [e]; clear e
      obtain rfl : x = y := by omega
      clear h1 h2
      go_enter Tryd.func32, Tryd.ntmps32
      go_wp2
      go_ret
      exact ⟨rfl, rfl⟩

set_option maxRecDepth 20000 in
theorem or_any (g : Nat) (a b : Int) (w : World) (h0 : w.cell? ⟨g, 0, none⟩ = some (.int .i64 a)) (h1 : w.cell? ⟨g, 1, none⟩ = some (.int .i64 b)) :
    Calls Tryd.prog 30 #[.slice (some ⟨g, 0, none⟩) 2 2] w fun e w' => e = .returned (.int .i64 (if a = 0 then b else a)) ∧ w' = w := by
  obtain ⟨z, hz⟩ : ∃ z, z = if a = 0 then b else a := ⟨_, rfl⟩
  rw [← hz]
  have HR := Lib.hid hz
  clear hz
  go_enter Tryd.func30, Tryd.ntmps30
  go_wp2
  go_loopw [8] (fun i wr => ∃ k : Nat, k ≤ 2 ∧ i = .int .i64 (k : Int) ∧ wr = w ∧ Hid ((1 ≤ k → a = 0) ∧ (k = 2 → b = 0))) (fun i _ => 2 - (intOf i).toNat)
  case atStart => exact ⟨0, by omega, rfl, rfl, Lib.hid ⟨fun h => by omega, fun h => by omega⟩⟩
  case round =>
    obtain ⟨k, hk, rfl, rfl, HK⟩ := hrel
    by_cases hk2 : k < 2
    · obtain ⟨d, hd, hc⟩ : ∃ d : Int, (k = 0 ∧ d = a ∨ k = 1 ∧ d = b) ∧ wr.cell? ⟨g, k, none⟩ = some (.int .i64 d) := by
        rcases Nat.lt_or_ge k 1 with h | h
        · obtain rfl : k = 0 := by omega
          exact ⟨a, .inl ⟨rfl, rfl⟩, h0⟩
        · obtain rfl : k = 1 := by omega
          exact ⟨b, .inr ⟨rfl, rfl⟩, h1⟩
      have HD := Lib.hid hd
      clear hd h0 h1
      by_cases hz : d = 0
      · subst hz
        go_wp2
        go_roundw
        case rel =>
          refine ⟨k + 1, by omega, by go_num, by first | rfl | trivial, Lib.hid ⟨fun _ => ?_, fun h => ?_⟩⟩
          · rcases HD.out with ⟨h1, h2⟩ | ⟨h1, h2⟩
            · exact h2.symm
            · exact HK.out.1 (by omega)
          · rcases HD.out with ⟨h1, h2⟩ | ⟨h1, h2⟩
            · omega
            · exact h2.symm
        case measure => simp [intOf]; omega
      · have HZ := Lib.hid hz
        have hz1 : (d == 0) = false := by simp [hz]
        have hz2 : (d != 0) = true := by simp [hz]
        clear hz
        go_wp2
        go_ret
        refine ⟨?_, rfl⟩
        rcases HD.out with ⟨h1, h2⟩ | ⟨h1, h2⟩
        · rw [HR.out, ← h2, if_neg HZ.out]; rfl
        · rw [HR.out, if_pos (HK.out.1 (by omega)), h2]; rfl
    · obtain rfl : k = 2 := by omega
      go_wp2
      go_ret
      refine ⟨?_, rfl⟩
      rw [HR.out, if_pos (HK.out.1 (by omega)), HK.out.2 (by first | rfl | trivial)]; rfl

/-- More blocks, and more draws. -/
def SGrow (W w' : World) : Prop := ∃ q os, w' = grow (W.drewN q) os
theorem SGrow.refl (W : World) : SGrow W W := ⟨0, #[], by rw [grow_empty]; rfl⟩
theorem SGrow.drew {W w : World} (h : SGrow W w) : SGrow W w.drew := by
  obtain ⟨q, os, rfl⟩ := h
  exact ⟨q + 1, os, rfl⟩
theorem SGrow.alloc {W w : World} (h : SGrow W w) (o : Obj) : SGrow W (w.alloc o) := by
  obtain ⟨q, os, rfl⟩ := h
  exact ⟨q, os ++ #[o], by rw [alloc_eq_grow, grow_grow]⟩
theorem SGrow.trans {W w w' : World} (h : SGrow W w) (k : SGrow w w') : SGrow W w' := by
  obtain ⟨q, os, rfl⟩ := h
  obtain ⟨q', os', rfl⟩ := k
  refine ⟨q + q', os ++ os', ?_⟩
  rw [← grow_grow]
  simp [grow, World.drewN, Nat.add_assoc]
theorem SGrow.below {W w' : World} (h : SGrow W w') : Below W.heap.size W w' := by
  obtain ⟨q, os, rfl⟩ := h
  refine ⟨rfl, rfl, rfl, ?_, fun i hi => ?_⟩
  · show W.heap.size ≤ (W.heap ++ os).size
    simp
  · show (W.heap ++ os)[i]? = _
    rw [Array.getElem?_append_left hi]
theorem two_keep {W w' : World} {b b' : Nat} {a0 a1 c0 c1 : Value} (h : (W.cell? ⟨b, 0, none⟩ = some a0 ∧ W.cell? ⟨b, 1, none⟩ = some a1) ∧ (W.cell? ⟨b', 0, none⟩ = some c0 ∧ W.cell? ⟨b', 1, none⟩ = some c1)) (hb : Below W.heap.size W w') :
    (w'.cell? ⟨b, 0, none⟩ = some a0 ∧ w'.cell? ⟨b, 1, none⟩ = some a1) ∧ (w'.cell? ⟨b', 0, none⟩ = some c0 ∧ w'.cell? ⟨b', 1, none⟩ = some c1) := by
  obtain ⟨⟨a, b⟩, c, d⟩ := h
  exact ⟨⟨by rw [bcell hb _ _ (lt_of_cell a)]; exact a, by rw [bcell hb _ _ (lt_of_cell b)]; exact b⟩, by rw [bcell hb _ _ (lt_of_cell c)]; exact c, by rw [bcell hb _ _ (lt_of_cell d)]; exact d⟩
theorem cmp_or (t : Nat) (r : Int) (t' : Nat) (r' : Int) : (if cmpZ (t : Int) (t' : Int) = 0 then cmpZ r r' else cmpZ (t : Int) (t' : Int)) = cmpI t r t' r' := by
  unfold cmpZ cmpI lessB
  by_cases h : t = t'
  · subst h
    simp
  · by_cases h1 : t < t'
    · simp [h, h1]
    · simp [h, h1, show t' < t by omega, show t' ≠ t by omega]

set_option maxRecDepth 20000 in
set_option maxHeartbeats 2000000 in
/-- stamp.Compare, in whatever world: it lays blocks, and turns none. -/
theorem compare_grow (t : Nat) (r : Int) (t' : Nat) (r' : Int) (w : World) :
    Calls Tryd.prog 8 #[.agg #[.int .u64 (t : Int), .int .i64 r], .agg #[.int .u64 (t' : Int), .int .i64 r']] w fun e w' => e = .returned (.int .i64 (cmpI t r t' r')) ∧ SGrow w w' := by
  have hst : (((w.alloc (.cells #[.int .u64 (t : Int), .int .i64 r] 24)).alloc (.cells #[.int .u64 (t' : Int), .int .i64 r'] 24)).cell? ⟨w.heap.size, 0, none⟩ = some (.int .u64 (t : Int)) ∧ ((w.alloc (.cells #[.int .u64 (t : Int), .int .i64 r] 24)).alloc (.cells #[.int .u64 (t' : Int), .int .i64 r'] 24)).cell? ⟨w.heap.size, 1, none⟩ = some (.int .i64 r)) ∧
      (((w.alloc (.cells #[.int .u64 (t : Int), .int .i64 r] 24)).alloc (.cells #[.int .u64 (t' : Int), .int .i64 r'] 24)).cell? ⟨w.heap.size + 1, 0, none⟩ = some (.int .u64 (t' : Int)) ∧ ((w.alloc (.cells #[.int .u64 (t : Int), .int .i64 r] 24)).alloc (.cells #[.int .u64 (t' : Int), .int .i64 r'] 24)).cell? ⟨w.heap.size + 1, 1, none⟩ = some (.int .i64 r')) := by
    have h1 : (w.alloc (.cells #[.int .u64 (t : Int), .int .i64 r] 24)).heap[w.heap.size]? = some (.cells #[.int .u64 (t : Int), .int .i64 r] 24 (0, 0)) := heap_new rfl
    have h2 := heap_old (o := .cells #[.int .u64 (t' : Int), .int .i64 r'] 24) h1
    have h3 : ((w.alloc (.cells #[.int .u64 (t : Int), .int .i64 r] 24)).alloc (.cells #[.int .u64 (t' : Int), .int .i64 r'] 24)).heap[w.heap.size + 1]? = some (.cells #[.int .u64 (t' : Int), .int .i64 r'] 24 (0, 0)) := heap_new (by simp)
    exact ⟨⟨by rw [cell_of_row _ _ 0 _ _ _ h2]; rfl, by rw [cell_of_row _ _ 1 _ _ _ h2]; rfl⟩, by rw [cell_of_row _ _ 0 _ _ _ h3]; rfl, by rw [cell_of_row _ _ 1 _ _ _ h3]; rfl⟩
  have HST := Lib.hid hst
  have hcu := fun W => cmpu_any (t : Int) (t' : Int) W
  have hci := fun W => cmpi_any r r' W
  have hco := cmp_or t r t' r'
  have hor := fun (g : Nat) (W : World) h0 h1 => or_any g (cmpZ (t : Int) (t' : Int)) (cmpZ r r') W h0 h1
  simp only [hco] at hor
  clear hco
  generalize cmpZ (t : Int) (t' : Int) = z1 at hcu hor
  generalize cmpZ r r' = z2 at hci hor
  generalize cmpI t r t' r' = z3 at hor ⊢
  have hs0 : SGrow w ((w.alloc (.cells #[.int .u64 (t : Int), .int .i64 r] 24)).alloc (.cells #[.int .u64 (t' : Int), .int .i64 r'] 24)) := ((SGrow.refl w).alloc _).alloc _
  have HS := Lib.hid hs0
  clear hst hs0
  go_enter Tryd.func8, Tryd.ntmps8
  go_wp2
  refine wp_region_noPanic ?_
  refine wp_region_held_drew (S := SGrow ((w.alloc (.cells #[.int .u64 (t : Int), .int .i64 r] 24)).alloc (.cells #[.int .u64 (t' : Int), .int .i64 r'] 24))) (by kernel_rfl) (SGrow.refl _).drew (fun HS0 => ?_)
  refine wpAnyH_take (i := 0) (v := ?_) rfl (by kernel_rfl) (by kernel_rfl) (by kernel_rfl) (fun _ _ _ h => h) (Or.inl ⟨by rfl, ?_⟩) HS0 ?_
  rotate_left
  · intro w hE; go_simp; try with_reducible rfl
  simp only [List.getElem_toArray, List.getElem_cons_succ, List.getElem_cons_zero, Act.put, List.setIfInBounds_toArray, List.set_cons_zero, List.set_cons_succ]
  refine wpAnyH_take (i := 1) (v := ?_) rfl (by kernel_rfl) (by kernel_rfl) (by kernel_rfl) (fun _ _ _ h => h) (Or.inl ⟨by rfl, ?_⟩) HS0 ?_
  rotate_left
  · intro w hE; obtain ⟨⟨p0, p1⟩, q0, q1⟩ := two_keep HST.out (SGrow.below hE); go_simp; try with_reducible rfl
  simp only [List.getElem_toArray, List.getElem_cons_succ, List.getElem_cons_zero, Act.put, List.setIfInBounds_toArray, List.set_cons_zero, List.set_cons_succ]
  refine wpAnyH_take (i := 2) (v := ?_) rfl (by kernel_rfl) (by kernel_rfl) (by kernel_rfl) (fun _ _ _ h => h) (Or.inl ⟨by rfl, ?_⟩) HS0 ?_
  rotate_left
  · intro w hE; go_simp; try with_reducible rfl
  simp only [List.getElem_toArray, List.getElem_cons_succ, List.getElem_cons_zero, Act.put, List.setIfInBounds_toArray, List.set_cons_zero, List.set_cons_succ]
  refine wpAnyH_take (i := 3) (v := ?_) rfl (by kernel_rfl) (by kernel_rfl) (by kernel_rfl) (fun _ _ _ h => h) (Or.inl ⟨by rfl, ?_⟩) HS0 ?_
  rotate_left
  · intro w hE; obtain ⟨⟨p0, p1⟩, q0, q1⟩ := two_keep HST.out (SGrow.below hE); go_simp; try with_reducible rfl
  simp only [List.getElem_toArray, List.getElem_cons_succ, List.getElem_cons_zero, Act.put, List.setIfInBounds_toArray, List.set_cons_zero, List.set_cons_succ]
  refine wpAnyH_take (i := 5) (v := ?_) rfl (by kernel_rfl) (by kernel_rfl) (by kernel_rfl) (fun _ _ _ h => h) (Or.inl ⟨by rfl, ?_⟩) HS0 ?_
  rotate_left
  · intro w hE; go_simp; try with_reducible rfl
  simp only [List.getElem_toArray, List.getElem_cons_succ, List.getElem_cons_zero, Act.put, List.setIfInBounds_toArray, List.set_cons_zero, List.set_cons_succ]
  refine wpAnyH_take (i := 6) (v := ?_) rfl (by kernel_rfl) (by kernel_rfl) (by kernel_rfl) (fun _ _ _ h => h) (Or.inl ⟨by rfl, ?_⟩) HS0 ?_
  rotate_left
  · intro w hE; obtain ⟨⟨p0, p1⟩, q0, q1⟩ := two_keep HST.out (SGrow.below hE); go_simp; try with_reducible rfl
  simp only [List.getElem_toArray, List.getElem_cons_succ, List.getElem_cons_zero, Act.put, List.setIfInBounds_toArray, List.set_cons_zero, List.set_cons_succ]
  refine wpAnyH_take (i := 7) (v := ?_) rfl (by kernel_rfl) (by kernel_rfl) (by kernel_rfl) (fun _ _ _ h => h) (Or.inl ⟨by rfl, ?_⟩) HS0 ?_
  rotate_left
  · intro w hE; go_simp; try with_reducible rfl
  simp only [List.getElem_toArray, List.getElem_cons_succ, List.getElem_cons_zero, Act.put, List.setIfInBounds_toArray, List.set_cons_zero, List.set_cons_succ]
  refine wpAnyH_take (i := 8) (v := ?_) rfl (by kernel_rfl) (by kernel_rfl) (by kernel_rfl) (fun _ _ _ h => h) (Or.inl ⟨by rfl, ?_⟩) HS0 ?_
  rotate_left
  · intro w hE; obtain ⟨⟨p0, p1⟩, q0, q1⟩ := two_keep HST.out (SGrow.below hE); go_simp; try with_reducible rfl
  simp only [List.getElem_toArray, List.getElem_cons_succ, List.getElem_cons_zero, Act.put, List.setIfInBounds_toArray, List.set_cons_zero, List.set_cons_succ]
  refine wpAnyH_ready (rs := [4]) (by kernel_rfl) (by simp) ?_
  refine AllReadyH.cons rfl (fun K hK => ?_) AllReadyH.nil
  go_simp
  go_at_call 31
  refine (hcu _).mono ?_
  rintro e w1 ⟨rfl, rfl⟩
  go_simp
  refine hK.out _ _ HS0 (fun HS1 => ?_)
  clear hK
  try simp only [List.getElem_toArray, List.getElem_cons_succ, List.getElem_cons_zero, Act.put, List.setIfInBounds_toArray, List.set_cons_zero, List.set_cons_succ]
  refine wpAnyH_ready (rs := [9]) (by kernel_rfl) (by simp) ?_
  refine AllReadyH.cons rfl (fun K hK => ?_) AllReadyH.nil
  go_simp
  go_at_call 32
  refine (hci _).mono ?_
  rintro e w1 ⟨rfl, rfl⟩
  go_simp
  refine hK.out _ _ HS1 (fun HS2 => ?_)
  clear hK
  try simp only [List.getElem_toArray, List.getElem_cons_succ, List.getElem_cons_zero, Act.put, List.setIfInBounds_toArray, List.set_cons_zero, List.set_cons_succ]
  refine wpAnyH_ready (rs := [10]) (by kernel_rfl) (by simp) ?_
  refine AllReadyH.cons rfl (fun K hK => ?_) AllReadyH.nil
  go_simp
  refine hK.out _ _ (HS2.alloc _) (fun HS3 => ?_)
  clear hK
  try simp only [List.getElem_toArray, List.getElem_cons_succ, List.getElem_cons_zero, Act.put, List.setIfInBounds_toArray, List.set_cons_zero, List.set_cons_succ]
  refine wpAnyH_ready (rs := [11]) (by kernel_rfl) (by simp) ?_
  refine AllReadyH.cons rfl (fun K hK => ?_) AllReadyH.nil
  go_simp
  go_at_call 30
  refine (hor _ _ (by go_simp) (by go_simp)).mono ?_
  rintro e w1 ⟨rfl, rfl⟩
  go_simp
  refine hK.out _ _ HS3 (fun HS4 => ?_)
  clear hK
  try simp only [List.getElem_toArray, List.getElem_cons_succ, List.getElem_cons_zero, Act.put, List.setIfInBounds_toArray, List.set_cons_zero, List.set_cons_succ]
  refine wpAnyH_take (i := 12) (v := ?_) rfl (by kernel_rfl) (by kernel_rfl) (by kernel_rfl) (fun _ _ _ h => h) (Or.inl ⟨by rfl, ?_⟩) HS4 ?_
  rotate_left
  · intro w hE; go_simp; try with_reducible rfl
  simp only [List.getElem_toArray, List.getElem_cons_succ, List.getElem_cons_zero, Act.put, List.setIfInBounds_toArray, List.set_cons_zero, List.set_cons_succ]
  refine wpAnyH_done (by kernel_rfl) ?_ _
  refine NoPanic.normal ?_
  go_wp2
  go_ret
  exact ⟨rfl, HS.out.trans HS4⟩

theorem compare_any (t : Nat) (r : Int) (t' : Nat) (r' : Int) (w : World) :
    Calls Tryd.prog 8 #[idV t r, idV t' r'] w fun e w' => e = .returned (.int .i64 (cmpI t r t' r')) ∧ Below w.heap.size w w' :=
  (compare_grow t r t' r' w).mono fun _ _ ⟨he, hw⟩ => ⟨he, hw.below⟩
theorem cmp_neg (t : Nat) (r : Int) (t' : Nat) (r' : Int) : decide (cmpI t r t' r' < 0) = lessB t r t' r' := by
  unfold cmpI
  by_cases h : lessB t r t' r' = true
  · rw [if_pos h, h]; rfl
  · rw [if_neg h]
    have : lessB t r t' r' = false := by simpa using h
    rw [this]
    split <;> rfl

set_option maxRecDepth 20000 in
theorem less_any (t : Nat) (r : Int) (t' : Nat) (r' : Int) (w : World) :
    Calls Tryd.prog 9 #[idV t r, idV t' r'] w fun e w' => e = .returned (.bool (lessB t r t' r')) ∧ Below w.heap.size w w' := by
  have hc := fun W => compare_any t r t' r' W
  have HN := Lib.hid (cmp_neg t r t' r')
  generalize cmpI t r t' r' = z at hc HN
  unfold idV at *
  go_enter Tryd.func9, Tryd.ntmps9
  go_wp2_with (go_at_call 8; go_must (refine (hc _).mono ?_); rintro e w1 ⟨rfl, hb1⟩)
  go_ret
  exact ⟨by rw [← HN.out]; rfl, ((below_alloc w _).alloc (by simp) _).trans (hb1.mono (by simp; omega))⟩

set_option maxRecDepth 20000 in
theorem right_any (t : Nat) (r : Int) (w : World) :
    Calls Tryd.prog 10 #[idV t r] w fun e w' => e = .returned (.bool (rightB t r)) ∧ Below w.heap.size w w' := by
  have hne : ∀ W : World, (binOp .neq 24 (.agg #[.int .u64 (t : Int), .int .i64 r]) (.agg #[.int .u64 0, .int .i64 0])).run Tryd.prog W = .ok (.bool (!decide (t = 0 ∧ r = 0))) W := fun W => by
    by_cases h1 : t = 0
    · subst h1
      by_cases h2 : r = 0
      · subst h2
        go_simp
      · go_simp
    · go_simp
      try omega
  unfold idV
  by_cases h1 : t ≤ 1099511627776
  · by_cases h2 : 0 ≤ r
    · by_cases h3 : r ≤ 64
      · have e : rightB t r = !decide (t = 0 ∧ r = 0) := by
          by_cases h4 : t = 0
          · subst h4
            by_cases h5 : r = 0
            · subst h5; simp [rightB]
            · simp [rightB, h2, h3, h5]; omega
          · simp [rightB, h1, h2, h3, h4]; omega
        rw [e]; clear e
        generalize (!decide (t = 0 ∧ r = 0)) = bb at hne ⊢
        go_enter Tryd.func10, Tryd.ntmps10
        go_wp2
        go_ret
        exact ⟨rfl, below_alloc w _⟩
      · have e : rightB t r = false := by simp [rightB, h3]
        rw [e]; clear e
        have h3' : 64 < r := by omega
        clear h3 hne
        go_enter Tryd.func10, Tryd.ntmps10
        go_wp2
        go_ret
        exact ⟨rfl, below_alloc w _⟩
    · have e : rightB t r = false := by simp [rightB, h2]
      rw [e]; clear e
      have h2' : r < 0 := by omega
      clear h2 hne
      go_enter Tryd.func10, Tryd.ntmps10
      go_wp2
      go_ret
      exact ⟨rfl, below_alloc w _⟩
  · have e : rightB t r = false := by simp [rightB, h1]
    rw [e]; clear e
    have h1' : 1099511627776 < t := by omega
    clear h1 hne
    go_enter Tryd.func10, Tryd.ntmps10
    go_wp2
    go_ret
    exact ⟨rfl, below_alloc w _⟩
end Go.Proofs.YtfgopiopeidfmaaDoor
