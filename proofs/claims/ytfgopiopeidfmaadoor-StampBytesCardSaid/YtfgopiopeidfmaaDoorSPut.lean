/-
The reference of stage 5: Put, by a contract.
-/
import Derived.Test.YtfgopiopeidfmaaDoorSIDs
namespace Go.Proofs.YtfgopiopeidfmaaDoor
open Go.RowKit

def lessX (x y : Nat × Int) : Bool := lessB x.1 x.2 y.1 y.2
/-- Where a stamp stands among others. -/
def posI (l : List (Nat × Int)) (a : Nat × Int) : Nat := (l.takeWhile fun x => lessX x a).length
def insI (l : List (Nat × Int)) (a : Nat × Int) : List (Nat × Int) := if l[posI l a]? = some a then l else l.take (posI l a) ++ a :: l.drop (posI l a)
theorem posI_of : ∀ {l : List (Nat × Int)} {a : Nat × Int} {k : Nat}, k ≤ l.length → (∀ j x, j < k → l[j]? = some x → lessX x a = true) → (∀ x, l[k]? = some x → lessX x a = false) → posI l a = k
  | [], _, k, hk, _, _ => by simp at hk; subst hk; rfl
  | y :: t, a, 0, _, _, hx => by
    have := hx y rfl
    simp [posI, List.takeWhile_cons, this]
  | y :: t, a, k + 1, hk, hj, hx => by
    have h0 := hj 0 y (by omega) rfl
    have ih := posI_of (l := t) (a := a) (k := k) (by simpa using hk) (fun j x hjk hx' => hj (j + 1) x (by omega) (by simpa using hx')) (fun x hx' => hx x (by simpa using hx'))
    simp only [posI, List.takeWhile_cons, h0, if_true, List.length_cons] at ih ⊢
    omega
theorem ite2_pos {x t : Nat} {y r : Int} (h : x = t ∧ y = r) : ∀ (α : Type) (a b : α), (if (x : Int) = (t : Int) then (if y = r then a else b) else b) = a := fun α a b => by
  rw [if_pos (by omega), if_pos h.2]
theorem ite2_neg {x t : Nat} {y r : Int} (h : ¬ (x = t ∧ y = r)) : ∀ (α : Type) (a b : α), (if (x : Int) = (t : Int) then (if y = r then a else b) else b) = b := fun α a b => by
  by_cases h1 : x = t
  · rw [if_pos (by omega), if_neg (fun h2 => h ⟨h1, h2⟩)]
  · rw [if_neg (by omega)]
theorem box_keep {w w' : World} {g : Nat} {t : Nat} {r : Int} (h : w.cell? ⟨g, 0, none⟩ = some (.int .u64 (t : Int)) ∧ w.cell? ⟨g, 1, none⟩ = some (.int .i64 r)) (hb : Below w.heap.size w w') :
    w'.cell? ⟨g, 0, none⟩ = some (.int .u64 (t : Int)) ∧ w'.cell? ⟨g, 1, none⟩ = some (.int .i64 r) :=
  ⟨by rw [bcell hb _ _ (World.block_lt_of_cell? _ _ h.1)]; exact h.1, by rw [bcell hb _ _ (World.block_lt_of_cell? _ _ h.1)]; exact h.2⟩

set_option maxRecDepth 20000 in
set_option maxHeartbeats 4000000 in
theorem rput_form (l : List (Nat × Int)) (n c : Nat) (A : Option Addr) (t : Nat) (r : Int) (hn : n = l.length) (hl : n ≤ 100000) (w : World) (h : RdI w (.slice A n c) l) :
    Calls Tryd.prog 13 #[.slice A n c, idV t r] w fun e w' => ∃ v', e = .returned v' ∧ RdI w' v' (insI l (t, r)) ∧ Below w.heap.size w w' := by
  have HN := Lib.hid hn; clear hn
  have HR := Lib.hid h; clear h
  have hbx : (w.alloc (.cells #[.int .u64 (t : Int), .int .i64 r] 24)).cell? ⟨w.heap.size, 0, none⟩ = some (.int .u64 (t : Int)) ∧ (w.alloc (.cells #[.int .u64 (t : Int), .int .i64 r] 24)).cell? ⟨w.heap.size, 1, none⟩ = some (.int .i64 r) := by
    have h1 : (w.alloc (.cells #[.int .u64 (t : Int), .int .i64 r] 24)).heap[w.heap.size]? = some (.cells #[.int .u64 (t : Int), .int .i64 r] 24 (0, 0)) := heap_new rfl
    exact ⟨by rw [cell_of_row _ _ 0 _ _ _ h1]; rfl, by rw [cell_of_row _ _ 1 _ _ _ h1]; rfl⟩
  have HBX0 := Lib.hid hbx
  clear hbx
  unfold idV
  go_enter Tryd.func13, Tryd.ntmps13
  go_wp2
  go_loopw [5] (fun i wr => ∃ (k : Nat), k ≤ n ∧ i = .int .i64 (k : Int) ∧ Hid (wr.cell? ⟨w.heap.size, 0, none⟩ = some (.int .u64 (t : Int)) ∧ wr.cell? ⟨w.heap.size, 1, none⟩ = some (.int .i64 r)) ∧ Below w.heap.size w wr ∧ Hid (∀ j x, j < k → l[j]? = some x → lessX x (t, r) = true)) (fun i _ => n - (intOf i).toNat)
  case atStart => exact ⟨0, Nat.zero_le _, rfl, HBX0, below_alloc _ _, Lib.hid (fun j x hj => absurd hj (Nat.not_lt_zero _))⟩
  case round =>
    obtain ⟨k, hk, rfl, HBX, hbel, HJ⟩ := hrel
    clear HBX0
    have hb0 : Below wr.heap.size wr wr.drew := (Below.refl _ wr).drew
    by_cases hkn : k < n
    · obtain ⟨x, hx⟩ : ∃ x, l[k]? = some x := ⟨_, List.getElem?_eq_getElem (by rw [← HN.out]; exact hkn)⟩
      obtain ⟨b, off, rfl, hcs⟩ := HR.out.at_ hx
      have HX := Lib.hid hx
      have HC := Lib.hid hcs
      clear hx hcs
      by_cases hle : lessB x.1 x.2 t r = true
      · have hjn : ∀ j y, j < k + 1 → l[j]? = some y → lessX y (t, r) = true := by
          intro j y hj hy
          rcases Nat.lt_or_ge j k with h | h
          · exact HJ.out j y h hy
          · obtain rfl : j = k := by omega
            have e := HX.out.symm.trans hy
            simp at e; subst e; exact hle
        have HJN := Lib.hid hjn
        have hless := fun w2 => rless_any x.1 x.2 t r w2
        rw [hle] at hless
        unfold idV at hless
        have HLS := Lib.hid hless
        clear hjn hless hle
        go_wp2
        refine wp_region_noPanic ?_
        refine wp_region_held_drew (S := fun w' => Below wr.heap.size wr w') (by kernel_rfl) hb0 (fun HH => ?_)
        refine wpAnyH_take (i := 0) (v := ?_) rfl (by kernel_rfl) (by kernel_rfl) (by kernel_rfl) (fun _ _ _ h => h) (Or.inl ⟨by rfl, ?_⟩) HH ?_
        rotate_left
        · intro w hSw; go_simp; try with_reducible rfl
        simp only [List.getElem_toArray, List.getElem_cons_succ, List.getElem_cons_zero, Act.put, List.setIfInBounds_toArray, List.set_cons_zero, List.set_cons_succ]
        refine wpAnyH_take (i := 1) (v := ?_) rfl (by kernel_rfl) (by kernel_rfl) (by kernel_rfl) (fun _ _ _ h => h) (Or.inl ⟨by rfl, ?_⟩) HH ?_
        rotate_left
        · intro w hSw; go_simp; try with_reducible rfl
        simp only [List.getElem_toArray, List.getElem_cons_succ, List.getElem_cons_zero, Act.put, List.setIfInBounds_toArray, List.set_cons_zero, List.set_cons_succ]
        refine wpAnyH_take (i := 2) (v := ?_) rfl (by kernel_rfl) (by kernel_rfl) (by kernel_rfl) (fun _ _ _ h => h) (Or.inl ⟨by rfl, ?_⟩) HH ?_
        rotate_left
        · intro w hSw; go_simp; try with_reducible rfl
        simp only [List.getElem_toArray, List.getElem_cons_succ, List.getElem_cons_zero, Act.put, List.setIfInBounds_toArray, List.set_cons_zero, List.set_cons_succ]
        refine wpAnyH_take (i := 3) (v := ?_) rfl (by kernel_rfl) (by kernel_rfl) (by kernel_rfl) (fun _ _ _ h => h) (Or.inl ⟨by rfl, ?_⟩) HH ?_
        rotate_left
        · intro w hSw; go_simp; try with_reducible rfl
        simp only [List.getElem_toArray, List.getElem_cons_succ, List.getElem_cons_zero, Act.put, List.setIfInBounds_toArray, List.set_cons_zero, List.set_cons_succ]
        refine wpAnyH_take (i := 4) (v := ?_) rfl (by kernel_rfl) (by kernel_rfl) (by kernel_rfl) (fun _ _ _ h => h) (Or.inl ⟨by rfl, ?_⟩) HH ?_
        rotate_left
        · intro w hSw; go_simp; try with_reducible rfl
        simp only [List.getElem_toArray, List.getElem_cons_succ, List.getElem_cons_zero, Act.put, List.setIfInBounds_toArray, List.set_cons_zero, List.set_cons_succ]
        refine wpAnyH_take (i := 5) (v := ?_) rfl (by kernel_rfl) (by kernel_rfl) (by kernel_rfl) (fun _ _ _ h => h) (Or.inl ⟨by rfl, ?_⟩) HH ?_
        rotate_left
        · intro w hSw; go_simp; try with_reducible rfl
        simp only [List.getElem_toArray, List.getElem_cons_succ, List.getElem_cons_zero, Act.put, List.setIfInBounds_toArray, List.set_cons_zero, List.set_cons_succ]
        refine wpAnyH_take (i := 6) (v := ?_) rfl (by kernel_rfl) (by kernel_rfl) (by kernel_rfl) (fun _ _ _ h => h) (Or.inl ⟨by rfl, ?_⟩) HH ?_
        rotate_left
        · intro w hSw; go_simp; try with_reducible rfl
        simp only [List.getElem_toArray, List.getElem_cons_succ, List.getElem_cons_zero, Act.put, List.setIfInBounds_toArray, List.set_cons_zero, List.set_cons_succ]
        refine wpAnyH_take (i := 7) (v := ?_) rfl (by kernel_rfl) (by kernel_rfl) (by kernel_rfl) (fun _ _ _ h => h) (Or.inl ⟨by rfl, ?_⟩) HH ?_
        rotate_left
        · intro w hSw; go_simp; try with_reducible rfl
        simp only [List.getElem_toArray, List.getElem_cons_succ, List.getElem_cons_zero, Act.put, List.setIfInBounds_toArray, List.set_cons_zero, List.set_cons_succ]
        refine wpAnyH_take (i := 8) (v := ?_) rfl (by kernel_rfl) (by kernel_rfl) (by kernel_rfl) (fun _ _ _ h => h) (Or.inl ⟨by rfl, ?_⟩) HH ?_
        rotate_left
        · intro w hSw; obtain ⟨p0, p1⟩ := HC.out w (hbel.trans (hSw.mono hbel.size)); go_simp; try with_reducible rfl
        simp only [List.getElem_toArray, List.getElem_cons_succ, List.getElem_cons_zero, Act.put, List.setIfInBounds_toArray, List.set_cons_zero, List.set_cons_succ]
        refine wpAnyH_take (i := 9) (v := ?_) rfl (by kernel_rfl) (by kernel_rfl) (by kernel_rfl) (fun _ _ _ h => h) (Or.inl ⟨by rfl, ?_⟩) HH ?_
        rotate_left
        · intro w hSw; obtain ⟨q0, q1⟩ := box_keep HBX.out hSw; go_simp; try with_reducible rfl
        simp only [List.getElem_toArray, List.getElem_cons_succ, List.getElem_cons_zero, Act.put, List.setIfInBounds_toArray, List.set_cons_zero, List.set_cons_succ]
        refine wpAnyH_ready (rs := [10]) (by kernel_rfl) (by simp) ?_
        refine AllReadyH.cons rfl (fun K hK => ?_) AllReadyH.nil
        go_simp
        go_at_call 7
        refine (HLS.out _).mono ?_
        rintro e W ⟨rfl, hbW⟩
        have hbW1 := hb0.trans (hbW.mono hb0.size)
        go_simp
        refine hK.out _ _ hbW1 (fun HG1 => ?_)
        clear hK
        try simp only [List.getElem_toArray, List.getElem_cons_succ, List.getElem_cons_zero, Act.put, List.setIfInBounds_toArray, List.set_cons_zero, List.set_cons_succ]
        refine wpAnyH_take (i := 11) (v := ?_) rfl (by kernel_rfl) (by kernel_rfl) (by kernel_rfl) (fun _ _ _ h => h) (Or.inl ⟨by rfl, ?_⟩) HG1 ?_
        rotate_left
        · intro w hSw; go_simp; try with_reducible rfl
        simp only [List.getElem_toArray, List.getElem_cons_succ, List.getElem_cons_zero, Act.put, List.setIfInBounds_toArray, List.set_cons_zero, List.set_cons_succ]
        refine wpAnyH_done (by kernel_rfl) ?_ _
        refine NoPanic.normal ?_
        have HBX1 := Lib.hid (box_keep HBX.out hbW1)
        have hbel1 : Below w.heap.size w W := hbel.trans (hbW1.mono hbel.size)
        go_wp2
        go_roundw
        case rel => exact ⟨k + 1, by omega, by go_num, HBX1, hbel1, HJN⟩
        case measure => simp [intOf]; omega
      · have hle' : lessB x.1 x.2 t r = false := by simpa using hle
        have hless := fun w2 => rless_any x.1 x.2 t r w2
        rw [hle'] at hless
        unfold idV at hless
        have HLS := Lib.hid hless
        have hpos : posI l (t, r) = k := posI_of (by rw [← HN.out]; exact hk) HJ.out (fun y hy => by
          have e := HX.out.symm.trans hy
          simp at e; subst e; exact hle')
        have HP := Lib.hid hpos
        clear hless hle hle' hpos
        by_cases hxe : x.1 = t ∧ x.2 = r
        · have HEQ := Lib.hid (ite2_pos hxe)
          have hins : insI l (t, r) = l := by
            unfold insI
            rw [HP.out, if_pos]
            rw [HX.out]
            obtain ⟨x1, x2⟩ := x
            obtain ⟨h1, h2⟩ := hxe
            simp only at h1 h2
            rw [h1, h2]
          have HINS := Lib.hid hins
          clear hins hxe
          go_wp2
          refine wp_region_noPanic ?_
          refine wp_region_held_drew (S := fun w' => Below wr.heap.size wr w') (by kernel_rfl) hb0 (fun HH => ?_)
          refine wpAnyH_take (i := 0) (v := ?_) rfl (by kernel_rfl) (by kernel_rfl) (by kernel_rfl) (fun _ _ _ h => h) (Or.inl ⟨by rfl, ?_⟩) HH ?_
          rotate_left
          · intro w hSw; go_simp; try with_reducible rfl
          simp only [List.getElem_toArray, List.getElem_cons_succ, List.getElem_cons_zero, Act.put, List.setIfInBounds_toArray, List.set_cons_zero, List.set_cons_succ]
          refine wpAnyH_take (i := 1) (v := ?_) rfl (by kernel_rfl) (by kernel_rfl) (by kernel_rfl) (fun _ _ _ h => h) (Or.inl ⟨by rfl, ?_⟩) HH ?_
          rotate_left
          · intro w hSw; go_simp; try with_reducible rfl
          simp only [List.getElem_toArray, List.getElem_cons_succ, List.getElem_cons_zero, Act.put, List.setIfInBounds_toArray, List.set_cons_zero, List.set_cons_succ]
          refine wpAnyH_take (i := 2) (v := ?_) rfl (by kernel_rfl) (by kernel_rfl) (by kernel_rfl) (fun _ _ _ h => h) (Or.inl ⟨by rfl, ?_⟩) HH ?_
          rotate_left
          · intro w hSw; go_simp; try with_reducible rfl
          simp only [List.getElem_toArray, List.getElem_cons_succ, List.getElem_cons_zero, Act.put, List.setIfInBounds_toArray, List.set_cons_zero, List.set_cons_succ]
          refine wpAnyH_take (i := 3) (v := ?_) rfl (by kernel_rfl) (by kernel_rfl) (by kernel_rfl) (fun _ _ _ h => h) (Or.inl ⟨by rfl, ?_⟩) HH ?_
          rotate_left
          · intro w hSw; go_simp; try with_reducible rfl
          simp only [List.getElem_toArray, List.getElem_cons_succ, List.getElem_cons_zero, Act.put, List.setIfInBounds_toArray, List.set_cons_zero, List.set_cons_succ]
          refine wpAnyH_take (i := 4) (v := ?_) rfl (by kernel_rfl) (by kernel_rfl) (by kernel_rfl) (fun _ _ _ h => h) (Or.inl ⟨by rfl, ?_⟩) HH ?_
          rotate_left
          · intro w hSw; go_simp; try with_reducible rfl
          simp only [List.getElem_toArray, List.getElem_cons_succ, List.getElem_cons_zero, Act.put, List.setIfInBounds_toArray, List.set_cons_zero, List.set_cons_succ]
          refine wpAnyH_take (i := 5) (v := ?_) rfl (by kernel_rfl) (by kernel_rfl) (by kernel_rfl) (fun _ _ _ h => h) (Or.inl ⟨by rfl, ?_⟩) HH ?_
          rotate_left
          · intro w hSw; go_simp; try with_reducible rfl
          simp only [List.getElem_toArray, List.getElem_cons_succ, List.getElem_cons_zero, Act.put, List.setIfInBounds_toArray, List.set_cons_zero, List.set_cons_succ]
          refine wpAnyH_take (i := 6) (v := ?_) rfl (by kernel_rfl) (by kernel_rfl) (by kernel_rfl) (fun _ _ _ h => h) (Or.inl ⟨by rfl, ?_⟩) HH ?_
          rotate_left
          · intro w hSw; go_simp; try with_reducible rfl
          simp only [List.getElem_toArray, List.getElem_cons_succ, List.getElem_cons_zero, Act.put, List.setIfInBounds_toArray, List.set_cons_zero, List.set_cons_succ]
          refine wpAnyH_take (i := 7) (v := ?_) rfl (by kernel_rfl) (by kernel_rfl) (by kernel_rfl) (fun _ _ _ h => h) (Or.inl ⟨by rfl, ?_⟩) HH ?_
          rotate_left
          · intro w hSw; go_simp; try with_reducible rfl
          simp only [List.getElem_toArray, List.getElem_cons_succ, List.getElem_cons_zero, Act.put, List.setIfInBounds_toArray, List.set_cons_zero, List.set_cons_succ]
          refine wpAnyH_take (i := 8) (v := ?_) rfl (by kernel_rfl) (by kernel_rfl) (by kernel_rfl) (fun _ _ _ h => h) (Or.inl ⟨by rfl, ?_⟩) HH ?_
          rotate_left
          · intro w hSw; obtain ⟨p0, p1⟩ := HC.out w (hbel.trans (hSw.mono hbel.size)); go_simp; try with_reducible rfl
          simp only [List.getElem_toArray, List.getElem_cons_succ, List.getElem_cons_zero, Act.put, List.setIfInBounds_toArray, List.set_cons_zero, List.set_cons_succ]
          refine wpAnyH_take (i := 9) (v := ?_) rfl (by kernel_rfl) (by kernel_rfl) (by kernel_rfl) (fun _ _ _ h => h) (Or.inl ⟨by rfl, ?_⟩) HH ?_
          rotate_left
          · intro w hSw; obtain ⟨q0, q1⟩ := box_keep HBX.out hSw; go_simp; try with_reducible rfl
          simp only [List.getElem_toArray, List.getElem_cons_succ, List.getElem_cons_zero, Act.put, List.setIfInBounds_toArray, List.set_cons_zero, List.set_cons_succ]
          refine wpAnyH_ready (rs := [10]) (by kernel_rfl) (by simp) ?_
          refine AllReadyH.cons rfl (fun K hK => ?_) AllReadyH.nil
          go_simp
          go_at_call 7
          refine (HLS.out _).mono ?_
          rintro e W ⟨rfl, hbW⟩
          have hbW1 := hb0.trans (hbW.mono hb0.size)
          go_simp
          refine hK.out _ _ hbW1 (fun HG1 => ?_)
          clear hK
          try simp only [List.getElem_toArray, List.getElem_cons_succ, List.getElem_cons_zero, Act.put, List.setIfInBounds_toArray, List.set_cons_zero, List.set_cons_succ]
          refine wpAnyH_take (i := 11) (v := ?_) rfl (by kernel_rfl) (by kernel_rfl) (by kernel_rfl) (fun _ _ _ h => h) (Or.inl ⟨by rfl, ?_⟩) HG1 ?_
          rotate_left
          · intro w hSw; go_simp; try with_reducible rfl
          simp only [List.getElem_toArray, List.getElem_cons_succ, List.getElem_cons_zero, Act.put, List.setIfInBounds_toArray, List.set_cons_zero, List.set_cons_succ]
          refine wpAnyH_done (by kernel_rfl) ?_ _
          refine NoPanic.normal ?_
          have HBX1 := Lib.hid (box_keep HBX.out hbW1)
          have HBEL : Hid (Below w.heap.size w W) := Lib.hid (hbel.trans (hbW1.mono hbel.size))
          go_wp2
          have hb5 : Below W.heap.size W W.drew := (Below.refl _ W).drew
          refine wp_region_noPanic ?_
          refine wp_region_held_drew (S := fun w' => Below W.heap.size W w') (by kernel_rfl) hb5 (fun HH2 => ?_)
          refine wpAnyH_take (i := 0) (v := ?_) rfl (by kernel_rfl) (by kernel_rfl) (by kernel_rfl) (fun _ _ _ h => h) (Or.inl ⟨by rfl, ?_⟩) HH2 ?_
          rotate_left
          · intro w hSw; go_simp; try with_reducible rfl
          simp only [List.getElem_toArray, List.getElem_cons_succ, List.getElem_cons_zero, Act.put, List.setIfInBounds_toArray, List.set_cons_zero, List.set_cons_succ]
          refine wpAnyH_take (i := 1) (v := ?_) rfl (by kernel_rfl) (by kernel_rfl) (by kernel_rfl) (fun _ _ _ h => h) (Or.inl ⟨by rfl, ?_⟩) HH2 ?_
          rotate_left
          · intro w hSw; go_simp; try with_reducible rfl
          simp only [List.getElem_toArray, List.getElem_cons_succ, List.getElem_cons_zero, Act.put, List.setIfInBounds_toArray, List.set_cons_zero, List.set_cons_succ]
          refine wpAnyH_take (i := 2) (v := ?_) rfl (by kernel_rfl) (by kernel_rfl) (by kernel_rfl) (fun _ _ _ h => h) (Or.inl ⟨by rfl, ?_⟩) HH2 ?_
          rotate_left
          · intro w hSw; go_simp; try with_reducible rfl
          simp only [List.getElem_toArray, List.getElem_cons_succ, List.getElem_cons_zero, Act.put, List.setIfInBounds_toArray, List.set_cons_zero, List.set_cons_succ]
          refine wpAnyH_take (i := 3) (v := ?_) rfl (by kernel_rfl) (by kernel_rfl) (by kernel_rfl) (fun _ _ _ h => h) (Or.inl ⟨by rfl, ?_⟩) HH2 ?_
          rotate_left
          · intro w hSw; go_simp; try with_reducible rfl
          simp only [List.getElem_toArray, List.getElem_cons_succ, List.getElem_cons_zero, Act.put, List.setIfInBounds_toArray, List.set_cons_zero, List.set_cons_succ]
          refine wpAnyH_take (i := 4) (v := ?_) rfl (by kernel_rfl) (by kernel_rfl) (by kernel_rfl) (fun _ _ _ h => h) (Or.inl ⟨by rfl, ?_⟩) HH2 ?_
          rotate_left
          · intro w hSw; go_simp; try with_reducible rfl
          simp only [List.getElem_toArray, List.getElem_cons_succ, List.getElem_cons_zero, Act.put, List.setIfInBounds_toArray, List.set_cons_zero, List.set_cons_succ]
          refine wpAnyH_take (i := 5) (v := ?_) rfl (by kernel_rfl) (by kernel_rfl) (by kernel_rfl) (fun _ _ _ h => h) (Or.inl ⟨by rfl, ?_⟩) HH2 ?_
          rotate_left
          · intro w hSw; go_simp; try with_reducible rfl
          simp only [List.getElem_toArray, List.getElem_cons_succ, List.getElem_cons_zero, Act.put, List.setIfInBounds_toArray, List.set_cons_zero, List.set_cons_succ]
          refine wpAnyH_take (i := 6) (v := ?_) rfl (by kernel_rfl) (by kernel_rfl) (by kernel_rfl) (fun _ _ _ h => h) (Or.inl ⟨by rfl, ?_⟩) HH2 ?_
          rotate_left
          · intro w hSw; go_simp; try with_reducible rfl
          simp only [List.getElem_toArray, List.getElem_cons_succ, List.getElem_cons_zero, Act.put, List.setIfInBounds_toArray, List.set_cons_zero, List.set_cons_succ]
          refine wpAnyH_take (i := 7) (v := ?_) rfl (by kernel_rfl) (by kernel_rfl) (by kernel_rfl) (fun _ _ _ h => h) (Or.inl ⟨by rfl, ?_⟩) HH2 ?_
          rotate_left
          · intro w hSw; go_simp; try with_reducible rfl
          simp only [List.getElem_toArray, List.getElem_cons_succ, List.getElem_cons_zero, Act.put, List.setIfInBounds_toArray, List.set_cons_zero, List.set_cons_succ]
          refine wpAnyH_take (i := 8) (v := ?_) rfl (by kernel_rfl) (by kernel_rfl) (by kernel_rfl) (fun _ _ _ h => h) (Or.inl ⟨by rfl, ?_⟩) HH2 ?_
          rotate_left
          · intro w hSw; obtain ⟨p0, p1⟩ := HC.out w (HBEL.out.trans (hSw.mono HBEL.out.size)); go_simp; try with_reducible rfl
          simp only [List.getElem_toArray, List.getElem_cons_succ, List.getElem_cons_zero, Act.put, List.setIfInBounds_toArray, List.set_cons_zero, List.set_cons_succ]
          refine wpAnyH_take (i := 9) (v := ?_) rfl (by kernel_rfl) (by kernel_rfl) (by kernel_rfl) (fun _ _ _ h => h) (Or.inl ⟨by rfl, ?_⟩) HH2 ?_
          rotate_left
          · intro w hSw; obtain ⟨q0, q1⟩ := box_keep HBX1.out hSw; go_simp; try with_reducible rfl
          simp only [List.getElem_toArray, List.getElem_cons_succ, List.getElem_cons_zero, Act.put, List.setIfInBounds_toArray, List.set_cons_zero, List.set_cons_succ]
          refine wpAnyH_take (i := 10) (v := ?_) rfl (by kernel_rfl) (by kernel_rfl) (by kernel_rfl) (fun _ _ _ h => h) (Or.inl ⟨by rfl, ?_⟩) HH2 ?_
          rotate_left
          · intro w hSw; have heq := fun (α : Type) (a b : α) => HEQ.out α a b; go_simp; try with_reducible rfl
          simp only [List.getElem_toArray, List.getElem_cons_succ, List.getElem_cons_zero, Act.put, List.setIfInBounds_toArray, List.set_cons_zero, List.set_cons_succ]
          refine wpAnyH_take (i := 11) (v := ?_) rfl (by kernel_rfl) (by kernel_rfl) (by kernel_rfl) (fun _ _ _ h => h) (Or.inl ⟨by rfl, ?_⟩) HH2 ?_
          rotate_left
          · intro w hSw; go_simp; try with_reducible rfl
          simp only [List.getElem_toArray, List.getElem_cons_succ, List.getElem_cons_zero, Act.put, List.setIfInBounds_toArray, List.set_cons_zero, List.set_cons_succ]
          refine wpAnyH_done (by kernel_rfl) ?_ _
          refine NoPanic.normal ?_
          go_wp2
          go_ret
          have hbf := HBEL.out.trans (hb5.mono HBEL.out.size)
          refine ⟨_, rfl, ?_, hbf⟩
          rw [HINS.out]
          exact HR.out.below hbf
        · have HEQ := Lib.hid (ite2_neg hxe)
          have hins : insI l (t, r) = l.take k ++ (t, r) :: l.drop k := by
            unfold insI
            rw [HP.out, if_neg]
            rw [HX.out]
            intro e
            obtain ⟨x1, x2⟩ := x
            simp only [Option.some.injEq, Prod.mk.injEq] at e
            exact hxe e
          have HINS := Lib.hid hins
          clear hins hxe
          go_wp2
          refine wp_region_noPanic ?_
          refine wp_region_held_drew (S := fun w' => Below wr.heap.size wr w') (by kernel_rfl) hb0 (fun HH => ?_)
          refine wpAnyH_take (i := 0) (v := ?_) rfl (by kernel_rfl) (by kernel_rfl) (by kernel_rfl) (fun _ _ _ h => h) (Or.inl ⟨by rfl, ?_⟩) HH ?_
          rotate_left
          · intro w hSw; go_simp; try with_reducible rfl
          simp only [List.getElem_toArray, List.getElem_cons_succ, List.getElem_cons_zero, Act.put, List.setIfInBounds_toArray, List.set_cons_zero, List.set_cons_succ]
          refine wpAnyH_take (i := 1) (v := ?_) rfl (by kernel_rfl) (by kernel_rfl) (by kernel_rfl) (fun _ _ _ h => h) (Or.inl ⟨by rfl, ?_⟩) HH ?_
          rotate_left
          · intro w hSw; go_simp; try with_reducible rfl
          simp only [List.getElem_toArray, List.getElem_cons_succ, List.getElem_cons_zero, Act.put, List.setIfInBounds_toArray, List.set_cons_zero, List.set_cons_succ]
          refine wpAnyH_take (i := 2) (v := ?_) rfl (by kernel_rfl) (by kernel_rfl) (by kernel_rfl) (fun _ _ _ h => h) (Or.inl ⟨by rfl, ?_⟩) HH ?_
          rotate_left
          · intro w hSw; go_simp; try with_reducible rfl
          simp only [List.getElem_toArray, List.getElem_cons_succ, List.getElem_cons_zero, Act.put, List.setIfInBounds_toArray, List.set_cons_zero, List.set_cons_succ]
          refine wpAnyH_take (i := 3) (v := ?_) rfl (by kernel_rfl) (by kernel_rfl) (by kernel_rfl) (fun _ _ _ h => h) (Or.inl ⟨by rfl, ?_⟩) HH ?_
          rotate_left
          · intro w hSw; go_simp; try with_reducible rfl
          simp only [List.getElem_toArray, List.getElem_cons_succ, List.getElem_cons_zero, Act.put, List.setIfInBounds_toArray, List.set_cons_zero, List.set_cons_succ]
          refine wpAnyH_take (i := 4) (v := ?_) rfl (by kernel_rfl) (by kernel_rfl) (by kernel_rfl) (fun _ _ _ h => h) (Or.inl ⟨by rfl, ?_⟩) HH ?_
          rotate_left
          · intro w hSw; go_simp; try with_reducible rfl
          simp only [List.getElem_toArray, List.getElem_cons_succ, List.getElem_cons_zero, Act.put, List.setIfInBounds_toArray, List.set_cons_zero, List.set_cons_succ]
          refine wpAnyH_take (i := 5) (v := ?_) rfl (by kernel_rfl) (by kernel_rfl) (by kernel_rfl) (fun _ _ _ h => h) (Or.inl ⟨by rfl, ?_⟩) HH ?_
          rotate_left
          · intro w hSw; go_simp; try with_reducible rfl
          simp only [List.getElem_toArray, List.getElem_cons_succ, List.getElem_cons_zero, Act.put, List.setIfInBounds_toArray, List.set_cons_zero, List.set_cons_succ]
          refine wpAnyH_take (i := 6) (v := ?_) rfl (by kernel_rfl) (by kernel_rfl) (by kernel_rfl) (fun _ _ _ h => h) (Or.inl ⟨by rfl, ?_⟩) HH ?_
          rotate_left
          · intro w hSw; go_simp; try with_reducible rfl
          simp only [List.getElem_toArray, List.getElem_cons_succ, List.getElem_cons_zero, Act.put, List.setIfInBounds_toArray, List.set_cons_zero, List.set_cons_succ]
          refine wpAnyH_take (i := 7) (v := ?_) rfl (by kernel_rfl) (by kernel_rfl) (by kernel_rfl) (fun _ _ _ h => h) (Or.inl ⟨by rfl, ?_⟩) HH ?_
          rotate_left
          · intro w hSw; go_simp; try with_reducible rfl
          simp only [List.getElem_toArray, List.getElem_cons_succ, List.getElem_cons_zero, Act.put, List.setIfInBounds_toArray, List.set_cons_zero, List.set_cons_succ]
          refine wpAnyH_take (i := 8) (v := ?_) rfl (by kernel_rfl) (by kernel_rfl) (by kernel_rfl) (fun _ _ _ h => h) (Or.inl ⟨by rfl, ?_⟩) HH ?_
          rotate_left
          · intro w hSw; obtain ⟨p0, p1⟩ := HC.out w (hbel.trans (hSw.mono hbel.size)); go_simp; try with_reducible rfl
          simp only [List.getElem_toArray, List.getElem_cons_succ, List.getElem_cons_zero, Act.put, List.setIfInBounds_toArray, List.set_cons_zero, List.set_cons_succ]
          refine wpAnyH_take (i := 9) (v := ?_) rfl (by kernel_rfl) (by kernel_rfl) (by kernel_rfl) (fun _ _ _ h => h) (Or.inl ⟨by rfl, ?_⟩) HH ?_
          rotate_left
          · intro w hSw; obtain ⟨q0, q1⟩ := box_keep HBX.out hSw; go_simp; try with_reducible rfl
          simp only [List.getElem_toArray, List.getElem_cons_succ, List.getElem_cons_zero, Act.put, List.setIfInBounds_toArray, List.set_cons_zero, List.set_cons_succ]
          refine wpAnyH_ready (rs := [10]) (by kernel_rfl) (by simp) ?_
          refine AllReadyH.cons rfl (fun K hK => ?_) AllReadyH.nil
          go_simp
          go_at_call 7
          refine (HLS.out _).mono ?_
          rintro e W ⟨rfl, hbW⟩
          have hbW1 := hb0.trans (hbW.mono hb0.size)
          go_simp
          refine hK.out _ _ hbW1 (fun HG1 => ?_)
          clear hK
          try simp only [List.getElem_toArray, List.getElem_cons_succ, List.getElem_cons_zero, Act.put, List.setIfInBounds_toArray, List.set_cons_zero, List.set_cons_succ]
          refine wpAnyH_take (i := 11) (v := ?_) rfl (by kernel_rfl) (by kernel_rfl) (by kernel_rfl) (fun _ _ _ h => h) (Or.inl ⟨by rfl, ?_⟩) HG1 ?_
          rotate_left
          · intro w hSw; go_simp; try with_reducible rfl
          simp only [List.getElem_toArray, List.getElem_cons_succ, List.getElem_cons_zero, Act.put, List.setIfInBounds_toArray, List.set_cons_zero, List.set_cons_succ]
          refine wpAnyH_done (by kernel_rfl) ?_ _
          refine NoPanic.normal ?_
          have HBX1 := Lib.hid (box_keep HBX.out hbW1)
          have HBEL : Hid (Below w.heap.size w W) := Lib.hid (hbel.trans (hbW1.mono hbel.size))
          go_wp2
          have hb5 : Below W.heap.size W W.drew := (Below.refl _ W).drew
          refine wp_region_noPanic ?_
          refine wp_region_held_drew (S := fun w' => Below W.heap.size W w') (by kernel_rfl) hb5 (fun HH2 => ?_)
          refine wpAnyH_take (i := 0) (v := ?_) rfl (by kernel_rfl) (by kernel_rfl) (by kernel_rfl) (fun _ _ _ h => h) (Or.inl ⟨by rfl, ?_⟩) HH2 ?_
          rotate_left
          · intro w hSw; go_simp; try with_reducible rfl
          simp only [List.getElem_toArray, List.getElem_cons_succ, List.getElem_cons_zero, Act.put, List.setIfInBounds_toArray, List.set_cons_zero, List.set_cons_succ]
          refine wpAnyH_take (i := 1) (v := ?_) rfl (by kernel_rfl) (by kernel_rfl) (by kernel_rfl) (fun _ _ _ h => h) (Or.inl ⟨by rfl, ?_⟩) HH2 ?_
          rotate_left
          · intro w hSw; go_simp; try with_reducible rfl
          simp only [List.getElem_toArray, List.getElem_cons_succ, List.getElem_cons_zero, Act.put, List.setIfInBounds_toArray, List.set_cons_zero, List.set_cons_succ]
          refine wpAnyH_take (i := 2) (v := ?_) rfl (by kernel_rfl) (by kernel_rfl) (by kernel_rfl) (fun _ _ _ h => h) (Or.inl ⟨by rfl, ?_⟩) HH2 ?_
          rotate_left
          · intro w hSw; go_simp; try with_reducible rfl
          simp only [List.getElem_toArray, List.getElem_cons_succ, List.getElem_cons_zero, Act.put, List.setIfInBounds_toArray, List.set_cons_zero, List.set_cons_succ]
          refine wpAnyH_take (i := 3) (v := ?_) rfl (by kernel_rfl) (by kernel_rfl) (by kernel_rfl) (fun _ _ _ h => h) (Or.inl ⟨by rfl, ?_⟩) HH2 ?_
          rotate_left
          · intro w hSw; go_simp; try with_reducible rfl
          simp only [List.getElem_toArray, List.getElem_cons_succ, List.getElem_cons_zero, Act.put, List.setIfInBounds_toArray, List.set_cons_zero, List.set_cons_succ]
          refine wpAnyH_take (i := 4) (v := ?_) rfl (by kernel_rfl) (by kernel_rfl) (by kernel_rfl) (fun _ _ _ h => h) (Or.inl ⟨by rfl, ?_⟩) HH2 ?_
          rotate_left
          · intro w hSw; go_simp; try with_reducible rfl
          simp only [List.getElem_toArray, List.getElem_cons_succ, List.getElem_cons_zero, Act.put, List.setIfInBounds_toArray, List.set_cons_zero, List.set_cons_succ]
          refine wpAnyH_take (i := 5) (v := ?_) rfl (by kernel_rfl) (by kernel_rfl) (by kernel_rfl) (fun _ _ _ h => h) (Or.inl ⟨by rfl, ?_⟩) HH2 ?_
          rotate_left
          · intro w hSw; go_simp; try with_reducible rfl
          simp only [List.getElem_toArray, List.getElem_cons_succ, List.getElem_cons_zero, Act.put, List.setIfInBounds_toArray, List.set_cons_zero, List.set_cons_succ]
          refine wpAnyH_take (i := 6) (v := ?_) rfl (by kernel_rfl) (by kernel_rfl) (by kernel_rfl) (fun _ _ _ h => h) (Or.inl ⟨by rfl, ?_⟩) HH2 ?_
          rotate_left
          · intro w hSw; go_simp; try with_reducible rfl
          simp only [List.getElem_toArray, List.getElem_cons_succ, List.getElem_cons_zero, Act.put, List.setIfInBounds_toArray, List.set_cons_zero, List.set_cons_succ]
          refine wpAnyH_take (i := 7) (v := ?_) rfl (by kernel_rfl) (by kernel_rfl) (by kernel_rfl) (fun _ _ _ h => h) (Or.inl ⟨by rfl, ?_⟩) HH2 ?_
          rotate_left
          · intro w hSw; go_simp; try with_reducible rfl
          simp only [List.getElem_toArray, List.getElem_cons_succ, List.getElem_cons_zero, Act.put, List.setIfInBounds_toArray, List.set_cons_zero, List.set_cons_succ]
          refine wpAnyH_take (i := 8) (v := ?_) rfl (by kernel_rfl) (by kernel_rfl) (by kernel_rfl) (fun _ _ _ h => h) (Or.inl ⟨by rfl, ?_⟩) HH2 ?_
          rotate_left
          · intro w hSw; obtain ⟨p0, p1⟩ := HC.out w (HBEL.out.trans (hSw.mono HBEL.out.size)); go_simp; try with_reducible rfl
          simp only [List.getElem_toArray, List.getElem_cons_succ, List.getElem_cons_zero, Act.put, List.setIfInBounds_toArray, List.set_cons_zero, List.set_cons_succ]
          refine wpAnyH_take (i := 9) (v := ?_) rfl (by kernel_rfl) (by kernel_rfl) (by kernel_rfl) (fun _ _ _ h => h) (Or.inl ⟨by rfl, ?_⟩) HH2 ?_
          rotate_left
          · intro w hSw; obtain ⟨q0, q1⟩ := box_keep HBX1.out hSw; go_simp; try with_reducible rfl
          simp only [List.getElem_toArray, List.getElem_cons_succ, List.getElem_cons_zero, Act.put, List.setIfInBounds_toArray, List.set_cons_zero, List.set_cons_succ]
          refine wpAnyH_take (i := 10) (v := ?_) rfl (by kernel_rfl) (by kernel_rfl) (by kernel_rfl) (fun _ _ _ h => h) (Or.inl ⟨by rfl, ?_⟩) HH2 ?_
          rotate_left
          · intro w hSw; have heq := fun (α : Type) (a b : α) => HEQ.out α a b; go_simp; try with_reducible rfl
          simp only [List.getElem_toArray, List.getElem_cons_succ, List.getElem_cons_zero, Act.put, List.setIfInBounds_toArray, List.set_cons_zero, List.set_cons_succ]
          refine wpAnyH_take (i := 11) (v := ?_) rfl (by kernel_rfl) (by kernel_rfl) (by kernel_rfl) (fun _ _ _ h => h) (Or.inl ⟨by rfl, ?_⟩) HH2 ?_
          rotate_left
          · intro w hSw; go_simp; try with_reducible rfl
          simp only [List.getElem_toArray, List.getElem_cons_succ, List.getElem_cons_zero, Act.put, List.setIfInBounds_toArray, List.set_cons_zero, List.set_cons_succ]
          refine wpAnyH_done (by kernel_rfl) ?_ _
          refine NoPanic.normal ?_
          go_wp2
          have HBXc := Lib.hid (box_keep HBX1.out hb5)
          have HBELc := Lib.hid (HBEL.out.trans (hb5.mono HBEL.out.size))
          obtain ⟨wc, hwc⟩ : ∃ wc, wc = W.drew := ⟨_, rfl⟩
          rw [← hwc]
          have HBX1 : Hid (wc.cell? ⟨w.heap.size, 0, none⟩ = some (.int .u64 (t : Int)) ∧ wc.cell? ⟨w.heap.size, 1, none⟩ = some (.int .i64 r)) := by rw [hwc]; exact HBXc.out
          have HBEL : Hid (Below w.heap.size w wc) := by rw [hwc]; exact HBELc.out
          clear hwc
          obtain ⟨AV, pV, cV, hsv⟩ : ∃ AA p cc, sliceVI (some ⟨b, off, none⟩) n c k = .slice AA p cc := ⟨_, _, _, rfl⟩
          obtain ⟨AH, pH, cH, hsh⟩ : ∃ AA p cc, sliceHI (some ⟨b, off, none⟩) c k = .slice AA p cc := ⟨_, _, _, rfl⟩
          have hqv := fun W => sliceVI_run (some ⟨b, off, none⟩) n c k hk W
          have hqh := fun W => sliceHI_run (some ⟨b, off, none⟩) n c k (Nat.le_trans hk HR.out.cap_le) W
          have hrv := HR.out.cutV k hk
          have hrh := HR.out.takeH k hk
          rw [hsv] at hqv hrv
          rw [hsh] at hqh hrh
          have hl1 : (l.take k).length ≤ 100000 := by rw [List.length_take]; have := HN.out; omega
          have hl2 : (l.drop k).length ≤ 100000 := by rw [List.length_drop]; have := HN.out; omega
          have HL1 := Lib.hid hl1
          have HL2 := Lib.hid hl2
          have hsl1 : ∀ W, Below wc.heap.size wc W → RdI W (.slice AH pH cH) (l.take k) := fun W hW => hrh.below (HBEL.out.trans (hW.mono HBEL.out.size))
          have hsl2 : ∀ W, Below wc.heap.size wc W → RdI W (.slice AV pV cV) (l.drop k) := fun W hW => hrv.below (HBEL.out.trans (hW.mono HBEL.out.size))
          have HSL1 := Lib.hid hsl1
          have HSL2 := Lib.hid hsl2
          clear hsv hsh hrv hrh hl1 hl2 hsl1 hsl2
          have hS0 : Below wc.heap.size wc wc.drew := (Below.refl _ wc).drew
          refine wp_region_noPanic ?_
          refine wp_region_held_drew (S := fun w' => Below wc.heap.size wc w') (by kernel_rfl) hS0 (fun HG0 => ?_)
          refine wpAnyH_take (i := 1) (v := ?_) rfl (by kernel_rfl) (by kernel_rfl) (by kernel_rfl) (fun _ _ _ h => h) (Or.inl ⟨by rfl, ?_⟩) HG0 ?_
          rotate_left
          · intro w hSw; go_simp; try with_reducible rfl
          simp only [List.getElem_toArray, List.getElem_cons_succ, List.getElem_cons_zero, Act.put, List.setIfInBounds_toArray, List.set_cons_zero, List.set_cons_succ]
          refine wpAnyH_take (i := 2) (v := ?_) rfl (by kernel_rfl) (by kernel_rfl) (by kernel_rfl) (fun _ _ _ h => h) (Or.inl ⟨by rfl, ?_⟩) HG0 ?_
          rotate_left
          · intro w hSw; go_simp; try with_reducible rfl
          simp only [List.getElem_toArray, List.getElem_cons_succ, List.getElem_cons_zero, Act.put, List.setIfInBounds_toArray, List.set_cons_zero, List.set_cons_succ]
          refine wpAnyH_take (i := 3) (v := ?_) rfl (by kernel_rfl) (by kernel_rfl) (by kernel_rfl) (fun _ _ _ h => h) (Or.inl ⟨by rfl, ?_⟩) HG0 ?_
          rotate_left
          · intro w hSw; go_simp; try with_reducible rfl
          simp only [List.getElem_toArray, List.getElem_cons_succ, List.getElem_cons_zero, Act.put, List.setIfInBounds_toArray, List.set_cons_zero, List.set_cons_succ]
          refine wpAnyH_take (i := 5) (v := ?_) rfl (by kernel_rfl) (by kernel_rfl) (by kernel_rfl) (fun _ _ _ h => h) (Or.inl ⟨by rfl, ?_⟩) HG0 ?_
          rotate_left
          · intro w hSw; obtain ⟨q0, q1⟩ := box_keep HBX1.out hSw; go_simp; try with_reducible rfl
          simp only [List.getElem_toArray, List.getElem_cons_succ, List.getElem_cons_zero, Act.put, List.setIfInBounds_toArray, List.set_cons_zero, List.set_cons_succ]
          refine wpAnyH_take (i := 8) (v := ?_) rfl (by kernel_rfl) (by kernel_rfl) (by kernel_rfl) (fun _ _ _ h => h) (Or.inl ⟨by rfl, ?_⟩) HG0 ?_
          rotate_left
          · intro w hSw; go_simp; try with_reducible rfl
          simp only [List.getElem_toArray, List.getElem_cons_succ, List.getElem_cons_zero, Act.put, List.setIfInBounds_toArray, List.set_cons_zero, List.set_cons_succ]
          refine wpAnyH_take (i := 9) (v := ?_) rfl (by kernel_rfl) (by kernel_rfl) (by kernel_rfl) (fun _ _ _ h => h) (Or.inl ⟨by rfl, ?_⟩) HG0 ?_
          rotate_left
          · intro w hSw; go_simp; try with_reducible rfl
          simp only [List.getElem_toArray, List.getElem_cons_succ, List.getElem_cons_zero, Act.put, List.setIfInBounds_toArray, List.set_cons_zero, List.set_cons_succ]
          refine wpAnyH_take (i := 10) (v := ?_) rfl (by kernel_rfl) (by kernel_rfl) (by kernel_rfl) (fun _ _ _ h => h) (Or.inl ⟨by rfl, ?_⟩) HG0 ?_
          rotate_left
          · intro w hSw; go_simp; try with_reducible rfl
          simp only [List.getElem_toArray, List.getElem_cons_succ, List.getElem_cons_zero, Act.put, List.setIfInBounds_toArray, List.set_cons_zero, List.set_cons_succ]
          refine wpAnyH_ready (rs := [0, 6]) (by kernel_rfl) (by simp) ?_
          refine AllReadyH.cons rfl (fun K hK => ?_) ( AllReadyH.cons rfl (fun K hK => ?_) AllReadyH.nil)
          · go_simp
            have ow1 := OwnI.empty wc.heap.size (wc.drew) (g := wc.heap.size) (by simp) hS0.size
            have hS1 := hS0.alloc hS0.size (.cells #[] 24)
            refine hK.out _ _ hS1 (fun HG1 => ?_)
            clear hK
            try simp only [List.getElem_toArray, List.getElem_cons_succ, List.getElem_cons_zero, Act.put, List.setIfInBounds_toArray, List.set_cons_zero, List.set_cons_succ]
            refine wpAnyH_ready (rs := [4, 6]) (by kernel_rfl) (by simp) ?_
            refine AllReadyH.cons rfl (fun K hK => ?_) ( AllReadyH.cons rfl (fun K hK => ?_) AllReadyH.nil)
            · refine step_appG rfl _ _ rfl wc.heap.size _ _ rfl ow1 _ _ rfl (HSL1.out _ hS1) ?_ hS1.size ?_
              · have := HL1.out; have := HL2.out; simp only [List.length_append, List.length_cons, List.length_nil]; omega
              intro v2 W2 ow2 hb2 hg2 hv2
              have hS2 := hS1.trans hb2
              refine hK.out _ _ hS2 (fun HG2 => ?_)
              clear hK
              try simp only [List.getElem_toArray, List.getElem_cons_succ, List.getElem_cons_zero, Act.put, List.setIfInBounds_toArray, List.set_cons_zero, List.set_cons_succ]
              refine wpAnyH_ready (rs := [6]) (by kernel_rfl) (by simp) ?_
              refine AllReadyH.cons rfl (fun K hK => ?_) AllReadyH.nil
              go_simp
              have rd3 := RdI.one (W2) (g := W2.heap.size) (by simp) t r
              have hS3 := hS2.alloc hS2.size (.cells #[.int .u64 (t : Int), .int .i64 r] 24)
              have ow3 := World.ownsRow.alloc ow2 (.cells #[.int .u64 (t : Int), .int .i64 r] 24)
              refine hK.out _ _ hS3 (fun HG3 => ?_)
              clear hK
              try simp only [List.getElem_toArray, List.getElem_cons_succ, List.getElem_cons_zero, Act.put, List.setIfInBounds_toArray, List.set_cons_zero, List.set_cons_succ]
              refine wpAnyH_ready (rs := [7]) (by kernel_rfl) (by simp) ?_
              refine AllReadyH.cons rfl (fun K hK => ?_) AllReadyH.nil
              refine step_appG rfl _ _ rfl wc.heap.size _ _ rfl ow3 _ _ rfl rd3 ?_ hS3.size ?_
              · have := HL1.out; have := HL2.out; simp only [List.length_append, List.length_cons, List.length_nil]; omega
              intro v4 W4 ow4 hb4 hg4 hv4
              have hS4 := hS3.trans hb4
              refine hK.out _ _ hS4 (fun HG4 => ?_)
              clear hK
              try simp only [List.getElem_toArray, List.getElem_cons_succ, List.getElem_cons_zero, Act.put, List.setIfInBounds_toArray, List.set_cons_zero, List.set_cons_succ]
              refine wpAnyH_ready (rs := [11]) (by kernel_rfl) (by simp) ?_
              refine AllReadyH.cons rfl (fun K hK => ?_) AllReadyH.nil
              refine step_appG rfl _ _ rfl wc.heap.size _ _ rfl ow4 _ _ rfl (HSL2.out _ hS4) ?_ hS4.size ?_
              · have := HL1.out; have := HL2.out; simp only [List.length_append, List.length_cons, List.length_nil]; omega
              intro v5 W5 ow5 hb5 hg5 hv5
              have hS5 := hS4.trans hb5
              refine hK.out _ _ hS5 (fun HG5 => ?_)
              clear hK
              try simp only [List.getElem_toArray, List.getElem_cons_succ, List.getElem_cons_zero, Act.put, List.setIfInBounds_toArray, List.set_cons_zero, List.set_cons_succ]
              refine wpAnyH_take (i := 12) (v := ?_) rfl (by kernel_rfl) (by kernel_rfl) (by kernel_rfl) (fun _ _ _ h => h) (Or.inl ⟨by rfl, ?_⟩) HG5 ?_
              rotate_left
              · intro w hSw; go_simp; try with_reducible rfl
              simp only [List.getElem_toArray, List.getElem_cons_succ, List.getElem_cons_zero, Act.put, List.setIfInBounds_toArray, List.set_cons_zero, List.set_cons_succ]
              refine wpAnyH_done (by kernel_rfl) ?_ _
              refine NoPanic.normal ?_
              go_wp2
              go_ret
              refine ⟨_, rfl, ?_, HBEL.out.trans (hS5.mono HBEL.out.size)⟩
              have hfin := OwnI.rd ow5
              rw [HINS.out]; rw [List.append_assoc] at hfin; exact hfin
            · go_simp
              have rd2 := RdI.one ((wc.drew).alloc (.cells #[] 24)) (g := wc.heap.size + 1) (by simp) t r
              have hS2 := hS1.alloc hS1.size (.cells #[.int .u64 (t : Int), .int .i64 r] 24)
              have ow2 := World.ownsRow.alloc ow1 (.cells #[.int .u64 (t : Int), .int .i64 r] 24)
              refine hK.out _ _ hS2 (fun HG2 => ?_)
              clear hK
              try simp only [List.getElem_toArray, List.getElem_cons_succ, List.getElem_cons_zero, Act.put, List.setIfInBounds_toArray, List.set_cons_zero, List.set_cons_succ]
              refine wpAnyH_ready (rs := [4]) (by kernel_rfl) (by simp) ?_
              refine AllReadyH.cons rfl (fun K hK => ?_) AllReadyH.nil
              refine step_appG rfl _ _ rfl wc.heap.size _ _ rfl ow2 _ _ rfl (HSL1.out _ hS2) ?_ hS2.size ?_
              · have := HL1.out; have := HL2.out; simp only [List.length_append, List.length_cons, List.length_nil]; omega
              intro v3 W3 ow3 hb3 hg3 hv3
              have hS3 := hS2.trans hb3
              have rd3 := rd2.grown hg3 (fun k0 h6 h0 => absurd (Option.some.inj (show some (wc.heap.size + 1) = some (wc.heap.size) from h6.trans h0.symm)) (by omega))
              refine hK.out _ _ hS3 (fun HG3 => ?_)
              clear hK
              try simp only [List.getElem_toArray, List.getElem_cons_succ, List.getElem_cons_zero, Act.put, List.setIfInBounds_toArray, List.set_cons_zero, List.set_cons_succ]
              refine wpAnyH_ready (rs := [7]) (by kernel_rfl) (by simp) ?_
              refine AllReadyH.cons rfl (fun K hK => ?_) AllReadyH.nil
              refine step_appG rfl _ _ rfl wc.heap.size _ _ rfl ow3 _ _ rfl rd3 ?_ hS3.size ?_
              · have := HL1.out; have := HL2.out; simp only [List.length_append, List.length_cons, List.length_nil]; omega
              intro v4 W4 ow4 hb4 hg4 hv4
              have hS4 := hS3.trans hb4
              refine hK.out _ _ hS4 (fun HG4 => ?_)
              clear hK
              try simp only [List.getElem_toArray, List.getElem_cons_succ, List.getElem_cons_zero, Act.put, List.setIfInBounds_toArray, List.set_cons_zero, List.set_cons_succ]
              refine wpAnyH_ready (rs := [11]) (by kernel_rfl) (by simp) ?_
              refine AllReadyH.cons rfl (fun K hK => ?_) AllReadyH.nil
              refine step_appG rfl _ _ rfl wc.heap.size _ _ rfl ow4 _ _ rfl (HSL2.out _ hS4) ?_ hS4.size ?_
              · have := HL1.out; have := HL2.out; simp only [List.length_append, List.length_cons, List.length_nil]; omega
              intro v5 W5 ow5 hb5 hg5 hv5
              have hS5 := hS4.trans hb5
              refine hK.out _ _ hS5 (fun HG5 => ?_)
              clear hK
              try simp only [List.getElem_toArray, List.getElem_cons_succ, List.getElem_cons_zero, Act.put, List.setIfInBounds_toArray, List.set_cons_zero, List.set_cons_succ]
              refine wpAnyH_take (i := 12) (v := ?_) rfl (by kernel_rfl) (by kernel_rfl) (by kernel_rfl) (fun _ _ _ h => h) (Or.inl ⟨by rfl, ?_⟩) HG5 ?_
              rotate_left
              · intro w hSw; go_simp; try with_reducible rfl
              simp only [List.getElem_toArray, List.getElem_cons_succ, List.getElem_cons_zero, Act.put, List.setIfInBounds_toArray, List.set_cons_zero, List.set_cons_succ]
              refine wpAnyH_done (by kernel_rfl) ?_ _
              refine NoPanic.normal ?_
              go_wp2
              go_ret
              refine ⟨_, rfl, ?_, HBEL.out.trans (hS5.mono HBEL.out.size)⟩
              have hfin := OwnI.rd ow5
              rw [HINS.out]; rw [List.append_assoc] at hfin; exact hfin
          · go_simp
            have rd1 := RdI.one (wc.drew) (g := wc.heap.size) (by simp) t r
            have hS1 := hS0.alloc hS0.size (.cells #[.int .u64 (t : Int), .int .i64 r] 24)
            refine hK.out _ _ hS1 (fun HG1 => ?_)
            clear hK
            try simp only [List.getElem_toArray, List.getElem_cons_succ, List.getElem_cons_zero, Act.put, List.setIfInBounds_toArray, List.set_cons_zero, List.set_cons_succ]
            refine wpAnyH_ready (rs := [0]) (by kernel_rfl) (by simp) ?_
            refine AllReadyH.cons rfl (fun K hK => ?_) AllReadyH.nil
            go_simp
            have ow2 := OwnI.empty wc.heap.size ((wc.drew).alloc (.cells #[.int .u64 (t : Int), .int .i64 r] 24)) (g := wc.heap.size + 1) (by simp) hS1.size
            have hS2 := hS1.alloc hS1.size (.cells #[] 24)
            have rd2 := rd1.below (below_alloc ((wc.drew).alloc (.cells #[.int .u64 (t : Int), .int .i64 r] 24)) (.cells #[] 24))
            refine hK.out _ _ hS2 (fun HG2 => ?_)
            clear hK
            try simp only [List.getElem_toArray, List.getElem_cons_succ, List.getElem_cons_zero, Act.put, List.setIfInBounds_toArray, List.set_cons_zero, List.set_cons_succ]
            refine wpAnyH_ready (rs := [4]) (by kernel_rfl) (by simp) ?_
            refine AllReadyH.cons rfl (fun K hK => ?_) AllReadyH.nil
            refine step_appG rfl _ _ rfl wc.heap.size _ _ rfl ow2 _ _ rfl (HSL1.out _ hS2) ?_ hS2.size ?_
            · have := HL1.out; have := HL2.out; simp only [List.length_append, List.length_cons, List.length_nil]; omega
            intro v3 W3 ow3 hb3 hg3 hv3
            have hS3 := hS2.trans hb3
            have rd3 := rd2.grown hg3 (fun k0 h6 h0 => absurd (Option.some.inj (show some (wc.heap.size) = some (wc.heap.size + 1) from h6.trans h0.symm)) (by omega))
            refine hK.out _ _ hS3 (fun HG3 => ?_)
            clear hK
            try simp only [List.getElem_toArray, List.getElem_cons_succ, List.getElem_cons_zero, Act.put, List.setIfInBounds_toArray, List.set_cons_zero, List.set_cons_succ]
            refine wpAnyH_ready (rs := [7]) (by kernel_rfl) (by simp) ?_
            refine AllReadyH.cons rfl (fun K hK => ?_) AllReadyH.nil
            refine step_appG rfl _ _ rfl wc.heap.size _ _ rfl ow3 _ _ rfl rd3 ?_ hS3.size ?_
            · have := HL1.out; have := HL2.out; simp only [List.length_append, List.length_cons, List.length_nil]; omega
            intro v4 W4 ow4 hb4 hg4 hv4
            have hS4 := hS3.trans hb4
            refine hK.out _ _ hS4 (fun HG4 => ?_)
            clear hK
            try simp only [List.getElem_toArray, List.getElem_cons_succ, List.getElem_cons_zero, Act.put, List.setIfInBounds_toArray, List.set_cons_zero, List.set_cons_succ]
            refine wpAnyH_ready (rs := [11]) (by kernel_rfl) (by simp) ?_
            refine AllReadyH.cons rfl (fun K hK => ?_) AllReadyH.nil
            refine step_appG rfl _ _ rfl wc.heap.size _ _ rfl ow4 _ _ rfl (HSL2.out _ hS4) ?_ hS4.size ?_
            · have := HL1.out; have := HL2.out; simp only [List.length_append, List.length_cons, List.length_nil]; omega
            intro v5 W5 ow5 hb5 hg5 hv5
            have hS5 := hS4.trans hb5
            refine hK.out _ _ hS5 (fun HG5 => ?_)
            clear hK
            try simp only [List.getElem_toArray, List.getElem_cons_succ, List.getElem_cons_zero, Act.put, List.setIfInBounds_toArray, List.set_cons_zero, List.set_cons_succ]
            refine wpAnyH_take (i := 12) (v := ?_) rfl (by kernel_rfl) (by kernel_rfl) (by kernel_rfl) (fun _ _ _ h => h) (Or.inl ⟨by rfl, ?_⟩) HG5 ?_
            rotate_left
            · intro w hSw; go_simp; try with_reducible rfl
            simp only [List.getElem_toArray, List.getElem_cons_succ, List.getElem_cons_zero, Act.put, List.setIfInBounds_toArray, List.set_cons_zero, List.set_cons_succ]
            refine wpAnyH_done (by kernel_rfl) ?_ _
            refine NoPanic.normal ?_
            go_wp2
            go_ret
            refine ⟨_, rfl, ?_, HBEL.out.trans (hS5.mono HBEL.out.size)⟩
            have hfin := OwnI.rd ow5
            rw [HINS.out]; rw [List.append_assoc] at hfin; exact hfin
    · have hkn' : n ≤ k := by omega
      obtain rfl : k = n := by omega
      have hpos : posI l (t, r) = k := posI_of (by rw [← HN.out]; exact hk) HJ.out (fun y hy => by
        have := (List.getElem?_eq_some_iff.1 hy).1
        have := HN.out
        omega)
      have hins : insI l (t, r) = l.take k ++ (t, r) :: l.drop k := by
        unfold insI
        rw [hpos, if_neg]
        rw [List.getElem?_eq_none (by rw [← HN.out]; exact Nat.le_refl _)]
        intro e; cases e
      have HINS := Lib.hid hins
      clear hins hpos hkn hkn'
      go_wp2
      refine wp_region_noPanic ?_
      refine wp_region_held_drew (S := fun w' => Below wr.heap.size wr w') (by kernel_rfl) hb0 (fun HH => ?_)
      refine wpAnyH_take (i := 0) (v := ?_) rfl (by kernel_rfl) (by kernel_rfl) (by kernel_rfl) (fun _ _ _ h => h) (Or.inl ⟨by rfl, ?_⟩) HH ?_
      rotate_left
      · intro w hSw; go_simp; try with_reducible rfl
      simp only [List.getElem_toArray, List.getElem_cons_succ, List.getElem_cons_zero, Act.put, List.setIfInBounds_toArray, List.set_cons_zero, List.set_cons_succ]
      refine wpAnyH_take (i := 1) (v := ?_) rfl (by kernel_rfl) (by kernel_rfl) (by kernel_rfl) (fun _ _ _ h => h) (Or.inl ⟨by rfl, ?_⟩) HH ?_
      rotate_left
      · intro w hSw; go_simp; try with_reducible rfl
      simp only [List.getElem_toArray, List.getElem_cons_succ, List.getElem_cons_zero, Act.put, List.setIfInBounds_toArray, List.set_cons_zero, List.set_cons_succ]
      refine wpAnyH_take (i := 2) (v := ?_) rfl (by kernel_rfl) (by kernel_rfl) (by kernel_rfl) (fun _ _ _ h => h) (Or.inl ⟨by rfl, ?_⟩) HH ?_
      rotate_left
      · intro w hSw; go_simp; try with_reducible rfl
      simp only [List.getElem_toArray, List.getElem_cons_succ, List.getElem_cons_zero, Act.put, List.setIfInBounds_toArray, List.set_cons_zero, List.set_cons_succ]
      refine wpAnyH_take (i := 3) (v := ?_) rfl (by kernel_rfl) (by kernel_rfl) (by kernel_rfl) (fun _ _ _ h => h) (Or.inl ⟨by rfl, ?_⟩) HH ?_
      rotate_left
      · intro w hSw; go_simp; try with_reducible rfl
      simp only [List.getElem_toArray, List.getElem_cons_succ, List.getElem_cons_zero, Act.put, List.setIfInBounds_toArray, List.set_cons_zero, List.set_cons_succ]
      refine wpAnyH_take (i := 4) (v := ?_) rfl (by kernel_rfl) (by kernel_rfl) (by kernel_rfl) (fun _ _ _ h => h) (Or.inl ⟨by rfl, ?_⟩) HH ?_
      rotate_left
      · intro w hSw; go_simp; try with_reducible rfl
      simp only [List.getElem_toArray, List.getElem_cons_succ, List.getElem_cons_zero, Act.put, List.setIfInBounds_toArray, List.set_cons_zero, List.set_cons_succ]
      refine wpAnyH_take (i := 5) (v := undef) rfl (by kernel_rfl) (by kernel_rfl) (by kernel_rfl) (fun _ _ _ h => h) (Or.inr ⟨by rfl, rfl⟩) HH ?_
      simp only [List.getElem_toArray, List.getElem_cons_succ, List.getElem_cons_zero, Act.put, List.setIfInBounds_toArray, List.set_cons_zero, List.set_cons_succ]
      refine wpAnyH_take (i := 6) (v := undef) rfl (by kernel_rfl) (by kernel_rfl) (by kernel_rfl) (fun _ _ _ h => h) (Or.inr ⟨by rfl, rfl⟩) HH ?_
      simp only [List.getElem_toArray, List.getElem_cons_succ, List.getElem_cons_zero, Act.put, List.setIfInBounds_toArray, List.set_cons_zero, List.set_cons_succ]
      refine wpAnyH_take (i := 7) (v := undef) rfl (by kernel_rfl) (by kernel_rfl) (by kernel_rfl) (fun _ _ _ h => h) (Or.inr ⟨by rfl, rfl⟩) HH ?_
      simp only [List.getElem_toArray, List.getElem_cons_succ, List.getElem_cons_zero, Act.put, List.setIfInBounds_toArray, List.set_cons_zero, List.set_cons_succ]
      refine wpAnyH_take (i := 8) (v := undef) rfl (by kernel_rfl) (by kernel_rfl) (by kernel_rfl) (fun _ _ _ h => h) (Or.inr ⟨by rfl, rfl⟩) HH ?_
      simp only [List.getElem_toArray, List.getElem_cons_succ, List.getElem_cons_zero, Act.put, List.setIfInBounds_toArray, List.set_cons_zero, List.set_cons_succ]
      refine wpAnyH_take (i := 9) (v := undef) rfl (by kernel_rfl) (by kernel_rfl) (by kernel_rfl) (fun _ _ _ h => h) (Or.inr ⟨by rfl, rfl⟩) HH ?_
      simp only [List.getElem_toArray, List.getElem_cons_succ, List.getElem_cons_zero, Act.put, List.setIfInBounds_toArray, List.set_cons_zero, List.set_cons_succ]
      refine wpAnyH_take (i := 10) (v := undef) rfl (by kernel_rfl) (by kernel_rfl) (by kernel_rfl) (fun _ _ _ h => h) (Or.inr ⟨by rfl, rfl⟩) HH ?_
      simp only [List.getElem_toArray, List.getElem_cons_succ, List.getElem_cons_zero, Act.put, List.setIfInBounds_toArray, List.set_cons_zero, List.set_cons_succ]
      refine wpAnyH_take (i := 11) (v := ?_) rfl (by kernel_rfl) (by kernel_rfl) (by kernel_rfl) (fun _ _ _ h => h) (Or.inl ⟨by rfl, ?_⟩) HH ?_
      rotate_left
      · intro w hSw; go_simp; try with_reducible rfl
      simp only [List.getElem_toArray, List.getElem_cons_succ, List.getElem_cons_zero, Act.put, List.setIfInBounds_toArray, List.set_cons_zero, List.set_cons_succ]
      refine wpAnyH_done (by kernel_rfl) ?_ _
      refine NoPanic.normal ?_
      go_wp2
      have hb5 : Below wr.heap.size wr wr.drew.drew := hb0.drew
      refine wp_region_noPanic ?_
      refine wp_region_held_drew (S := fun w' => Below wr.heap.size wr w') (by kernel_rfl) hb5 (fun HH2 => ?_)
      refine wpAnyH_take (i := 0) (v := ?_) rfl (by kernel_rfl) (by kernel_rfl) (by kernel_rfl) (fun _ _ _ h => h) (Or.inl ⟨by rfl, ?_⟩) HH2 ?_
      rotate_left
      · intro w hSw; go_simp; try with_reducible rfl
      simp only [List.getElem_toArray, List.getElem_cons_succ, List.getElem_cons_zero, Act.put, List.setIfInBounds_toArray, List.set_cons_zero, List.set_cons_succ]
      refine wpAnyH_take (i := 1) (v := ?_) rfl (by kernel_rfl) (by kernel_rfl) (by kernel_rfl) (fun _ _ _ h => h) (Or.inl ⟨by rfl, ?_⟩) HH2 ?_
      rotate_left
      · intro w hSw; go_simp; try with_reducible rfl
      simp only [List.getElem_toArray, List.getElem_cons_succ, List.getElem_cons_zero, Act.put, List.setIfInBounds_toArray, List.set_cons_zero, List.set_cons_succ]
      refine wpAnyH_take (i := 2) (v := ?_) rfl (by kernel_rfl) (by kernel_rfl) (by kernel_rfl) (fun _ _ _ h => h) (Or.inl ⟨by rfl, ?_⟩) HH2 ?_
      rotate_left
      · intro w hSw; go_simp; try with_reducible rfl
      simp only [List.getElem_toArray, List.getElem_cons_succ, List.getElem_cons_zero, Act.put, List.setIfInBounds_toArray, List.set_cons_zero, List.set_cons_succ]
      refine wpAnyH_take (i := 3) (v := ?_) rfl (by kernel_rfl) (by kernel_rfl) (by kernel_rfl) (fun _ _ _ h => h) (Or.inl ⟨by rfl, ?_⟩) HH2 ?_
      rotate_left
      · intro w hSw; go_simp; try with_reducible rfl
      simp only [List.getElem_toArray, List.getElem_cons_succ, List.getElem_cons_zero, Act.put, List.setIfInBounds_toArray, List.set_cons_zero, List.set_cons_succ]
      refine wpAnyH_take (i := 4) (v := ?_) rfl (by kernel_rfl) (by kernel_rfl) (by kernel_rfl) (fun _ _ _ h => h) (Or.inl ⟨by rfl, ?_⟩) HH2 ?_
      rotate_left
      · intro w hSw; go_simp; try with_reducible rfl
      simp only [List.getElem_toArray, List.getElem_cons_succ, List.getElem_cons_zero, Act.put, List.setIfInBounds_toArray, List.set_cons_zero, List.set_cons_succ]
      refine wpAnyH_take (i := 5) (v := undef) rfl (by kernel_rfl) (by kernel_rfl) (by kernel_rfl) (fun _ _ _ h => h) (Or.inr ⟨by rfl, rfl⟩) HH2 ?_
      simp only [List.getElem_toArray, List.getElem_cons_succ, List.getElem_cons_zero, Act.put, List.setIfInBounds_toArray, List.set_cons_zero, List.set_cons_succ]
      refine wpAnyH_take (i := 6) (v := undef) rfl (by kernel_rfl) (by kernel_rfl) (by kernel_rfl) (fun _ _ _ h => h) (Or.inr ⟨by rfl, rfl⟩) HH2 ?_
      simp only [List.getElem_toArray, List.getElem_cons_succ, List.getElem_cons_zero, Act.put, List.setIfInBounds_toArray, List.set_cons_zero, List.set_cons_succ]
      refine wpAnyH_take (i := 7) (v := undef) rfl (by kernel_rfl) (by kernel_rfl) (by kernel_rfl) (fun _ _ _ h => h) (Or.inr ⟨by rfl, rfl⟩) HH2 ?_
      simp only [List.getElem_toArray, List.getElem_cons_succ, List.getElem_cons_zero, Act.put, List.setIfInBounds_toArray, List.set_cons_zero, List.set_cons_succ]
      refine wpAnyH_take (i := 8) (v := undef) rfl (by kernel_rfl) (by kernel_rfl) (by kernel_rfl) (fun _ _ _ h => h) (Or.inr ⟨by rfl, rfl⟩) HH2 ?_
      simp only [List.getElem_toArray, List.getElem_cons_succ, List.getElem_cons_zero, Act.put, List.setIfInBounds_toArray, List.set_cons_zero, List.set_cons_succ]
      refine wpAnyH_take (i := 9) (v := undef) rfl (by kernel_rfl) (by kernel_rfl) (by kernel_rfl) (fun _ _ _ h => h) (Or.inr ⟨by rfl, rfl⟩) HH2 ?_
      simp only [List.getElem_toArray, List.getElem_cons_succ, List.getElem_cons_zero, Act.put, List.setIfInBounds_toArray, List.set_cons_zero, List.set_cons_succ]
      refine wpAnyH_take (i := 10) (v := undef) rfl (by kernel_rfl) (by kernel_rfl) (by kernel_rfl) (fun _ _ _ h => h) (Or.inr ⟨by rfl, rfl⟩) HH2 ?_
      simp only [List.getElem_toArray, List.getElem_cons_succ, List.getElem_cons_zero, Act.put, List.setIfInBounds_toArray, List.set_cons_zero, List.set_cons_succ]
      refine wpAnyH_take (i := 11) (v := ?_) rfl (by kernel_rfl) (by kernel_rfl) (by kernel_rfl) (fun _ _ _ h => h) (Or.inl ⟨by rfl, ?_⟩) HH2 ?_
      rotate_left
      · intro w hSw; go_simp; try with_reducible rfl
      simp only [List.getElem_toArray, List.getElem_cons_succ, List.getElem_cons_zero, Act.put, List.setIfInBounds_toArray, List.set_cons_zero, List.set_cons_succ]
      refine wpAnyH_done (by kernel_rfl) ?_ _
      refine NoPanic.normal ?_
      go_wp2
      have HBXc := Lib.hid (box_keep HBX.out hb5)
      have HBELc := Lib.hid (hbel.trans (hb5.mono hbel.size))
      obtain ⟨wc, hwc⟩ : ∃ wc, wc = wr.drew.drew := ⟨_, rfl⟩
      rw [← hwc]
      have HBX1 : Hid (wc.cell? ⟨w.heap.size, 0, none⟩ = some (.int .u64 (t : Int)) ∧ wc.cell? ⟨w.heap.size, 1, none⟩ = some (.int .i64 r)) := by rw [hwc]; exact HBXc.out
      have HBEL : Hid (Below w.heap.size w wc) := by rw [hwc]; exact HBELc.out
      clear hwc
      obtain ⟨AV, pV, cV, hsv⟩ : ∃ AA p cc, sliceVI A k c k = .slice AA p cc := ⟨_, _, _, rfl⟩
      obtain ⟨AH, pH, cH, hsh⟩ : ∃ AA p cc, sliceHI A c k = .slice AA p cc := ⟨_, _, _, rfl⟩
      have hqv := fun W => sliceVI_run A k c k hk W
      have hqh := fun W => sliceHI_run A k c k (Nat.le_trans hk HR.out.cap_le) W
      have hrv := HR.out.cutV k hk
      have hrh := HR.out.takeH k hk
      rw [hsv] at hqv hrv
      rw [hsh] at hqh hrh
      have hl1 : (l.take k).length ≤ 100000 := by rw [List.length_take]; have := HN.out; omega
      have hl2 : (l.drop k).length ≤ 100000 := by rw [List.length_drop]; have := HN.out; omega
      have HL1 := Lib.hid hl1
      have HL2 := Lib.hid hl2
      have hsl1 : ∀ W, Below wc.heap.size wc W → RdI W (.slice AH pH cH) (l.take k) := fun W hW => hrh.below (HBEL.out.trans (hW.mono HBEL.out.size))
      have hsl2 : ∀ W, Below wc.heap.size wc W → RdI W (.slice AV pV cV) (l.drop k) := fun W hW => hrv.below (HBEL.out.trans (hW.mono HBEL.out.size))
      have HSL1 := Lib.hid hsl1
      have HSL2 := Lib.hid hsl2
      clear hsv hsh hrv hrh hl1 hl2 hsl1 hsl2
      have hS0 : Below wc.heap.size wc wc.drew := (Below.refl _ wc).drew
      refine wp_region_noPanic ?_
      refine wp_region_held_drew (S := fun w' => Below wc.heap.size wc w') (by kernel_rfl) hS0 (fun HG0 => ?_)
      refine wpAnyH_take (i := 1) (v := ?_) rfl (by kernel_rfl) (by kernel_rfl) (by kernel_rfl) (fun _ _ _ h => h) (Or.inl ⟨by rfl, ?_⟩) HG0 ?_
      rotate_left
      · intro w hSw; go_simp; try with_reducible rfl
      simp only [List.getElem_toArray, List.getElem_cons_succ, List.getElem_cons_zero, Act.put, List.setIfInBounds_toArray, List.set_cons_zero, List.set_cons_succ]
      refine wpAnyH_take (i := 2) (v := ?_) rfl (by kernel_rfl) (by kernel_rfl) (by kernel_rfl) (fun _ _ _ h => h) (Or.inl ⟨by rfl, ?_⟩) HG0 ?_
      rotate_left
      · intro w hSw; go_simp; try with_reducible rfl
      simp only [List.getElem_toArray, List.getElem_cons_succ, List.getElem_cons_zero, Act.put, List.setIfInBounds_toArray, List.set_cons_zero, List.set_cons_succ]
      refine wpAnyH_take (i := 3) (v := ?_) rfl (by kernel_rfl) (by kernel_rfl) (by kernel_rfl) (fun _ _ _ h => h) (Or.inl ⟨by rfl, ?_⟩) HG0 ?_
      rotate_left
      · intro w hSw; go_simp; try with_reducible rfl
      simp only [List.getElem_toArray, List.getElem_cons_succ, List.getElem_cons_zero, Act.put, List.setIfInBounds_toArray, List.set_cons_zero, List.set_cons_succ]
      refine wpAnyH_take (i := 5) (v := ?_) rfl (by kernel_rfl) (by kernel_rfl) (by kernel_rfl) (fun _ _ _ h => h) (Or.inl ⟨by rfl, ?_⟩) HG0 ?_
      rotate_left
      · intro w hSw; obtain ⟨q0, q1⟩ := box_keep HBX1.out hSw; go_simp; try with_reducible rfl
      simp only [List.getElem_toArray, List.getElem_cons_succ, List.getElem_cons_zero, Act.put, List.setIfInBounds_toArray, List.set_cons_zero, List.set_cons_succ]
      refine wpAnyH_take (i := 8) (v := ?_) rfl (by kernel_rfl) (by kernel_rfl) (by kernel_rfl) (fun _ _ _ h => h) (Or.inl ⟨by rfl, ?_⟩) HG0 ?_
      rotate_left
      · intro w hSw; go_simp; try with_reducible rfl
      simp only [List.getElem_toArray, List.getElem_cons_succ, List.getElem_cons_zero, Act.put, List.setIfInBounds_toArray, List.set_cons_zero, List.set_cons_succ]
      refine wpAnyH_take (i := 9) (v := ?_) rfl (by kernel_rfl) (by kernel_rfl) (by kernel_rfl) (fun _ _ _ h => h) (Or.inl ⟨by rfl, ?_⟩) HG0 ?_
      rotate_left
      · intro w hSw; go_simp; try with_reducible rfl
      simp only [List.getElem_toArray, List.getElem_cons_succ, List.getElem_cons_zero, Act.put, List.setIfInBounds_toArray, List.set_cons_zero, List.set_cons_succ]
      refine wpAnyH_take (i := 10) (v := ?_) rfl (by kernel_rfl) (by kernel_rfl) (by kernel_rfl) (fun _ _ _ h => h) (Or.inl ⟨by rfl, ?_⟩) HG0 ?_
      rotate_left
      · intro w hSw; go_simp; try with_reducible rfl
      simp only [List.getElem_toArray, List.getElem_cons_succ, List.getElem_cons_zero, Act.put, List.setIfInBounds_toArray, List.set_cons_zero, List.set_cons_succ]
      refine wpAnyH_ready (rs := [0, 6]) (by kernel_rfl) (by simp) ?_
      refine AllReadyH.cons rfl (fun K hK => ?_) ( AllReadyH.cons rfl (fun K hK => ?_) AllReadyH.nil)
      · go_simp
        have ow1 := OwnI.empty wc.heap.size (wc.drew) (g := wc.heap.size) (by simp) hS0.size
        have hS1 := hS0.alloc hS0.size (.cells #[] 24)
        refine hK.out _ _ hS1 (fun HG1 => ?_)
        clear hK
        try simp only [List.getElem_toArray, List.getElem_cons_succ, List.getElem_cons_zero, Act.put, List.setIfInBounds_toArray, List.set_cons_zero, List.set_cons_succ]
        refine wpAnyH_ready (rs := [4, 6]) (by kernel_rfl) (by simp) ?_
        refine AllReadyH.cons rfl (fun K hK => ?_) ( AllReadyH.cons rfl (fun K hK => ?_) AllReadyH.nil)
        · refine step_appG rfl _ _ rfl wc.heap.size _ _ rfl ow1 _ _ rfl (HSL1.out _ hS1) ?_ hS1.size ?_
          · have := HL1.out; have := HL2.out; simp only [List.length_append, List.length_cons, List.length_nil]; omega
          intro v2 W2 ow2 hb2 hg2 hv2
          have hS2 := hS1.trans hb2
          refine hK.out _ _ hS2 (fun HG2 => ?_)
          clear hK
          try simp only [List.getElem_toArray, List.getElem_cons_succ, List.getElem_cons_zero, Act.put, List.setIfInBounds_toArray, List.set_cons_zero, List.set_cons_succ]
          refine wpAnyH_ready (rs := [6]) (by kernel_rfl) (by simp) ?_
          refine AllReadyH.cons rfl (fun K hK => ?_) AllReadyH.nil
          go_simp
          have rd3 := RdI.one (W2) (g := W2.heap.size) (by simp) t r
          have hS3 := hS2.alloc hS2.size (.cells #[.int .u64 (t : Int), .int .i64 r] 24)
          have ow3 := World.ownsRow.alloc ow2 (.cells #[.int .u64 (t : Int), .int .i64 r] 24)
          refine hK.out _ _ hS3 (fun HG3 => ?_)
          clear hK
          try simp only [List.getElem_toArray, List.getElem_cons_succ, List.getElem_cons_zero, Act.put, List.setIfInBounds_toArray, List.set_cons_zero, List.set_cons_succ]
          refine wpAnyH_ready (rs := [7]) (by kernel_rfl) (by simp) ?_
          refine AllReadyH.cons rfl (fun K hK => ?_) AllReadyH.nil
          refine step_appG rfl _ _ rfl wc.heap.size _ _ rfl ow3 _ _ rfl rd3 ?_ hS3.size ?_
          · have := HL1.out; have := HL2.out; simp only [List.length_append, List.length_cons, List.length_nil]; omega
          intro v4 W4 ow4 hb4 hg4 hv4
          have hS4 := hS3.trans hb4
          refine hK.out _ _ hS4 (fun HG4 => ?_)
          clear hK
          try simp only [List.getElem_toArray, List.getElem_cons_succ, List.getElem_cons_zero, Act.put, List.setIfInBounds_toArray, List.set_cons_zero, List.set_cons_succ]
          refine wpAnyH_ready (rs := [11]) (by kernel_rfl) (by simp) ?_
          refine AllReadyH.cons rfl (fun K hK => ?_) AllReadyH.nil
          refine step_appG rfl _ _ rfl wc.heap.size _ _ rfl ow4 _ _ rfl (HSL2.out _ hS4) ?_ hS4.size ?_
          · have := HL1.out; have := HL2.out; simp only [List.length_append, List.length_cons, List.length_nil]; omega
          intro v5 W5 ow5 hb5 hg5 hv5
          have hS5 := hS4.trans hb5
          refine hK.out _ _ hS5 (fun HG5 => ?_)
          clear hK
          try simp only [List.getElem_toArray, List.getElem_cons_succ, List.getElem_cons_zero, Act.put, List.setIfInBounds_toArray, List.set_cons_zero, List.set_cons_succ]
          refine wpAnyH_take (i := 12) (v := ?_) rfl (by kernel_rfl) (by kernel_rfl) (by kernel_rfl) (fun _ _ _ h => h) (Or.inl ⟨by rfl, ?_⟩) HG5 ?_
          rotate_left
          · intro w hSw; go_simp; try with_reducible rfl
          simp only [List.getElem_toArray, List.getElem_cons_succ, List.getElem_cons_zero, Act.put, List.setIfInBounds_toArray, List.set_cons_zero, List.set_cons_succ]
          refine wpAnyH_done (by kernel_rfl) ?_ _
          refine NoPanic.normal ?_
          go_wp2
          go_ret
          refine ⟨_, rfl, ?_, HBEL.out.trans (hS5.mono HBEL.out.size)⟩
          have hfin := OwnI.rd ow5
          rw [HINS.out]; rw [List.append_assoc] at hfin; exact hfin
        · go_simp
          have rd2 := RdI.one ((wc.drew).alloc (.cells #[] 24)) (g := wc.heap.size + 1) (by simp) t r
          have hS2 := hS1.alloc hS1.size (.cells #[.int .u64 (t : Int), .int .i64 r] 24)
          have ow2 := World.ownsRow.alloc ow1 (.cells #[.int .u64 (t : Int), .int .i64 r] 24)
          refine hK.out _ _ hS2 (fun HG2 => ?_)
          clear hK
          try simp only [List.getElem_toArray, List.getElem_cons_succ, List.getElem_cons_zero, Act.put, List.setIfInBounds_toArray, List.set_cons_zero, List.set_cons_succ]
          refine wpAnyH_ready (rs := [4]) (by kernel_rfl) (by simp) ?_
          refine AllReadyH.cons rfl (fun K hK => ?_) AllReadyH.nil
          refine step_appG rfl _ _ rfl wc.heap.size _ _ rfl ow2 _ _ rfl (HSL1.out _ hS2) ?_ hS2.size ?_
          · have := HL1.out; have := HL2.out; simp only [List.length_append, List.length_cons, List.length_nil]; omega
          intro v3 W3 ow3 hb3 hg3 hv3
          have hS3 := hS2.trans hb3
          have rd3 := rd2.grown hg3 (fun k0 h6 h0 => absurd (Option.some.inj (show some (wc.heap.size + 1) = some (wc.heap.size) from h6.trans h0.symm)) (by omega))
          refine hK.out _ _ hS3 (fun HG3 => ?_)
          clear hK
          try simp only [List.getElem_toArray, List.getElem_cons_succ, List.getElem_cons_zero, Act.put, List.setIfInBounds_toArray, List.set_cons_zero, List.set_cons_succ]
          refine wpAnyH_ready (rs := [7]) (by kernel_rfl) (by simp) ?_
          refine AllReadyH.cons rfl (fun K hK => ?_) AllReadyH.nil
          refine step_appG rfl _ _ rfl wc.heap.size _ _ rfl ow3 _ _ rfl rd3 ?_ hS3.size ?_
          · have := HL1.out; have := HL2.out; simp only [List.length_append, List.length_cons, List.length_nil]; omega
          intro v4 W4 ow4 hb4 hg4 hv4
          have hS4 := hS3.trans hb4
          refine hK.out _ _ hS4 (fun HG4 => ?_)
          clear hK
          try simp only [List.getElem_toArray, List.getElem_cons_succ, List.getElem_cons_zero, Act.put, List.setIfInBounds_toArray, List.set_cons_zero, List.set_cons_succ]
          refine wpAnyH_ready (rs := [11]) (by kernel_rfl) (by simp) ?_
          refine AllReadyH.cons rfl (fun K hK => ?_) AllReadyH.nil
          refine step_appG rfl _ _ rfl wc.heap.size _ _ rfl ow4 _ _ rfl (HSL2.out _ hS4) ?_ hS4.size ?_
          · have := HL1.out; have := HL2.out; simp only [List.length_append, List.length_cons, List.length_nil]; omega
          intro v5 W5 ow5 hb5 hg5 hv5
          have hS5 := hS4.trans hb5
          refine hK.out _ _ hS5 (fun HG5 => ?_)
          clear hK
          try simp only [List.getElem_toArray, List.getElem_cons_succ, List.getElem_cons_zero, Act.put, List.setIfInBounds_toArray, List.set_cons_zero, List.set_cons_succ]
          refine wpAnyH_take (i := 12) (v := ?_) rfl (by kernel_rfl) (by kernel_rfl) (by kernel_rfl) (fun _ _ _ h => h) (Or.inl ⟨by rfl, ?_⟩) HG5 ?_
          rotate_left
          · intro w hSw; go_simp; try with_reducible rfl
          simp only [List.getElem_toArray, List.getElem_cons_succ, List.getElem_cons_zero, Act.put, List.setIfInBounds_toArray, List.set_cons_zero, List.set_cons_succ]
          refine wpAnyH_done (by kernel_rfl) ?_ _
          refine NoPanic.normal ?_
          go_wp2
          go_ret
          refine ⟨_, rfl, ?_, HBEL.out.trans (hS5.mono HBEL.out.size)⟩
          have hfin := OwnI.rd ow5
          rw [HINS.out]; rw [List.append_assoc] at hfin; exact hfin
      · go_simp
        have rd1 := RdI.one (wc.drew) (g := wc.heap.size) (by simp) t r
        have hS1 := hS0.alloc hS0.size (.cells #[.int .u64 (t : Int), .int .i64 r] 24)
        refine hK.out _ _ hS1 (fun HG1 => ?_)
        clear hK
        try simp only [List.getElem_toArray, List.getElem_cons_succ, List.getElem_cons_zero, Act.put, List.setIfInBounds_toArray, List.set_cons_zero, List.set_cons_succ]
        refine wpAnyH_ready (rs := [0]) (by kernel_rfl) (by simp) ?_
        refine AllReadyH.cons rfl (fun K hK => ?_) AllReadyH.nil
        go_simp
        have ow2 := OwnI.empty wc.heap.size ((wc.drew).alloc (.cells #[.int .u64 (t : Int), .int .i64 r] 24)) (g := wc.heap.size + 1) (by simp) hS1.size
        have hS2 := hS1.alloc hS1.size (.cells #[] 24)
        have rd2 := rd1.below (below_alloc ((wc.drew).alloc (.cells #[.int .u64 (t : Int), .int .i64 r] 24)) (.cells #[] 24))
        refine hK.out _ _ hS2 (fun HG2 => ?_)
        clear hK
        try simp only [List.getElem_toArray, List.getElem_cons_succ, List.getElem_cons_zero, Act.put, List.setIfInBounds_toArray, List.set_cons_zero, List.set_cons_succ]
        refine wpAnyH_ready (rs := [4]) (by kernel_rfl) (by simp) ?_
        refine AllReadyH.cons rfl (fun K hK => ?_) AllReadyH.nil
        refine step_appG rfl _ _ rfl wc.heap.size _ _ rfl ow2 _ _ rfl (HSL1.out _ hS2) ?_ hS2.size ?_
        · have := HL1.out; have := HL2.out; simp only [List.length_append, List.length_cons, List.length_nil]; omega
        intro v3 W3 ow3 hb3 hg3 hv3
        have hS3 := hS2.trans hb3
        have rd3 := rd2.grown hg3 (fun k0 h6 h0 => absurd (Option.some.inj (show some (wc.heap.size) = some (wc.heap.size + 1) from h6.trans h0.symm)) (by omega))
        refine hK.out _ _ hS3 (fun HG3 => ?_)
        clear hK
        try simp only [List.getElem_toArray, List.getElem_cons_succ, List.getElem_cons_zero, Act.put, List.setIfInBounds_toArray, List.set_cons_zero, List.set_cons_succ]
        refine wpAnyH_ready (rs := [7]) (by kernel_rfl) (by simp) ?_
        refine AllReadyH.cons rfl (fun K hK => ?_) AllReadyH.nil
        refine step_appG rfl _ _ rfl wc.heap.size _ _ rfl ow3 _ _ rfl rd3 ?_ hS3.size ?_
        · have := HL1.out; have := HL2.out; simp only [List.length_append, List.length_cons, List.length_nil]; omega
        intro v4 W4 ow4 hb4 hg4 hv4
        have hS4 := hS3.trans hb4
        refine hK.out _ _ hS4 (fun HG4 => ?_)
        clear hK
        try simp only [List.getElem_toArray, List.getElem_cons_succ, List.getElem_cons_zero, Act.put, List.setIfInBounds_toArray, List.set_cons_zero, List.set_cons_succ]
        refine wpAnyH_ready (rs := [11]) (by kernel_rfl) (by simp) ?_
        refine AllReadyH.cons rfl (fun K hK => ?_) AllReadyH.nil
        refine step_appG rfl _ _ rfl wc.heap.size _ _ rfl ow4 _ _ rfl (HSL2.out _ hS4) ?_ hS4.size ?_
        · have := HL1.out; have := HL2.out; simp only [List.length_append, List.length_cons, List.length_nil]; omega
        intro v5 W5 ow5 hb5 hg5 hv5
        have hS5 := hS4.trans hb5
        refine hK.out _ _ hS5 (fun HG5 => ?_)
        clear hK
        try simp only [List.getElem_toArray, List.getElem_cons_succ, List.getElem_cons_zero, Act.put, List.setIfInBounds_toArray, List.set_cons_zero, List.set_cons_succ]
        refine wpAnyH_take (i := 12) (v := ?_) rfl (by kernel_rfl) (by kernel_rfl) (by kernel_rfl) (fun _ _ _ h => h) (Or.inl ⟨by rfl, ?_⟩) HG5 ?_
        rotate_left
        · intro w hSw; go_simp; try with_reducible rfl
        simp only [List.getElem_toArray, List.getElem_cons_succ, List.getElem_cons_zero, Act.put, List.setIfInBounds_toArray, List.set_cons_zero, List.set_cons_succ]
        refine wpAnyH_done (by kernel_rfl) ?_ _
        refine NoPanic.normal ?_
        go_wp2
        go_ret
        refine ⟨_, rfl, ?_, HBEL.out.trans (hS5.mono HBEL.out.size)⟩
        have hfin := OwnI.rd ow5
        rw [HINS.out]; rw [List.append_assoc] at hfin; exact hfin
end Go.Proofs.YtfgopiopeidfmaaDoor
