/-
The reference's Seal and Open, by contracts.
-/
import Derived.Test.YtjlplmobeiolkaaDoorHOpen
import Derived.Deep.RegionHeld3
import Derived.Deep.RegionWith
namespace Go.Proofs.YtjlplmobeiolkaaDoor
open Go.RowKit
open Crc (st stN by8 run sumN tab nib tailN sealN)

set_option maxRecDepth 20000 in
set_option maxHeartbeats 1000000 in
theorem rseal_any (v : Value) (xs : List Nat) (w : World) (h : Rd w v xs) (hl : xs.length ≤ 10000) (hx : ∀ x ∈ xs, x < 256) :
    Calls Tryd.prog 11 #[v] w fun e w' => ∃ v', e = .returned v' ∧ Rd w' v' (sealN xs) ∧ Below w.heap.size w w' := by
  obtain ⟨A, n, c, rfl, hn⟩ := h.named
  have hs : sumN xs < 4294967296 := Crc.sumN_lt hx
  have h1 := ref_any _ xs w h (by omega) hx
  have hse : sealN xs = xs ++ tailN (sumN xs) := rfl
  have HE := Lib.hid hse; clear hse
  generalize sumN xs = s at hs h1 HE
  have HR := Lib.hid h; clear h
  have HC := Lib.hid h1; clear h1
  have HL := Lib.hid hl; clear hl
  have htl : (tailN s).length = 4 := rfl
  have HT := Lib.hid htl
  clear hx hn htl
  go_enter Tryd.func11, Tryd.ntmps11
  go_wp2_with (first
    | (go_at_call 7; (with_reducible refine (HC.out).mono ?_); rintro e w1 ⟨rfl, rfl⟩)
    | (at_builtin; (refine wp_appR rfl _ _ rfl w.heap.size _ xs rfl (hown1.below (below_alloc _ _)) _ (tailN s) rfl (rd_row _ _ rfl (by decide) (heap_new rfl) (tail_cells s hs)) (by rw [HT.out]; have := HL.out; omega) (by rw [World.size_alloc]; omega) ?_; intro v2 w2 hown2 hbel2 hsz2))
    | (at_builtin; refine wp_appR rfl _ _ rfl w.heap.size _ [] rfl (World.ownsRow_made w #[] 0 (Nat.le_refl _) (Nat.zero_le _) rfl) _ xs rfl (HR.out.below (below_alloc _ _)) (by have := HL.out; simp; omega) (below_alloc w _).size ?_; intro v1 w1 hown1 hbel1 hsz0; have hsz1 : w.heap.size < w1.heap.size := (by rw [World.size_alloc] at hsz0; omega); rw [List.nil_append] at hown1; clear hsz0))
  go_ret
  exact ⟨v2, rfl, by rw [HE.out]; exact hown2.rd, (((below_alloc w _).trans hbel1).alloc (Nat.le_of_lt hsz1) _).trans hbel2⟩

set_option maxRecDepth 20000 in
set_option maxHeartbeats 1000000 in
theorem ropen_short (v : Value) (A : Option Addr) (n c : Nat) (hv : v = .slice A n c) (hn : n < 4) (w : World) :
    Calls Tryd.prog 10 #[.slice A n c] w fun e w' => e = .returned (.tuple #[.slice none 0 0, .bool false]) ∧ Below w.heap.size w w' := by
  have hd : decide ((n : Int) < 4) = true := by simp; omega
  go_enter Tryd.func10, Tryd.ntmps10
  go_wp2
  go_quiet (fail)
  go_wp2
  go_ret2
  exact ⟨rfl, rfl, rfl, rfl, Nat.le_refl _, fun _ _ => rfl⟩

set_option maxRecDepth 20000 in
set_option maxHeartbeats 1000000 in
theorem ropen_long (b off n k cap : Nat) (hk : n = k + 4) (hcap : n ≤ cap) (hm : cap ≤ maxLen) (w : World) (xs : List Nat) (h : Rd w (.slice (some ⟨b, off, none⟩) n cap) xs) (hl : n ≤ 10000) (hx : ∀ x ∈ xs, x < 256) (hn : n = xs.length) :
    Calls Tryd.prog 10 #[.slice (some ⟨b, off, none⟩) n cap] w fun e w' => ∃ v', e = .returned (.tuple #[v', .bool (openL xs).isSome]) ∧ Rd w' v' ((openL xs).getD []) ∧ Below w.heap.size w w' := by
  have hr1 := h.take (by omega) k (by omega)
  have hx1 : ∀ x ∈ xs.take k, x < 256 := fun x hx' => hx x (List.mem_of_mem_take hx')
  have ho : openL xs = if sealN (xs.take k) = xs then some (xs.take k) else none := by
    unfold openL
    rw [if_neg (by omega), show xs.length - 4 = k from by omega]
    have e : xs.drop k = tailN (sumN (xs.take k)) ↔ sealN (xs.take k) = xs := by
      unfold sealN
      constructor
      · intro h; rw [← h]; exact List.take_append_drop k xs
      · intro h
        have h2 : (xs.take k ++ tailN (sumN (xs.take k))).drop k = xs.drop k := by rw [h]
        rw [← h2, List.drop_append_of_le_length (by simp; omega), List.drop_of_length_le (by simp; omega)]; rfl
    by_cases hd : sealN (xs.take k) = xs
    · rw [if_pos hd, if_pos (e.2 hd)]
    · rw [if_neg hd, if_neg (fun h => hd (e.1 h))]
  have hcv := fun w2 hb => conv_rd (h.below (w' := w2) hb)
  have hse : ∀ w2, Below w.heap.size w w2 → Calls Tryd.prog 11 #[.slice (some ⟨b, off, none⟩) k cap] w2 fun e w' => ∃ v', e = .returned v' ∧ Rd w' v' (sealN (xs.take k)) ∧ Below w.heap.size w w' := fun w2 hb =>
    (rseal_any _ (xs.take k) w2 (hr1.below hb) (by simp; omega) hx1).mono fun e w' ⟨v', he, hr, hb'⟩ => ⟨v', he, hr, hb.trans (hb'.mono hb.size)⟩
  have hwr : IntKind.i64.wrap ((k : Int) + 4 - 4) = k := by rw [IntWalk.i64_in _ (by omega)]; omega
  have hdn : decide ((k : Int) + 4 < 4) = false := by simp; omega
  have HO := Lib.hid ho
  have HV := Lib.hid hcv
  have HE := Lib.hid hse
  have HR := Lib.hid hr1
  have hcm : cap ≤ 9223372036854775807 := by unfold maxLen at hm; omega
  have HX := Lib.hid hx
  have HX1 := Lib.hid hx1
  clear ho hcv hse hr1 hx hx1 h hm hn
  subst hk
  by_cases he : sealN (xs.take k) = xs
  · have ho2 := HO.out.trans (if_pos he)
    have HO2 := Lib.hid ho2
    have hse2 := HE.out
    rw [he] at hse2
    have HE2 := Lib.hid hse2
    have hb0 : Below w.heap.size w w.drew := (Below.refl _ w).drew
    have hv0 := HV.out _ hb0
    clear he ho2 HO HE hse2
    go_enter Tryd.func10, Tryd.ntmps10
    go_wp2
    have i1 : (0 : Int) ≤ (k : Int) := by omega
    have i2 : (k : Int) ≤ (cap : Int) := by omega
    have hw2 : IntKind.i64.wrap (k : Int) = (k : Int) := IntWalk.i64_in _ (by omega)
    have hc0 : (cap = 0) = False := by simp; omega
    refine wp_region_noPanic ?_
    refine wp_region_held_drew (S := fun w' => Below w.heap.size w w') (by kernel_rfl) hb0 (fun HH => ?_)
    refine wpAnyH_take (i := 0) (v := ?_) rfl (by kernel_rfl) (by kernel_rfl) (by kernel_rfl) (fun _ _ _ h => h) (Or.inl ⟨by rfl, ?_⟩) HH ?_
    rotate_left
    · intro w hSw; go_simp; try with_reducible rfl
    simp only [List.getElem_toArray, List.getElem_cons_succ, List.getElem_cons_zero, Act.put, List.setIfInBounds_toArray, List.set_cons_zero, List.set_cons_succ]
    refine wpAnyH_take (i := 1) (v := ?_) rfl (by kernel_rfl) (by kernel_rfl) (by kernel_rfl) (fun _ _ _ h => h) (Or.inl ⟨by rfl, ?_⟩) HH ?_
    rotate_left
    · intro w hSw; go_simp; try with_reducible rfl
    simp only [List.getElem_toArray, List.getElem_cons_succ, List.getElem_cons_zero, Act.put, List.setIfInBounds_toArray, List.set_cons_zero, List.set_cons_succ]
    refine wpAnyH_take (i := 2) (v := ?_) rfl (by kernel_rfl) (by kernel_rfl) (by kernel_rfl) (fun _ _ _ h => h) (Or.inl ⟨by rfl, ?_⟩) HH ?_
    rotate_left
    · intro w hSw; go_simp; try with_reducible rfl
    simp only [List.getElem_toArray, List.getElem_cons_succ, List.getElem_cons_zero, Act.put, List.setIfInBounds_toArray, List.set_cons_zero, List.set_cons_succ]
    refine wpAnyH_take (i := 3) (v := ?_) rfl (by kernel_rfl) (by kernel_rfl) (by kernel_rfl) (fun _ _ _ h => h) (Or.inl ⟨by rfl, ?_⟩) HH ?_
    rotate_left
    · intro w hSw; go_simp; try with_reducible rfl
    simp only [List.getElem_toArray, List.getElem_cons_succ, List.getElem_cons_zero, Act.put, List.setIfInBounds_toArray, List.set_cons_zero, List.set_cons_succ]
    refine wpAnyH_take (i := 4) (v := ?_) rfl (by kernel_rfl) (by kernel_rfl) (by kernel_rfl) (fun _ _ _ h => h) (Or.inl ⟨by rfl, ?_⟩) HH ?_
    rotate_left
    · intro w hSw; go_simp; try with_reducible rfl
    simp only [List.getElem_toArray, List.getElem_cons_succ, List.getElem_cons_zero, Act.put, List.setIfInBounds_toArray, List.set_cons_zero, List.set_cons_succ]
    refine wpAnyH_take (i := 5) (v := ?_) rfl (by kernel_rfl) (by kernel_rfl) (by kernel_rfl) (fun _ _ _ h => h) (Or.inl ⟨by rfl, ?_⟩) HH ?_
    rotate_left
    · intro w hSw; go_simp; try with_reducible rfl
    simp only [List.getElem_toArray, List.getElem_cons_succ, List.getElem_cons_zero, Act.put, List.setIfInBounds_toArray, List.set_cons_zero, List.set_cons_succ]
    refine wpAnyH_take (i := 6) (v := ?_) rfl (by kernel_rfl) (by kernel_rfl) (by kernel_rfl) (fun _ _ _ h => h) (Or.inl ⟨by rfl, ?_⟩) HH ?_
    rotate_left
    · intro w hSw; go_simp; try with_reducible rfl
    simp only [List.getElem_toArray, List.getElem_cons_succ, List.getElem_cons_zero, Act.put, List.setIfInBounds_toArray, List.set_cons_zero, List.set_cons_succ]
    refine wpAnyH_take (i := 7) (v := ?_) rfl (by kernel_rfl) (by kernel_rfl) (by kernel_rfl) (fun _ _ _ h => h) (Or.inl ⟨by rfl, ?_⟩) HH ?_
    rotate_left
    · intro w hSw; go_simp; try with_reducible rfl
    simp only [List.getElem_toArray, List.getElem_cons_succ, List.getElem_cons_zero, Act.put, List.setIfInBounds_toArray, List.set_cons_zero, List.set_cons_succ]
    refine wpAnyH_take (i := 8) (v := ?_) rfl (by kernel_rfl) (by kernel_rfl) (by kernel_rfl) (fun _ _ _ h => h) (Or.inl ⟨by rfl, ?_⟩) HH ?_
    rotate_left
    · intro w hSw; go_simp; try with_reducible rfl
    simp only [List.getElem_toArray, List.getElem_cons_succ, List.getElem_cons_zero, Act.put, List.setIfInBounds_toArray, List.set_cons_zero, List.set_cons_succ]
    refine wpAnyH_take (i := 11) (v := ?_) rfl (by kernel_rfl) (by kernel_rfl) (by kernel_rfl) (fun _ _ _ h => h) (Or.inl ⟨by rfl, ?_⟩) HH ?_
    rotate_left
    · intro w hSw; go_simp; try with_reducible rfl
    simp only [List.getElem_toArray, List.getElem_cons_succ, List.getElem_cons_zero, Act.put, List.setIfInBounds_toArray, List.set_cons_zero, List.set_cons_succ]
    refine wpAnyH_take (i := 12) (v := ?_) rfl (by kernel_rfl) (by kernel_rfl) (by kernel_rfl) (fun _ _ _ h => h) (Or.inl ⟨by rfl, ?_⟩) HH ?_
    rotate_left
    · intro w hSw; have hcv := HV.out w hSw; go_simp; try with_reducible rfl
    simp only [List.getElem_toArray, List.getElem_cons_succ, List.getElem_cons_zero, Act.put, List.setIfInBounds_toArray, List.set_cons_zero, List.set_cons_succ]
    refine wpAnyH_ready (rs := [9]) (by kernel_rfl) (by simp) ?_
    refine AllReadyH.cons rfl (fun K hK => ?_) AllReadyH.nil
    go_simp
    go_at_call 11
    refine (HE2.out _ hb0).mono ?_
    rintro e W ⟨v1, rfl, hr1, hbW⟩
    have hcW := conv_rd hr1
    go_simp
    refine hK.out _ _ hbW (fun HG1 => ?_)
    clear hK
    try simp only [List.getElem_toArray, List.getElem_cons_succ, List.getElem_cons_zero, Act.put, List.setIfInBounds_toArray, List.set_cons_zero, List.set_cons_succ]
    refine wpAnyH_ready (rs := [10]) (by kernel_rfl) (by simp) ?_
    refine AllReadyH.cons rfl (fun K hK => ?_) AllReadyH.nil
    go_simp
    refine hK.out _ _ hbW (fun HG2 => ?_)
    clear hK
    try simp only [List.getElem_toArray, List.getElem_cons_succ, List.getElem_cons_zero, Act.put, List.setIfInBounds_toArray, List.set_cons_zero, List.set_cons_succ]
    refine wpAnyH_take (i := 13) (v := ?_) rfl (by kernel_rfl) (by kernel_rfl) (by kernel_rfl) (fun _ _ _ h => h) (Or.inl ⟨by rfl, ?_⟩) HG2 ?_
    rotate_left
    · intro w hSw; go_simp; try with_reducible rfl
    simp only [List.getElem_toArray, List.getElem_cons_succ, List.getElem_cons_zero, Act.put, List.setIfInBounds_toArray, List.set_cons_zero, List.set_cons_succ]
    refine wpAnyH_take (i := 14) (v := ?_) rfl (by kernel_rfl) (by kernel_rfl) (by kernel_rfl) (fun _ _ _ h => h) (Or.inl ⟨by rfl, ?_⟩) HG2 ?_
    rotate_left
    · intro w hSw; go_simp; try with_reducible rfl
    simp only [List.getElem_toArray, List.getElem_cons_succ, List.getElem_cons_zero, Act.put, List.setIfInBounds_toArray, List.set_cons_zero, List.set_cons_succ]
    refine wpAnyH_done (by kernel_rfl) ?_ _
    refine NoPanic.normal ?_
    go_wp2
    go_ret2
    exact ⟨.slice (some ⟨b, off, none⟩) k cap, by rw [HO2.out]; rfl, by rw [HO2.out]; exact HR.out.below hbW, hbW⟩
  · have ho2 := HO.out.trans (if_neg he)
    have HO2 := Lib.hid ho2
    have hb0 : Below w.heap.size w w.drew := (Below.refl _ w).drew
    have hne := strN_ne (fun h => he (strN_inj (Crc.sealN_lt HX1.out) HX.out h))
    have HNE := Lib.hid hne
    clear he ho2 HO hne
    go_enter Tryd.func10, Tryd.ntmps10
    go_wp2
    have i1 : (0 : Int) ≤ (k : Int) := by omega
    have i2 : (k : Int) ≤ (cap : Int) := by omega
    have hw2 : IntKind.i64.wrap (k : Int) = (k : Int) := IntWalk.i64_in _ (by omega)
    have hc0 : (cap = 0) = False := by simp; omega
    refine wp_region_noPanic ?_
    refine wp_region_held_drew (S := fun w' => Below w.heap.size w w') (by kernel_rfl) hb0 (fun HH => ?_)
    refine wpAnyH_take (i := 0) (v := ?_) rfl (by kernel_rfl) (by kernel_rfl) (by kernel_rfl) (fun _ _ _ h => h) (Or.inl ⟨by rfl, ?_⟩) HH ?_
    rotate_left
    · intro w hSw; go_simp; try with_reducible rfl
    simp only [List.getElem_toArray, List.getElem_cons_succ, List.getElem_cons_zero, Act.put, List.setIfInBounds_toArray, List.set_cons_zero, List.set_cons_succ]
    refine wpAnyH_take (i := 1) (v := ?_) rfl (by kernel_rfl) (by kernel_rfl) (by kernel_rfl) (fun _ _ _ h => h) (Or.inl ⟨by rfl, ?_⟩) HH ?_
    rotate_left
    · intro w hSw; go_simp; try with_reducible rfl
    simp only [List.getElem_toArray, List.getElem_cons_succ, List.getElem_cons_zero, Act.put, List.setIfInBounds_toArray, List.set_cons_zero, List.set_cons_succ]
    refine wpAnyH_take (i := 2) (v := ?_) rfl (by kernel_rfl) (by kernel_rfl) (by kernel_rfl) (fun _ _ _ h => h) (Or.inl ⟨by rfl, ?_⟩) HH ?_
    rotate_left
    · intro w hSw; go_simp; try with_reducible rfl
    simp only [List.getElem_toArray, List.getElem_cons_succ, List.getElem_cons_zero, Act.put, List.setIfInBounds_toArray, List.set_cons_zero, List.set_cons_succ]
    refine wpAnyH_take (i := 3) (v := ?_) rfl (by kernel_rfl) (by kernel_rfl) (by kernel_rfl) (fun _ _ _ h => h) (Or.inl ⟨by rfl, ?_⟩) HH ?_
    rotate_left
    · intro w hSw; go_simp; try with_reducible rfl
    simp only [List.getElem_toArray, List.getElem_cons_succ, List.getElem_cons_zero, Act.put, List.setIfInBounds_toArray, List.set_cons_zero, List.set_cons_succ]
    refine wpAnyH_take (i := 4) (v := ?_) rfl (by kernel_rfl) (by kernel_rfl) (by kernel_rfl) (fun _ _ _ h => h) (Or.inl ⟨by rfl, ?_⟩) HH ?_
    rotate_left
    · intro w hSw; go_simp; try with_reducible rfl
    simp only [List.getElem_toArray, List.getElem_cons_succ, List.getElem_cons_zero, Act.put, List.setIfInBounds_toArray, List.set_cons_zero, List.set_cons_succ]
    refine wpAnyH_take (i := 5) (v := ?_) rfl (by kernel_rfl) (by kernel_rfl) (by kernel_rfl) (fun _ _ _ h => h) (Or.inl ⟨by rfl, ?_⟩) HH ?_
    rotate_left
    · intro w hSw; go_simp; try with_reducible rfl
    simp only [List.getElem_toArray, List.getElem_cons_succ, List.getElem_cons_zero, Act.put, List.setIfInBounds_toArray, List.set_cons_zero, List.set_cons_succ]
    refine wpAnyH_take (i := 6) (v := ?_) rfl (by kernel_rfl) (by kernel_rfl) (by kernel_rfl) (fun _ _ _ h => h) (Or.inl ⟨by rfl, ?_⟩) HH ?_
    rotate_left
    · intro w hSw; go_simp; try with_reducible rfl
    simp only [List.getElem_toArray, List.getElem_cons_succ, List.getElem_cons_zero, Act.put, List.setIfInBounds_toArray, List.set_cons_zero, List.set_cons_succ]
    refine wpAnyH_take (i := 7) (v := ?_) rfl (by kernel_rfl) (by kernel_rfl) (by kernel_rfl) (fun _ _ _ h => h) (Or.inl ⟨by rfl, ?_⟩) HH ?_
    rotate_left
    · intro w hSw; go_simp; try with_reducible rfl
    simp only [List.getElem_toArray, List.getElem_cons_succ, List.getElem_cons_zero, Act.put, List.setIfInBounds_toArray, List.set_cons_zero, List.set_cons_succ]
    refine wpAnyH_take (i := 8) (v := ?_) rfl (by kernel_rfl) (by kernel_rfl) (by kernel_rfl) (fun _ _ _ h => h) (Or.inl ⟨by rfl, ?_⟩) HH ?_
    rotate_left
    · intro w hSw; go_simp; try with_reducible rfl
    simp only [List.getElem_toArray, List.getElem_cons_succ, List.getElem_cons_zero, Act.put, List.setIfInBounds_toArray, List.set_cons_zero, List.set_cons_succ]
    refine wpAnyH_take (i := 11) (v := ?_) rfl (by kernel_rfl) (by kernel_rfl) (by kernel_rfl) (fun _ _ _ h => h) (Or.inl ⟨by rfl, ?_⟩) HH ?_
    rotate_left
    · intro w hSw; go_simp; try with_reducible rfl
    simp only [List.getElem_toArray, List.getElem_cons_succ, List.getElem_cons_zero, Act.put, List.setIfInBounds_toArray, List.set_cons_zero, List.set_cons_succ]
    refine wpAnyH_take (i := 12) (v := ?_) rfl (by kernel_rfl) (by kernel_rfl) (by kernel_rfl) (fun _ _ _ h => h) (Or.inl ⟨by rfl, ?_⟩) HH ?_
    rotate_left
    · intro w hSw; have hcv := HV.out w hSw; go_simp; try with_reducible rfl
    simp only [List.getElem_toArray, List.getElem_cons_succ, List.getElem_cons_zero, Act.put, List.setIfInBounds_toArray, List.set_cons_zero, List.set_cons_succ]
    refine wpAnyH_ready (rs := [9]) (by kernel_rfl) (by simp) ?_
    refine AllReadyH.cons rfl (fun K hK => ?_) AllReadyH.nil
    go_simp
    go_at_call 11
    refine (HE.out _ hb0).mono ?_
    rintro e W ⟨v1, rfl, hr1, hbW⟩
    have hcW := conv_rd hr1
    go_simp
    refine hK.out _ _ hbW (fun HG1 => ?_)
    clear hK
    try simp only [List.getElem_toArray, List.getElem_cons_succ, List.getElem_cons_zero, Act.put, List.setIfInBounds_toArray, List.set_cons_zero, List.set_cons_succ]
    refine wpAnyH_ready (rs := [10]) (by kernel_rfl) (by simp) ?_
    refine AllReadyH.cons rfl (fun K hK => ?_) AllReadyH.nil
    go_simp
    refine hK.out _ _ hbW (fun HG2 => ?_)
    clear hK
    try simp only [List.getElem_toArray, List.getElem_cons_succ, List.getElem_cons_zero, Act.put, List.setIfInBounds_toArray, List.set_cons_zero, List.set_cons_succ]
    refine wpAnyH_take (i := 13) (v := ?_) rfl (by kernel_rfl) (by kernel_rfl) (by kernel_rfl) (fun _ _ _ h => h) (Or.inl ⟨by rfl, ?_⟩) HG2 ?_
    rotate_left
    · intro w hSw; have hne := HNE.out; go_simp; try with_reducible rfl
    simp only [List.getElem_toArray, List.getElem_cons_succ, List.getElem_cons_zero, Act.put, List.setIfInBounds_toArray, List.set_cons_zero, List.set_cons_succ]
    refine wpAnyH_take (i := 14) (v := ?_) rfl (by kernel_rfl) (by kernel_rfl) (by kernel_rfl) (fun _ _ _ h => h) (Or.inl ⟨by rfl, ?_⟩) HG2 ?_
    rotate_left
    · intro w hSw; go_simp; try with_reducible rfl
    simp only [List.getElem_toArray, List.getElem_cons_succ, List.getElem_cons_zero, Act.put, List.setIfInBounds_toArray, List.set_cons_zero, List.set_cons_succ]
    refine wpAnyH_done (by kernel_rfl) ?_ _
    refine NoPanic.normal ?_
    go_wp2
    go_ret2
    exact ⟨.slice none 0 0, by rw [HO2.out]; rfl, by rw [HO2.out]; exact .inl ⟨none, 0, rfl, rfl, fun _ => rfl⟩, hbW⟩

/-- ref.Open. -/
theorem ropen_any (v : Value) (xs : List Nat) (w : World) (h : Rd w v xs) (hl : xs.length ≤ 10000) (hx : ∀ x ∈ xs, x < 256) :
    Calls Tryd.prog 10 #[v] w fun e w' => ∃ v', e = .returned (.tuple #[v', .bool (openL xs).isSome]) ∧ Rd w' v' ((openL xs).getD []) ∧ Below w.heap.size w w' := by
  obtain ⟨A, n, c, rfl, hn⟩ := h.named
  by_cases h4 : n < 4
  · have ho : openL xs = none := by unfold openL; rw [if_pos (by omega)]
    rw [ho]
    exact (ropen_short _ A n c rfl h4 w).mono fun e w' ⟨he, hw⟩ => ⟨_, he, .inl ⟨none, 0, rfl, rfl, fun _ => rfl⟩, hw⟩
  · obtain ⟨b, off, rfl, hcap, hm⟩ := h.addr (by omega)
    exact ropen_long b off n (n - 4) c (by omega) hcap hm w xs h (by omega) hx hn
end Go.Proofs.YtjlplmobeiolkaaDoor
