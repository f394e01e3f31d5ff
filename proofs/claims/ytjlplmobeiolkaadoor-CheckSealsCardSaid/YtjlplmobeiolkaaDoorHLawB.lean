/-
The law CheckSeals.
-/
import Derived.Test.YtjlplmobeiolkaaDoorHRefO
namespace Go.Proofs.YtjlplmobeiolkaaDoor
open Go.RowKit
open Crc (st stN by8 run sumN tab nib tailN sealN)

theorem openL_seal (xs : List Nat) : openL (sealN xs) = some xs := by
  have hl : (sealN xs).length = xs.length + 4 := Crc.sealN_length xs
  have e1 : (sealN xs).take ((sealN xs).length - 4) = xs := by
    rw [hl, Nat.add_sub_cancel]; exact List.take_left
  have e2 : (sealN xs).drop ((sealN xs).length - 4) = tailN (sumN xs) := by
    rw [hl, Nat.add_sub_cancel]; exact List.drop_left
  unfold openL
  rw [if_neg (by omega), e1, e2, if_pos rfl]

set_option maxRecDepth 20000 in
theorem seals_long (A : Option Addr) (n c : Nat) (hn : 1000 < n) (hm : n ≤ maxLen) (w : World) (ht : Tab w) :
    Calls Tryd.prog 4 #[.slice A n c] w fun e w' => e = .returned (.bool true) ∧ Below w.heap.size w w' := by
  have HT := Lib.hid ht; clear ht
  clear hm
  go_enter Tryd.func4, Tryd.ntmps4
  go_wp2_with (go_at_call 5; (with_reducible refine (awake_any _ HT.out).mono ?_); rintro e w1 ⟨rfl, hb1⟩)
  go_ret
  exact ⟨rfl, hb1⟩

set_option maxRecDepth 20000 in
set_option maxHeartbeats 4000000 in
theorem seals_short (A : Option Addr) (n c : Nat) (hn : n ≤ 1000) (xs : List Nat) (w : World) (h : Rd w (.slice A n c) xs) (hnx : n = xs.length) (hx : ∀ x ∈ xs, x < 256) (ht : Tab w) :
    Calls Tryd.prog 4 #[.slice A n c] w fun e w' => e = .returned (.bool true) ∧ Below w.heap.size w w' := by
  have k1 := seal_any _ xs w h (by omega) hx ht
  have k2 := fun v w2 (hr : Rd w2 v (sealN xs)) (ht : Tab w2) => open_any v (sealN xs) w2 hr (by rw [Crc.sealN_length]; omega) (Crc.sealN_lt hx) ht
  rw [openL_seal] at k2
  have k3 := fun w2 (hb : Below w.heap.size w w2) => open_any _ xs w2 (h.below hb) (by omega) hx (ht.below hb)
  have k4 := fun w2 (hb : Below w.heap.size w w2) => ropen_any _ xs w2 (h.below hb) (by omega) hx
  have k5 := fun w2 (hb : Below w.heap.size w w2) => rseal_any _ xs w2 (h.below hb) (by omega) hx
  generalize (openL xs).isSome = q at k3 k4
  generalize (openL xs).getD [] = ys at k3 k4
  have K1 := Lib.hid k1
  have K2 := Lib.hid k2
  have K3 := Lib.hid k3
  have K4 := Lib.hid k4
  have K5 := Lib.hid k5
  have HR := Lib.hid h
  have HT := Lib.hid ht
  clear k1 k2 k3 k4 k5 h ht hx hnx
  go_enter Tryd.func4, Tryd.ntmps4
  go_wp2_with (first
    | (go_at_call 8; (with_reducible refine (K1.out).mono ?_); rintro e w1 ⟨v1, rfl, hr1, hb1⟩; have R1 := Lib.hid hr1; clear hr1)
    | (go_at_call 9; (with_reducible refine (K2.out _ _ R1.out (HT.out.below hb1)).mono ?_); rintro e w2 ⟨v2, rfl, hr2, hb2'⟩; have hb2 : Below w.heap.size w w2 := hb1.trans (hb2'.mono hb1.size); have R2 := Lib.hid hr2; have R12 := Lib.hid (R1.out.below hb2'); clear hr2 hb2')
    | (go_at_call 9; (with_reducible refine (K3.out _ hb2).mono ?_); rintro e w3 ⟨v3, rfl, hr3, hb3'⟩; have hb3 : Below w.heap.size w w3 := hb2.trans (hb3'.mono hb2.size); have R3 := Lib.hid hr3; have R13 := Lib.hid (R12.out.below hb3'); have R23 := Lib.hid (R2.out.below hb3'); clear hr3 hb3')
    | (go_at_call 10; (with_reducible refine (K4.out _ hb3).mono ?_); rintro e w4 ⟨v4, rfl, hr4, hb4'⟩; have hb4 : Below w.heap.size w w4 := hb3.trans (hb4'.mono hb3.size); have R4 := Lib.hid hr4; have R14 := Lib.hid (R13.out.below hb4'); have R24 := Lib.hid (R23.out.below hb4'); have R34 := Lib.hid (R3.out.below hb4'); clear hr4 hb4'))
  have hb0 : Below w4.heap.size w4 w4.drew := (Below.refl _ w4).drew
  have V0 := Lib.hid (fun w' (hw : Below w4.heap.size w4 w') => conv_rd ((HR.out.below hb4).below hw))
  have V1 := Lib.hid (fun w' (hw : Below w4.heap.size w4 w') => conv_rd (R14.out.below hw))
  have V2 := Lib.hid (fun w' (hw : Below w4.heap.size w4 w') => conv_rd (R24.out.below hw))
  have V3 := Lib.hid (fun w' (hw : Below w4.heap.size w4 w') => conv_rd (R34.out.below hw))
  have V4 := Lib.hid (fun w' (hw : Below w4.heap.size w4 w') => conv_rd (R4.out.below hw))
  have HS := Lib.hid (fun w2 (hw : Below w4.heap.size w4 w2) => (K5.out w2 (hb4.trans (hw.mono hb4.size))).mono fun e w' hh => (show ∃ v', e = .returned v' ∧ Rd w' v' (sealN xs) ∧ Below w4.heap.size w4 w' from by obtain ⟨v', he, hr, hb⟩ := hh; exact ⟨v', he, hr, hw.trans (hb.mono hw.size)⟩))
  have HT4 := Lib.hid (HT.out.below hb4)
  clear K1 K2 K3 K4 K5 HR HT R1 R2 R3 R4 R12 R13 R14 R23 R24 R34 hb1 hb2 hb3
  refine wp_region_noPanic ?_
  refine wp_region_held_drew (S := fun w' => Below w4.heap.size w4 w') (by kernel_rfl) hb0 (fun HH => ?_)
  refine wpAnyH_take (i := 0) (v := ?_) rfl (by kernel_rfl) (by kernel_rfl) (by kernel_rfl) (fun _ _ _ h => h) (Or.inl ⟨by rfl, ?_⟩) HH ?_
  rotate_left
  · intro w hSw; go_simp; try with_reducible rfl
  simp only [List.getElem_toArray, List.getElem_cons_succ, List.getElem_cons_zero, Act.put, List.setIfInBounds_toArray, List.set_cons_zero, List.set_cons_succ]
  refine wpAnyH_take (i := 1) (v := ?_) rfl (by kernel_rfl) (by kernel_rfl) (by kernel_rfl) (fun _ _ _ h => h) (Or.inl ⟨by rfl, ?_⟩) HH ?_
  rotate_left
  · intro w hSw; have hcv := V1.out w hSw; go_simp; try with_reducible rfl
  simp only [List.getElem_toArray, List.getElem_cons_succ, List.getElem_cons_zero, Act.put, List.setIfInBounds_toArray, List.set_cons_zero, List.set_cons_succ]
  refine wpAnyH_take (i := 2) (v := ?_) rfl (by kernel_rfl) (by kernel_rfl) (by kernel_rfl) (fun _ _ _ h => h) (Or.inl ⟨by rfl, ?_⟩) HH ?_
  rotate_left
  · intro w hSw; go_simp; try with_reducible rfl
  simp only [List.getElem_toArray, List.getElem_cons_succ, List.getElem_cons_zero, Act.put, List.setIfInBounds_toArray, List.set_cons_zero, List.set_cons_succ]
  refine wpAnyH_ready (rs := [3]) (by kernel_rfl) (by simp) ?_
  refine AllReadyH.cons rfl (fun K hK => ?_) AllReadyH.nil
  go_simp
  go_at_call 11
  refine (HS.out _ hb0).mono ?_
  rintro e W ⟨v5, rfl, hr5, hbW⟩
  have hcW := conv_rd hr5
  go_simp
  refine hK.out _ _ hbW (fun HG1 => ?_)
  clear hK
  try simp only [List.getElem_toArray, List.getElem_cons_succ, List.getElem_cons_zero, Act.put, List.setIfInBounds_toArray, List.set_cons_zero, List.set_cons_succ]
  refine wpAnyH_ready (rs := [4]) (by kernel_rfl) (by simp) ?_
  refine AllReadyH.cons rfl (fun K hK => ?_) AllReadyH.nil
  go_simp
  refine hK.out _ _ hbW (fun HG2 => ?_)
  clear hK
  try simp only [List.getElem_toArray, List.getElem_cons_succ, List.getElem_cons_zero, Act.put, List.setIfInBounds_toArray, List.set_cons_zero, List.set_cons_succ]
  refine wpAnyH_take (i := 5) (v := ?_) rfl (by kernel_rfl) (by kernel_rfl) (by kernel_rfl) (fun _ _ _ h => h) (Or.inl ⟨by rfl, ?_⟩) HG2 ?_
  rotate_left
  · intro w hSw; go_simp; try with_reducible rfl
  simp only [List.getElem_toArray, List.getElem_cons_succ, List.getElem_cons_zero, Act.put, List.setIfInBounds_toArray, List.set_cons_zero, List.set_cons_succ]
  refine wpAnyH_take (i := 6) (v := ?_) rfl (by kernel_rfl) (by kernel_rfl) (by kernel_rfl) (fun _ _ _ h => h) (Or.inl ⟨by rfl, ?_⟩) HG2 ?_
  rotate_left
  · intro w hSw; go_simp; try with_reducible rfl
  simp only [List.getElem_toArray, List.getElem_cons_succ, List.getElem_cons_zero, Act.put, List.setIfInBounds_toArray, List.set_cons_zero, List.set_cons_succ]
  refine wpAnyH_take (i := 7) (v := ?_) rfl (by kernel_rfl) (by kernel_rfl) (by kernel_rfl) (fun _ _ _ h => h) (Or.inl ⟨by rfl, ?_⟩) HG2 ?_
  rotate_left
  · intro w hSw; go_simp; try with_reducible rfl
  simp only [List.getElem_toArray, List.getElem_cons_succ, List.getElem_cons_zero, Act.put, List.setIfInBounds_toArray, List.set_cons_zero, List.set_cons_succ]
  refine wpAnyH_take (i := 8) (v := ?_) rfl (by kernel_rfl) (by kernel_rfl) (by kernel_rfl) (fun _ _ _ h => h) (Or.inl ⟨by rfl, ?_⟩) HG2 ?_
  rotate_left
  · intro w hSw; have hcv := V2.out w hSw; go_simp; try with_reducible rfl
  simp only [List.getElem_toArray, List.getElem_cons_succ, List.getElem_cons_zero, Act.put, List.setIfInBounds_toArray, List.set_cons_zero, List.set_cons_succ]
  refine wpAnyH_take (i := 9) (v := ?_) rfl (by kernel_rfl) (by kernel_rfl) (by kernel_rfl) (fun _ _ _ h => h) (Or.inl ⟨by rfl, ?_⟩) HG2 ?_
  rotate_left
  · intro w hSw; go_simp; try with_reducible rfl
  simp only [List.getElem_toArray, List.getElem_cons_succ, List.getElem_cons_zero, Act.put, List.setIfInBounds_toArray, List.set_cons_zero, List.set_cons_succ]
  refine wpAnyH_take (i := 10) (v := ?_) rfl (by kernel_rfl) (by kernel_rfl) (by kernel_rfl) (fun _ _ _ h => h) (Or.inl ⟨by rfl, ?_⟩) HG2 ?_
  rotate_left
  · intro w hSw; have hcv := V0.out w hSw; go_simp; try with_reducible rfl
  simp only [List.getElem_toArray, List.getElem_cons_succ, List.getElem_cons_zero, Act.put, List.setIfInBounds_toArray, List.set_cons_zero, List.set_cons_succ]
  refine wpAnyH_take (i := 11) (v := ?_) rfl (by kernel_rfl) (by kernel_rfl) (by kernel_rfl) (fun _ _ _ h => h) (Or.inl ⟨by rfl, ?_⟩) HG2 ?_
  rotate_left
  · intro w hSw; go_simp; try with_reducible rfl
  simp only [List.getElem_toArray, List.getElem_cons_succ, List.getElem_cons_zero, Act.put, List.setIfInBounds_toArray, List.set_cons_zero, List.set_cons_succ]
  refine wpAnyH_take (i := 12) (v := ?_) rfl (by kernel_rfl) (by kernel_rfl) (by kernel_rfl) (fun _ _ _ h => h) (Or.inl ⟨by rfl, ?_⟩) HG2 ?_
  rotate_left
  · intro w hSw; go_simp; try with_reducible rfl
  simp only [List.getElem_toArray, List.getElem_cons_succ, List.getElem_cons_zero, Act.put, List.setIfInBounds_toArray, List.set_cons_zero, List.set_cons_succ]
  refine wpAnyH_take (i := 13) (v := ?_) rfl (by kernel_rfl) (by kernel_rfl) (by kernel_rfl) (fun _ _ _ h => h) (Or.inl ⟨by rfl, ?_⟩) HG2 ?_
  rotate_left
  · intro w hSw; go_simp; try with_reducible rfl
  simp only [List.getElem_toArray, List.getElem_cons_succ, List.getElem_cons_zero, Act.put, List.setIfInBounds_toArray, List.set_cons_zero, List.set_cons_succ]
  refine wpAnyH_take (i := 14) (v := ?_) rfl (by kernel_rfl) (by kernel_rfl) (by kernel_rfl) (fun _ _ _ h => h) (Or.inl ⟨by rfl, ?_⟩) HG2 ?_
  rotate_left
  · intro w hSw; go_simp; try with_reducible rfl
  simp only [List.getElem_toArray, List.getElem_cons_succ, List.getElem_cons_zero, Act.put, List.setIfInBounds_toArray, List.set_cons_zero, List.set_cons_succ]
  refine wpAnyH_take (i := 15) (v := ?_) rfl (by kernel_rfl) (by kernel_rfl) (by kernel_rfl) (fun _ _ _ h => h) (Or.inl ⟨by rfl, ?_⟩) HG2 ?_
  rotate_left
  · intro w hSw; go_simp; try with_reducible rfl
  simp only [List.getElem_toArray, List.getElem_cons_succ, List.getElem_cons_zero, Act.put, List.setIfInBounds_toArray, List.set_cons_zero, List.set_cons_succ]
  refine wpAnyH_take (i := 16) (v := ?_) rfl (by kernel_rfl) (by kernel_rfl) (by kernel_rfl) (fun _ _ _ h => h) (Or.inl ⟨by rfl, ?_⟩) HG2 ?_
  rotate_left
  · intro w hSw; go_simp; try with_reducible rfl
  simp only [List.getElem_toArray, List.getElem_cons_succ, List.getElem_cons_zero, Act.put, List.setIfInBounds_toArray, List.set_cons_zero, List.set_cons_succ]
  refine wpAnyH_take (i := 17) (v := ?_) rfl (by kernel_rfl) (by kernel_rfl) (by kernel_rfl) (fun _ _ _ h => h) (Or.inl ⟨by rfl, ?_⟩) HG2 ?_
  rotate_left
  · intro w hSw; go_simp; try with_reducible rfl
  simp only [List.getElem_toArray, List.getElem_cons_succ, List.getElem_cons_zero, Act.put, List.setIfInBounds_toArray, List.set_cons_zero, List.set_cons_succ]
  refine wpAnyH_take (i := 18) (v := ?_) rfl (by kernel_rfl) (by kernel_rfl) (by kernel_rfl) (fun _ _ _ h => h) (Or.inl ⟨by rfl, ?_⟩) HG2 ?_
  rotate_left
  · intro w hSw; have hcv := V3.out w hSw; go_simp; try with_reducible rfl
  simp only [List.getElem_toArray, List.getElem_cons_succ, List.getElem_cons_zero, Act.put, List.setIfInBounds_toArray, List.set_cons_zero, List.set_cons_succ]
  refine wpAnyH_take (i := 19) (v := ?_) rfl (by kernel_rfl) (by kernel_rfl) (by kernel_rfl) (fun _ _ _ h => h) (Or.inl ⟨by rfl, ?_⟩) HG2 ?_
  rotate_left
  · intro w hSw; go_simp; try with_reducible rfl
  simp only [List.getElem_toArray, List.getElem_cons_succ, List.getElem_cons_zero, Act.put, List.setIfInBounds_toArray, List.set_cons_zero, List.set_cons_succ]
  refine wpAnyH_take (i := 20) (v := ?_) rfl (by kernel_rfl) (by kernel_rfl) (by kernel_rfl) (fun _ _ _ h => h) (Or.inl ⟨by rfl, ?_⟩) HG2 ?_
  rotate_left
  · intro w hSw; have hcv := V4.out w hSw; go_simp; try with_reducible rfl
  simp only [List.getElem_toArray, List.getElem_cons_succ, List.getElem_cons_zero, Act.put, List.setIfInBounds_toArray, List.set_cons_zero, List.set_cons_succ]
  refine wpAnyH_take (i := 21) (v := ?_) rfl (by kernel_rfl) (by kernel_rfl) (by kernel_rfl) (fun _ _ _ h => h) (Or.inl ⟨by rfl, ?_⟩) HG2 ?_
  rotate_left
  · intro w hSw; go_simp; try with_reducible rfl
  simp only [List.getElem_toArray, List.getElem_cons_succ, List.getElem_cons_zero, Act.put, List.setIfInBounds_toArray, List.set_cons_zero, List.set_cons_succ]
  refine wpAnyH_take (i := 22) (v := ?_) rfl (by kernel_rfl) (by kernel_rfl) (by kernel_rfl) (fun _ _ _ h => h) (Or.inl ⟨by rfl, ?_⟩) HG2 ?_
  rotate_left
  · intro w hSw; go_simp; try with_reducible rfl
  simp only [List.getElem_toArray, List.getElem_cons_succ, List.getElem_cons_zero, Act.put, List.setIfInBounds_toArray, List.set_cons_zero, List.set_cons_succ]
  refine wpAnyH_take (i := 23) (v := ?_) rfl (by kernel_rfl) (by kernel_rfl) (by kernel_rfl) (fun _ _ _ h => h) (Or.inl ⟨by rfl, ?_⟩) HG2 ?_
  rotate_left
  · intro w hSw; go_simp; try with_reducible rfl
  simp only [List.getElem_toArray, List.getElem_cons_succ, List.getElem_cons_zero, Act.put, List.setIfInBounds_toArray, List.set_cons_zero, List.set_cons_succ]
  refine wpAnyH_take (i := 24) (v := ?_) rfl (by kernel_rfl) (by kernel_rfl) (by kernel_rfl) (fun _ _ _ h => h) (Or.inl ⟨by rfl, ?_⟩) HG2 ?_
  rotate_left
  · intro w hSw; go_simp; try with_reducible rfl
  simp only [List.getElem_toArray, List.getElem_cons_succ, List.getElem_cons_zero, Act.put, List.setIfInBounds_toArray, List.set_cons_zero, List.set_cons_succ]
  refine wpAnyH_take (i := 25) (v := ?_) rfl (by kernel_rfl) (by kernel_rfl) (by kernel_rfl) (fun _ _ _ h => h) (Or.inl ⟨by rfl, ?_⟩) HG2 ?_
  rotate_left
  · intro w hSw; go_simp; try with_reducible rfl
  simp only [List.getElem_toArray, List.getElem_cons_succ, List.getElem_cons_zero, Act.put, List.setIfInBounds_toArray, List.set_cons_zero, List.set_cons_succ]
  refine wpAnyH_take (i := 26) (v := ?_) rfl (by kernel_rfl) (by kernel_rfl) (by kernel_rfl) (fun _ _ _ h => h) (Or.inl ⟨by rfl, ?_⟩) HG2 ?_
  rotate_left
  · intro w hSw; go_simp; try with_reducible rfl
  simp only [List.getElem_toArray, List.getElem_cons_succ, List.getElem_cons_zero, Act.put, List.setIfInBounds_toArray, List.set_cons_zero, List.set_cons_succ]
  refine wpAnyH_take (i := 27) (v := ?_) rfl (by kernel_rfl) (by kernel_rfl) (by kernel_rfl) (fun _ _ _ h => h) (Or.inl ⟨by rfl, ?_⟩) HG2 ?_
  rotate_left
  · intro w hSw; go_simp; try with_reducible rfl
  simp only [List.getElem_toArray, List.getElem_cons_succ, List.getElem_cons_zero, Act.put, List.setIfInBounds_toArray, List.set_cons_zero, List.set_cons_succ]
  refine wpAnyH_take (i := 28) (v := ?_) rfl (by kernel_rfl) (by kernel_rfl) (by kernel_rfl) (fun _ _ _ h => h) (Or.inl ⟨by rfl, ?_⟩) HG2 ?_
  rotate_left
  · intro w hSw; go_simp; try with_reducible rfl
  simp only [List.getElem_toArray, List.getElem_cons_succ, List.getElem_cons_zero, Act.put, List.setIfInBounds_toArray, List.set_cons_zero, List.set_cons_succ]
  refine wpAnyH_ready (rs := [29]) (by kernel_rfl) (by simp) ?_
  refine AllReadyH.cons rfl (fun K hK => ?_) AllReadyH.nil
  go_simp
  go_at_call 5
  refine (awake_any _ (HT4.out.below hbW)).mono ?_
  rintro e W2 ⟨rfl, hbx⟩
  have hbW2 := hbW.trans (hbx.mono hbW.size)
  go_simp
  refine hK.out _ _ hbW2 (fun HG3 => ?_)
  clear hK
  try simp only [List.getElem_toArray, List.getElem_cons_succ, List.getElem_cons_zero, Act.put, List.setIfInBounds_toArray, List.set_cons_zero, List.set_cons_succ]
  refine wpAnyH_take (i := 30) (v := ?_) rfl (by kernel_rfl) (by kernel_rfl) (by kernel_rfl) (fun _ _ _ h => h) (Or.inl ⟨by rfl, ?_⟩) HG3 ?_
  rotate_left
  · intro w hSw; go_simp; try with_reducible rfl
  simp only [List.getElem_toArray, List.getElem_cons_succ, List.getElem_cons_zero, Act.put, List.setIfInBounds_toArray, List.set_cons_zero, List.set_cons_succ]
  refine wpAnyH_take (i := 31) (v := ?_) rfl (by kernel_rfl) (by kernel_rfl) (by kernel_rfl) (fun _ _ _ h => h) (Or.inl ⟨by rfl, ?_⟩) HG3 ?_
  rotate_left
  · intro w hSw; go_simp; try with_reducible rfl
  simp only [List.getElem_toArray, List.getElem_cons_succ, List.getElem_cons_zero, Act.put, List.setIfInBounds_toArray, List.set_cons_zero, List.set_cons_succ]
  refine wpAnyH_done (by kernel_rfl) ?_ _
  refine NoPanic.normal ?_
  go_wp2
  go_ret
  exact ⟨rfl, hb4.trans (hbW2.mono hb4.size)⟩

/-- CheckSeals. -/
theorem law_seals (v : Value) (xs : List Nat) (w : World) (h : Rd w v xs ∧ ∀ x ∈ xs, x < 256) (ht : Tab w) :
    Calls Tryd.prog 4 #[v] w fun e w' => e = .returned (.bool true) ∧ Below w.heap.size w w' := by
  obtain ⟨hr, hx⟩ := h
  obtain ⟨A, n, c, rfl, hn⟩ := hr.named
  by_cases hl : 1000 < n
  · obtain ⟨_, _, _, h1, h2⟩ := hr.addr (by omega)
    exact seals_long A n c hl (Nat.le_trans h1 h2) w ht
  · exact seals_short A n c (by omega) xs w hr hn hx ht
end Go.Proofs.YtjlplmobeiolkaaDoor
