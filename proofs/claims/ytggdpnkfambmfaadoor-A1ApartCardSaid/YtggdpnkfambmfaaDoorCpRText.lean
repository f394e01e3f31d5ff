/-
The program's a1.Rect.Text, by a contract.
-/
import Derived.Test.YtggdpnkfambmfaaDoorCpOrd
namespace Go.Proofs.YtggdpnkfambmfaaDoor
open Go.RowKit Go.Proofs.YtggdpnkfambmfaaDoor.Dig

theorem rectL_no {a b c d : Int} (h : ¬ (rightC a b = true ∧ rightC c d = true)) : rectL a b c d = [] := if_neg h
theorem textC_le (c r : Int) : (textC c r).length ≤ 20 := by
  unfold textC
  split
  · rename_i h
    have := rightC_iff.1 h
    have := colL_len c
    have := dec_len 3 r.toNat (by omega)
    rw [List.length_append]
    omega
  · simp
set_option maxRecDepth 20000 in
set_option maxHeartbeats 4000000 in
theorem rtext_any (a b c d : Int) (w : World) (hE : Env0 w) (ha : I64 a) (hb : I64 b) (hc : I64 c) (hd : I64 d) :
    Calls Tryd.prog 21 #[rectV a b c d] w fun e w' => e = .returned (.string ⟨(rectL a b c d).toArray⟩) ∧ Below w.heap.size w w' := by
  have hr1 := fun W => right_any a b W
  have hr2 := fun W => right_any c d W
  have hb0 := below_alloc w (.cells #[.int .i64 a, .int .i64 b, .int .i64 c, .int .i64 d] 38)
  have HB0 := Lib.hid hb0
  have HC4 := Lib.hid (Cells4.new w rfl a b c d 38)
  have HE0 := Lib.hid (hE.below hb0)
  obtain ⟨p0, p1, p2, p3⟩ := HC4.out
  clear hb0
  cases hq1 : rightC a b with
  | false =>
    rw [rectL_no (by rw [hq1]; simp)]
    rw [hq1] at hr1
    unfold rectV cellV at *
    have HR1 := Lib.hid hr1
    clear hq1 hr1 hr2 hE ha hb hc hd
    go_enter Tryd.func21, Tryd.ntmps21
    go_wp2_with fail
    go_at_call 15
    with_reducible refine (HR1.out _).mono ?_
    rintro e w1 ⟨rfl, hb1⟩
    go_wp2_with fail
    go_ret
    exact ⟨rfl, HB0.out.trans (hb1.mono HB0.out.size)⟩
  | true =>
    rw [hq1] at hr1
    cases hq2 : rightC c d with
    | false =>
      rw [rectL_no (by rw [hq2]; simp)]
      rw [hq2] at hr2
      unfold rectV cellV at *
      have HR1 := Lib.hid hr1
      have HR2 := Lib.hid hr2
      clear hq1 hq2 hr1 hr2 hE ha hb hc hd
      go_enter Tryd.func21, Tryd.ntmps21
      go_wp2_with fail
      go_at_call 15
      with_reducible refine (HR1.out _).mono ?_
      rintro e w1 ⟨rfl, hb1⟩
      have HB1 := Lib.hid hb1
      clear p0 p1 p2 p3 hb1
      obtain ⟨p0, p1, p2, p3⟩ := HC4.out.keep HB1.out
      go_wp2_with fail
      go_at_call 15
      with_reducible refine (HR2.out _).mono ?_
      rintro e w2 ⟨rfl, hb2⟩
      have HB2 := Lib.hid (HB1.out.trans (hb2.mono HB1.out.size))
      clear hb2
      go_wp2_with fail
      go_ret
      exact ⟨rfl, HB0.out.trans (HB2.out.mono HB0.out.size)⟩
    | true =>
      rw [hq2] at hr2
      have ht1 := fun W hW => text_anyC a b ha hb W hW
      have ht2 := fun W hW => text_anyC c d hc hd W hW
      have hba : (⟨(textC a b).toArray⟩ ++ ⟨#[58]⟩ ++ ⟨(textC c d).toArray⟩ : ByteArray) = ⟨(rectL a b c d).toArray⟩ := by
        have e1 : (⟨(textC a b).toArray⟩ ++ ⟨#[58]⟩ : ByteArray) = ⟨(textC a b ++ [58]).toArray⟩ := ba_app _ [58]
        rw [e1, ba_app]
        unfold rectL
        rw [if_pos ⟨hq1, hq2⟩, List.append_assoc]
        rfl
      have hs1 := textC_le a b
      have hs2 := textC_le c d
      have hz1 : (⟨(textC a b).toArray⟩ : ByteArray).size ≤ 20 := hs1
      have hz2 : (⟨(textC c d).toArray⟩ : ByteArray).size ≤ 20 := hs2
      unfold rectV cellV at *
      generalize (⟨(textC a b).toArray⟩ : ByteArray) = sa at *
      generalize (⟨(textC c d).toArray⟩ : ByteArray) = sb at *
      have HBA := Lib.hid hba
      have HC1 : Hid ((9223372036854775807 < sa.size + 1) = False) := eq_false (by omega)
      have HC2 : Hid ((9223372036854775807 < sa.size + 1 + sb.size) = False) := eq_false (by omega)
      have HR1 := Lib.hid hr1
      have HR2 := Lib.hid hr2
      have HT1 := Lib.hid ht1
      have HT2 := Lib.hid ht2
      clear hq1 hq2 hr1 hr2 hE ha hb hc hd ht1 ht2 hba hs1 hs2 hz1 hz2
      go_enter Tryd.func21, Tryd.ntmps21
      go_wp2_with fail
      go_at_call 15
      with_reducible refine (HR1.out _).mono ?_
      rintro e w1 ⟨rfl, hb1⟩
      have HB1 := Lib.hid hb1
      clear p0 p1 p2 p3 hb1
      obtain ⟨p0, p1, p2, p3⟩ := HC4.out.keep HB1.out
      go_wp2_with fail
      go_at_call 15
      with_reducible refine (HR2.out _).mono ?_
      rintro e w2 ⟨rfl, hb2⟩
      have HB2 := Lib.hid (HB1.out.trans (hb2.mono HB1.out.size))
      clear hb2 p0 p1 p2 p3
      have HBX := Lib.hid (HC4.out.keep HB2.out)
      have HE2 := Lib.hid (HE0.out.below HB2.out)
      have HB3 := Lib.hid (HB0.out.trans (HB2.out.mono HB0.out.size))
      clear HB0 HB1 HB2 HE0 HC4 HR1 HR2
      go_wp2_with fail
      refine wp_region_noPanic ?_
      refine wp_region_below (by kernel_rfl) (fun HS0 => ?_)
      refine wpAnyH_take (i := 0) (v := ?_) rfl (by kernel_rfl) (by kernel_rfl) (by kernel_rfl) (fun _ _ _ h => h) (Or.inl ⟨by rfl, ?_⟩) HS0 ?_
      rotate_left
      · intro w hE; go_simp; try with_reducible rfl
      simp only [List.getElem_toArray, List.getElem_cons_succ, List.getElem_cons_zero, Act.put, List.setIfInBounds_toArray, List.set_cons_zero, List.set_cons_succ]
      refine wpAnyH_take (i := 1) (v := ?_) rfl (by kernel_rfl) (by kernel_rfl) (by kernel_rfl) (fun _ _ _ h => h) (Or.inl ⟨by rfl, ?_⟩) HS0 ?_
      rotate_left
      · intro w hE; obtain ⟨p0, p1, p2, p3⟩ := HBX.out.keep hE; go_simp; try with_reducible rfl
      simp only [List.getElem_toArray, List.getElem_cons_succ, List.getElem_cons_zero, Act.put, List.setIfInBounds_toArray, List.set_cons_zero, List.set_cons_succ]
      refine wpAnyH_take (i := 4) (v := ?_) rfl (by kernel_rfl) (by kernel_rfl) (by kernel_rfl) (fun _ _ _ h => h) (Or.inl ⟨by rfl, ?_⟩) HS0 ?_
      rotate_left
      · intro w hE; go_simp; try with_reducible rfl
      simp only [List.getElem_toArray, List.getElem_cons_succ, List.getElem_cons_zero, Act.put, List.setIfInBounds_toArray, List.set_cons_zero, List.set_cons_succ]
      refine wpAnyH_take (i := 5) (v := ?_) rfl (by kernel_rfl) (by kernel_rfl) (by kernel_rfl) (fun _ _ _ h => h) (Or.inl ⟨by rfl, ?_⟩) HS0 ?_
      rotate_left
      · intro w hE; obtain ⟨p0, p1, p2, p3⟩ := HBX.out.keep hE; go_simp; try with_reducible rfl
      simp only [List.getElem_toArray, List.getElem_cons_succ, List.getElem_cons_zero, Act.put, List.setIfInBounds_toArray, List.set_cons_zero, List.set_cons_succ]
      refine wpAnyH_ready (rs := [2]) (by kernel_rfl) (by simp) ?_
      refine AllReadyH.cons rfl (fun K hK => ?_) AllReadyH.nil
      go_simp
      go_at_call 14
      refine (HT1.out _ (HE2.out.below HS0)).mono ?_
      rintro e wA ⟨rfl, hbA⟩
      go_simp
      refine hK.out _ _ (HS0.trans (hbA.mono HS0.size)) (fun HS1 => ?_)
      clear hK
      have hxA := HS0.trans (hbA.mono HS0.size)
      try simp only [List.getElem_toArray, List.getElem_cons_succ, List.getElem_cons_zero, Act.put, List.setIfInBounds_toArray, List.set_cons_zero, List.set_cons_succ]
      refine wpAnyH_take (i := 3) (v := ?_) rfl (by kernel_rfl) (by kernel_rfl) (by kernel_rfl) (fun _ _ _ h => h) (Or.inl ⟨by rfl, ?_⟩) HS1 ?_
      rotate_left
      · intro w hE; have hc := HC1.out; go_simp; try with_reducible rfl
      simp only [List.getElem_toArray, List.getElem_cons_succ, List.getElem_cons_zero, Act.put, List.setIfInBounds_toArray, List.set_cons_zero, List.set_cons_succ]
      refine wpAnyH_ready (rs := [6]) (by kernel_rfl) (by simp) ?_
      refine AllReadyH.cons rfl (fun K hK => ?_) AllReadyH.nil
      go_simp
      go_at_call 14
      refine (HT2.out _ (HE2.out.below hxA)).mono ?_
      rintro e wB ⟨rfl, hbB⟩
      go_simp
      refine hK.out _ _ (hxA.trans (hbB.mono hxA.size)) (fun HS2 => ?_)
      clear hK
      have hxB := hxA.trans (hbB.mono hxA.size)
      try simp only [List.getElem_toArray, List.getElem_cons_succ, List.getElem_cons_zero, Act.put, List.setIfInBounds_toArray, List.set_cons_zero, List.set_cons_succ]
      refine wpAnyH_take (i := 7) (v := ?_) rfl (by kernel_rfl) (by kernel_rfl) (by kernel_rfl) (fun _ _ _ h => h) (Or.inl ⟨by rfl, ?_⟩) HS2 ?_
      rotate_left
      · intro w hE; have hc := HC2.out; go_simp; try with_reducible rfl
      simp only [List.getElem_toArray, List.getElem_cons_succ, List.getElem_cons_zero, Act.put, List.setIfInBounds_toArray, List.set_cons_zero, List.set_cons_succ]
      refine wpAnyH_take (i := 8) (v := ?_) rfl (by kernel_rfl) (by kernel_rfl) (by kernel_rfl) (fun _ _ _ h => h) (Or.inl ⟨by rfl, ?_⟩) HS2 ?_
      rotate_left
      · intro w hE; go_simp; try with_reducible rfl
      simp only [List.getElem_toArray, List.getElem_cons_succ, List.getElem_cons_zero, Act.put, List.setIfInBounds_toArray, List.set_cons_zero, List.set_cons_succ]
      refine wpAnyH_done (by kernel_rfl) ?_ _
      refine NoPanic.normal ?_
      go_wp2
      go_ret
      exact ⟨by rw [← HBA.out]; rfl, HB3.out.trans (hxB.mono HB3.out.size)⟩
end Go.Proofs.YtggdpnkfambmfaaDoor
