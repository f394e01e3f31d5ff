/-
The reference of stage 5: Text, by a contract.
-/
import Derived.Test.YtfgopiopeidfmaaDoorSRTxt
namespace Go.Proofs.YtfgopiopeidfmaaDoor
open Go.RowKit Go.Proofs.YtfgopiopeidfmaaDoor.Dig

set_option maxRecDepth 20000 in
set_option maxHeartbeats 1000000 in
theorem rtext_form (t rn : Nat) (ht : t ≤ 1099511627776) (hr : rn ≤ 64) (w : World) :
    Calls Tryd.prog 29 #[idV t (rn : Int)] w fun e w' => e = .returned (.string ⟨(textI t rn).toArray⟩) ∧ Below w.heap.size w w' := by
  have hd1 := fun w2 => digits_any (t : Int) (by omega) (by omega) w2
  have hd2 := fun w2 => digits_any (rn : Int) (by omega) (by omega) w2
  have hi : ∀ m : Nat, Lib.itoa (m : Int) = Lib.decDigits m := fun m => by unfold Lib.itoa; rw [if_neg (by omega)]; rfl
  rw [hi] at hd1 hd2
  have HD1 := Lib.hid hd1
  have HD2 := Lib.hid hd2
  have hw1 : IntKind.i64.wrap (t : Int) = (t : Int) := by rw [IntKind.wrap_i64]; omega
  have hw2 : wrap64 (t : Int) = (t : Int) := by unfold wrap64; omega
  have HTX : Hid ((⟨(Lib.decDigits t).toArray⟩ : ByteArray) ++ ⟨#[64]⟩ ++ ⟨(Lib.decDigits rn).toArray⟩ = ⟨(textI t rn).toArray⟩) := by
    show _ = _
    have e1 : ((⟨(Lib.decDigits t).toArray⟩ : ByteArray) ++ ⟨#[64]⟩) = ⟨(Lib.decDigits t ++ [64]).toArray⟩ := ba_app _ [64]
    rw [e1, ba_app]
    unfold textI
    rw [List.append_assoc]; rfl
  have hs1 : (Lib.decDigits t).length ≤ 18 := dec_len18 (by omega)
  have hs2 : (Lib.decDigits rn).length ≤ 18 := dec_len18 (by omega)
  have hz1 : (⟨(Lib.decDigits t).toArray⟩ : ByteArray).size ≤ 18 := hs1
  have hz2 : (⟨(Lib.decDigits rn).toArray⟩ : ByteArray).size ≤ 18 := hs2
  have HC1 : Hid ((9223372036854775807 < (Lib.decDigits t).length + 1) = False) := by show _ = _; rw [eq_iff_iff]; constructor; (intro h; omega); (intro h; cases h)
  have HC2 : Hid ((9223372036854775807 < (Lib.decDigits t).length + 1 + (Lib.decDigits rn).length) = False) := by show _ = _; rw [eq_iff_iff]; constructor; (intro h; omega); (intro h; cases h)
  have HB := Lib.hid (box_new w rfl t (rn : Int) 24)
  have hb0 := below_alloc w (.cells #[.int .u64 (t : Int), .int .i64 (rn : Int)] 24)
  clear hd1 hd2 hi ht hr
  unfold idV
  go_enter Tryd.func29, Tryd.ntmps29
  go_wp2_with fail
  refine wp_region_noPanic ?_
  refine wp_region_below (by kernel_rfl) (fun HS0 => ?_)
  refine wpAnyH_take (i := 0) (v := ?_) rfl (by kernel_rfl) (by kernel_rfl) (by kernel_rfl) (fun _ _ _ h => h) (Or.inl ⟨by rfl, ?_⟩) HS0 ?_
  rotate_left
  · intro w hE; go_simp; try with_reducible rfl
  simp only [List.getElem_toArray, List.getElem_cons_succ, List.getElem_cons_zero, Act.put, List.setIfInBounds_toArray, List.set_cons_zero, List.set_cons_succ]
  refine wpAnyH_take (i := 1) (v := ?_) rfl (by kernel_rfl) (by kernel_rfl) (by kernel_rfl) (fun _ _ _ h => h) (Or.inl ⟨by rfl, ?_⟩) HS0 ?_
  rotate_left
  · intro w hE; obtain ⟨p0, p1⟩ := box_keep HB.out hE; go_simp; try with_reducible rfl
  simp only [List.getElem_toArray, List.getElem_cons_succ, List.getElem_cons_zero, Act.put, List.setIfInBounds_toArray, List.set_cons_zero, List.set_cons_succ]
  refine wpAnyH_take (i := 2) (v := ?_) rfl (by kernel_rfl) (by kernel_rfl) (by kernel_rfl) (fun _ _ _ h => h) (Or.inl ⟨by rfl, ?_⟩) HS0 ?_
  rotate_left
  · intro w hE; go_simp; try with_reducible rfl
  simp only [List.getElem_toArray, List.getElem_cons_succ, List.getElem_cons_zero, Act.put, List.setIfInBounds_toArray, List.set_cons_zero, List.set_cons_succ]
  refine wpAnyH_take (i := 5) (v := ?_) rfl (by kernel_rfl) (by kernel_rfl) (by kernel_rfl) (fun _ _ _ h => h) (Or.inl ⟨by rfl, ?_⟩) HS0 ?_
  rotate_left
  · intro w hE; go_simp; try with_reducible rfl
  simp only [List.getElem_toArray, List.getElem_cons_succ, List.getElem_cons_zero, Act.put, List.setIfInBounds_toArray, List.set_cons_zero, List.set_cons_succ]
  refine wpAnyH_take (i := 6) (v := ?_) rfl (by kernel_rfl) (by kernel_rfl) (by kernel_rfl) (fun _ _ _ h => h) (Or.inl ⟨by rfl, ?_⟩) HS0 ?_
  rotate_left
  · intro w hE; obtain ⟨p0, p1⟩ := box_keep HB.out hE; go_simp; try with_reducible rfl
  simp only [List.getElem_toArray, List.getElem_cons_succ, List.getElem_cons_zero, Act.put, List.setIfInBounds_toArray, List.set_cons_zero, List.set_cons_succ]
  refine wpAnyH_ready (rs := [3]) (by kernel_rfl) (by simp) ?_
  refine AllReadyH.cons rfl (fun K hK => ?_) AllReadyH.nil
  go_simp
  go_at_call 25
  refine (HD1.out _).mono ?_
  rintro e wA ⟨rfl, hbA⟩
  go_simp
  refine hK.out _ _ (HS0.trans hbA) (fun HS1 => ?_)
  clear hK
  have hxA := HS0.trans hbA
  try simp only [List.getElem_toArray, List.getElem_cons_succ, List.getElem_cons_zero, Act.put, List.setIfInBounds_toArray, List.set_cons_zero, List.set_cons_succ]
  refine wpAnyH_take (i := 4) (v := ?_) rfl (by kernel_rfl) (by kernel_rfl) (by kernel_rfl) (fun _ _ _ h => h) (Or.inl ⟨by rfl, ?_⟩) HS1 ?_
  rotate_left
  · intro w hE; have hc := HC1.out; go_simp; try with_reducible rfl
  simp only [List.getElem_toArray, List.getElem_cons_succ, List.getElem_cons_zero, Act.put, List.setIfInBounds_toArray, List.set_cons_zero, List.set_cons_succ]
  refine wpAnyH_ready (rs := [7]) (by kernel_rfl) (by simp) ?_
  refine AllReadyH.cons rfl (fun K hK => ?_) AllReadyH.nil
  go_simp
  go_at_call 25
  refine (HD2.out _).mono ?_
  rintro e wB ⟨rfl, hbB⟩
  go_simp
  refine hK.out _ _ (hxA.trans (hbB.mono hxA.size)) (fun HS2 => ?_)
  clear hK
  have hxB := hxA.trans (hbB.mono hxA.size)
  try simp only [List.getElem_toArray, List.getElem_cons_succ, List.getElem_cons_zero, Act.put, List.setIfInBounds_toArray, List.set_cons_zero, List.set_cons_succ]
  refine wpAnyH_take (i := 8) (v := ?_) rfl (by kernel_rfl) (by kernel_rfl) (by kernel_rfl) (fun _ _ _ h => h) (Or.inl ⟨by rfl, ?_⟩) HS2 ?_
  rotate_left
  · intro w hE; have hc := HC2.out; go_simp; try with_reducible rfl
  simp only [List.getElem_toArray, List.getElem_cons_succ, List.getElem_cons_zero, Act.put, List.setIfInBounds_toArray, List.set_cons_zero, List.set_cons_succ]
  refine wpAnyH_take (i := 9) (v := ?_) rfl (by kernel_rfl) (by kernel_rfl) (by kernel_rfl) (fun _ _ _ h => h) (Or.inl ⟨by rfl, ?_⟩) HS2 ?_
  rotate_left
  · intro w hE; go_simp; try with_reducible rfl
  simp only [List.getElem_toArray, List.getElem_cons_succ, List.getElem_cons_zero, Act.put, List.setIfInBounds_toArray, List.set_cons_zero, List.set_cons_succ]
  refine wpAnyH_done (by kernel_rfl) ?_ _
  refine NoPanic.normal ?_
  go_wp2
  go_ret
  exact ⟨by rw [← HTX.out]; rfl, hb0.trans (hxB.mono hb0.size)⟩
end Go.Proofs.YtfgopiopeidfmaaDoor
