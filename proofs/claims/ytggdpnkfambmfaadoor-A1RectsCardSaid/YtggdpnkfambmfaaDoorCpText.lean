/-
The program's a1.Cell.Text, by a contract.
-/
import Derived.Test.YtggdpnkfambmfaaDoorCpCell
import Derived.Test.YtggdpnkfambmfaaDoorBHeld
namespace Go.Proofs.YtggdpnkfambmfaaDoor
open Go.RowKit Go.Proofs.YtggdpnkfambmfaaDoor.Dig

set_option maxRecDepth 20000 in
set_option maxHeartbeats 1000000 in
theorem text_anyC (c r : Int) (h0 : I64 c) (h1 : I64 r) (w : World) (hE : Env0 w) :
    Calls Tryd.prog 14 #[cellV c r] w fun e w' => e = .returned (.string ⟨(textC c r).toArray⟩) ∧ Below w.heap.size w w' := by
  have hr := fun W => right_any c r W
  have hb0 := below_alloc w (.cells #[.int .i64 c, .int .i64 r] 27)
  have HB0 := Lib.hid hb0
  have HB := Lib.hid (box_newC w rfl c r 27)
  have HE0 := Lib.hid (hE.below hb0)
  obtain ⟨p0, p1⟩ := HB.out
  unfold cellV at *
  unfold textC
  cases hc : rightC c r with
  | false =>
    rw [hc] at hr
    simp only [Bool.false_eq_true, if_false]
    have HR := Lib.hid hr
    clear hc h0 h1 hr hb0 hE
    go_enter Tryd.func14, Tryd.ntmps14
    go_wp2_with fail
    go_at_call 15
    with_reducible refine (HR.out _).mono ?_
    rintro e w1 ⟨rfl, hb1⟩
    go_wp2_with fail
    go_ret
    exact ⟨rfl, HB0.out.trans (hb1.mono HB0.out.size)⟩
  | true =>
    rw [hc] at hr
    simp only [if_true]
    have hcc := rightC_iff.1 hc
    have hcol := fun W => col_any c h0 W
    have hdec := fun W hW => decimal_any r W hW h1.1 h1.2
    have hit : Lib.itoa r = Lib.decDigits r.toNat := by
      have e := Lib.itoa_nonneg r.toNat
      rw [show ((r.toNat : Nat) : Int) = r from by omega] at e
      exact e
    rw [hit] at hdec
    have hba : (⟨(colL c).toArray⟩ ++ ⟨(Lib.decDigits r.toNat).toArray⟩ : ByteArray) = ⟨(colL c ++ Lib.decDigits r.toNat).toArray⟩ := ba_app _ _
    have HBA := Lib.hid hba
    have hs1 := colL_len c
    have hs2 := dec_len 3 r.toNat (by omega)
    have hz1 : (⟨(colL c).toArray⟩ : ByteArray).size ≤ 2 := hs1
    have hz2 : (⟨(Lib.decDigits r.toNat).toArray⟩ : ByteArray).size ≤ 4 := hs2
    generalize (⟨(colL c).toArray⟩ : ByteArray) = sa at *
    generalize (⟨(Lib.decDigits r.toNat).toArray⟩ : ByteArray) = sb at *
    have HC1 : Hid ((9223372036854775807 < sa.size + sb.size) = False) := eq_false (by omega)
    have HCOL := Lib.hid hcol
    have HDEC := Lib.hid hdec
    have HR := Lib.hid hr
    clear hc h0 h1 hcc hit hba hs1 hs2 hz1 hz2 hcol hdec hr hb0 hE
    go_enter Tryd.func14, Tryd.ntmps14
    go_wp2_with fail
    go_at_call 15
    with_reducible refine (HR.out _).mono ?_
    rintro e w1 ⟨rfl, hb1⟩
    have HBX := Lib.hid (box_keepC HB.out hb1)
    have HE1 := Lib.hid (HE0.out.below hb1)
    have HB1 := Lib.hid (HB0.out.trans (hb1.mono HB0.out.size))
    clear hb1 p0 p1 HB HE0
    go_wp2_with fail
    refine wp_region_noPanic ?_
    refine wp_region_below (by kernel_rfl) (fun HS0 => ?_)
    refine wpAnyH_take (i := 0) (v := ?_) rfl (by kernel_rfl) (by kernel_rfl) (by kernel_rfl) (fun _ _ _ h => h) (Or.inl ⟨by rfl, ?_⟩) HS0 ?_
    rotate_left
    · intro w hE; go_simp; try with_reducible rfl
    simp only [List.getElem_toArray, List.getElem_cons_succ, List.getElem_cons_zero, Act.put, List.setIfInBounds_toArray, List.set_cons_zero, List.set_cons_succ]
    refine wpAnyH_take (i := 1) (v := ?_) rfl (by kernel_rfl) (by kernel_rfl) (by kernel_rfl) (fun _ _ _ h => h) (Or.inl ⟨by rfl, ?_⟩) HS0 ?_
    rotate_left
    · intro w hE; obtain ⟨p0, p1⟩ := box_keepC HBX.out hE; go_simp; try with_reducible rfl
    simp only [List.getElem_toArray, List.getElem_cons_succ, List.getElem_cons_zero, Act.put, List.setIfInBounds_toArray, List.set_cons_zero, List.set_cons_succ]
    refine wpAnyH_take (i := 3) (v := ?_) rfl (by kernel_rfl) (by kernel_rfl) (by kernel_rfl) (fun _ _ _ h => h) (Or.inl ⟨by rfl, ?_⟩) HS0 ?_
    rotate_left
    · intro w hE; go_simp; try with_reducible rfl
    simp only [List.getElem_toArray, List.getElem_cons_succ, List.getElem_cons_zero, Act.put, List.setIfInBounds_toArray, List.set_cons_zero, List.set_cons_succ]
    refine wpAnyH_take (i := 4) (v := ?_) rfl (by kernel_rfl) (by kernel_rfl) (by kernel_rfl) (fun _ _ _ h => h) (Or.inl ⟨by rfl, ?_⟩) HS0 ?_
    rotate_left
    · intro w hE; obtain ⟨p0, p1⟩ := box_keepC HBX.out hE; go_simp; try with_reducible rfl
    simp only [List.getElem_toArray, List.getElem_cons_succ, List.getElem_cons_zero, Act.put, List.setIfInBounds_toArray, List.set_cons_zero, List.set_cons_succ]
    refine wpAnyH_ready (rs := [2]) (by kernel_rfl) (by simp) ?_
    refine AllReadyH.cons rfl (fun K hK => ?_) AllReadyH.nil
    go_simp
    go_at_call 8
    refine (HCOL.out _).mono ?_
    rintro e wA ⟨rfl, hbA⟩
    go_simp
    refine hK.out _ _ (HS0.trans (hbA.mono HS0.size)) (fun HS1 => ?_)
    clear hK
    have hxA := HS0.trans (hbA.mono HS0.size)
    try simp only [List.getElem_toArray, List.getElem_cons_succ, List.getElem_cons_zero, Act.put, List.setIfInBounds_toArray, List.set_cons_zero, List.set_cons_succ]
    refine wpAnyH_ready (rs := [5]) (by kernel_rfl) (by simp) ?_
    refine AllReadyH.cons rfl (fun K hK => ?_) AllReadyH.nil
    go_simp
    go_at_call 25
    refine (HDEC.out _ (HE1.out.below hxA)).mono ?_
    rintro e wB ⟨rfl, hbB⟩
    go_simp
    refine hK.out _ _ (hxA.trans (hbB.mono hxA.size)) (fun HS2 => ?_)
    clear hK
    have hxB := hxA.trans (hbB.mono hxA.size)
    try simp only [List.getElem_toArray, List.getElem_cons_succ, List.getElem_cons_zero, Act.put, List.setIfInBounds_toArray, List.set_cons_zero, List.set_cons_succ]
    refine wpAnyH_take (i := 6) (v := ?_) rfl (by kernel_rfl) (by kernel_rfl) (by kernel_rfl) (fun _ _ _ h => h) (Or.inl ⟨by rfl, ?_⟩) HS2 ?_
    rotate_left
    · intro w hE; have hc := HC1.out; go_simp; try with_reducible rfl
    simp only [List.getElem_toArray, List.getElem_cons_succ, List.getElem_cons_zero, Act.put, List.setIfInBounds_toArray, List.set_cons_zero, List.set_cons_succ]
    refine wpAnyH_take (i := 7) (v := ?_) rfl (by kernel_rfl) (by kernel_rfl) (by kernel_rfl) (fun _ _ _ h => h) (Or.inl ⟨by rfl, ?_⟩) HS2 ?_
    rotate_left
    · intro w hE; go_simp; try with_reducible rfl
    simp only [List.getElem_toArray, List.getElem_cons_succ, List.getElem_cons_zero, Act.put, List.setIfInBounds_toArray, List.set_cons_zero, List.set_cons_succ]
    refine wpAnyH_done (by kernel_rfl) ?_ _
    refine NoPanic.normal ?_
    go_wp2
    go_ret
    exact ⟨by rw [← HBA.out]; rfl, HB1.out.trans (hxB.mono HB1.out.size)⟩
end Go.Proofs.YtggdpnkfambmfaaDoor
