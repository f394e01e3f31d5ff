/-
The laws TreeSigns and TreeRight, over what they ask of package tree.
-/
import Derived.Test.YtlagjnlajkmmeaaDoorTrOk
namespace Go.Proofs.YtlagjnlajkmmeaaDoor
open Go.RowKit

set_option maxRecDepth 20000 in
set_option maxHeartbeats 8000000 in
theorem signs_law {E : World → Prop} {M : Nat} (K : TreeOk E M) (hM : 1 ≤ M) (k : Int) (hk : In64 k) (s : List UInt8) (hs : s.length ≤ maxLen) (w : World) (hE : E w) :
    Calls Tryd.prog 3 #[.int .i64 k, .string ⟨s.toArray⟩] w fun e w' => e = .returned (.bool true) ∧ Below w.heap.size w w' := by
  have HK := Lib.hid K
  have HE := Lib.hid hE
  have HAW := Lib.hid (fun W (h : E W) => awake_any K hM W h)
  have HSG := Lib.hid (fun W (h : E W) => K.signs k W h hk)
  have HRS := Lib.hid (fun W => rsigns_any k W)
  obtain ⟨n, hn⟩ : ∃ n, n = s.length := ⟨_, rfl⟩
  have hsz : (⟨s.toArray⟩ : ByteArray).size = n := by rw [hn]; rfl
  have hn2 : n ≤ 9223372036854775807 := by unfold maxLen at hs; omega
  have HLV := Lib.hid (fun (h : n ≤ 200) W (hW : E W) => K.level s W hW (by omega))
  have HNM := Lib.hid (fun (h : n ≤ 200) W (hW : E W) => K.name s W hW (by omega))
  have HRL := Lib.hid (fun W => rlevel_any s W)
  have HRN := Lib.hid (fun W => rname_any s (by unfold maxLen at hs; omega) W)
  have HLVX := Lib.hid (fun (x : List UInt8) (hx : x ∈ signsF k) W (hW : E W) => (show Calls Tryd.prog 8 #[.string ⟨x.toArray⟩] W fun e w' => e = .returned (.int .i64 k) ∧ Below W.heap.size W w' from by
    have h := K.level x W hW (by
      have all1 : ∀ x ∈ signsF 1, x.length ≤ 200 := by decide +kernel
      have all2 : ∀ x ∈ signsF 2, x.length ≤ 200 := by decide +kernel
      have all3 : ∀ x ∈ signsF 3, x.length ≤ 200 := by decide +kernel
      have all4 : ∀ x ∈ signsF 4, x.length ≤ 200 := by decide +kernel
      have hp := level_pos hx
      have h4 := levelF_le x
      have hk : k = 0 ∨ k = 1 ∨ k = 2 ∨ k = 3 ∨ k = 4 := by omega
      rcases hk with rfl | rfl | rfl | rfl | rfl
      · cases hx
      · exact all1 x hx
      · exact all2 x hx
      · exact all3 x hx
      · exact all4 x hx)
    rw [level_pos hx] at h
    exact h))
  generalize (⟨s.toArray⟩ : ByteArray) = sb at *
  generalize levelF s = lv at *
  generalize nameF s = nb at *
  clear K hM hE hs hn
  go_enter Tryd.func3, Tryd.ntmps3
  go_wp2_with fail
  go_at_call 5
  with_reducible refine (HSG.out _ HE.out).mono ?_
  rintro e w1 ⟨v1, rfl, hv1, hb1⟩
  obtain ⟨A1, c1, rfl⟩ := hv1.named
  have HV1 := Lib.hid hv1
  have HB1 := Lib.hid hb1
  clear hv1 hb1
  go_wp2_with fail
  go_at_call 6
  with_reducible refine (HRS.out _).mono ?_
  rintro e w2 ⟨v2, rfl, hv2, hb2⟩
  obtain ⟨A2, c2, rfl⟩ := hv2.named
  have HV2 := Lib.hid hv2
  have HV1b := Lib.hid (HV1.out.below hb2)
  have HB2 := Lib.hid (HB1.out.trans (hb2.mono HB1.out.size))
  obtain ⟨len, hlen⟩ : ∃ len, len = (signsF k).length := ⟨_, rfl⟩
  have hl6 : len ≤ 6 := by
    rw [hlen]
    unfold signsF
    repeat' split
    all_goals simp
  rw [← hlen] at HV1b HV2 ⊢
  have HLEN := Lib.hid hlen
  clear hv2 hb2 hlen HV1
  by_cases h200 : 200 < n
  · have hi : (200 : Int) < (n : Int) := by omega
    go_wp2_with fail
    go_at_call 7
    with_reducible refine (HAW.out _ (HK.out.keep HE.out HB2.out)).mono ?_
    rintro e w3 ⟨rfl, hb3⟩
    go_wp2_with fail
    go_ret
    exact ⟨rfl, HB2.out.trans (hb3.mono HB2.out.size)⟩
  · have hi : (n : Int) ≤ 200 := by omega
    have hi2 : n ≤ 200 := by omega
    clear h200
    go_wp2_with fail
    go_loopw [7] (fun b wr => ∃ i : Nat, i ≤ len ∧ b = .int .i64 (i : Int) ∧ Hid (Below w2.heap.size w2 wr)) (fun b _ => len - (intOf b).toNat)
    case atStart => exact ⟨0, Nat.zero_le _, rfl, Lib.hid (Below.refl _ _)⟩
    case round =>
      rename World => wr
      obtain ⟨i, hile, rfl, HB⟩ := hrel
      have HBW := Lib.hid (HB2.out.trans (HB.out.mono HB2.out.size))
      have HEW := Lib.hid (HK.out.keep HE.out HBW.out)
      by_cases hlt : i < len
      · obtain ⟨x, hx⟩ : ∃ x, (signsF k)[i]? = some x := ⟨_, List.getElem?_eq_getElem (by rw [← HLEN.out]; exact hlt)⟩
        obtain ⟨b1, off1, rfl, _⟩ := HV1b.out.at_ hx
        obtain ⟨b2, off2, rfl, _⟩ := HV2.out.at_ hx
        have HX1 := Lib.hid (fun w' (h : Below wr.heap.size wr w') => (show w'.cell? ⟨b1, off1 + i, none⟩ = some (.string ⟨x.toArray⟩) from by
          obtain ⟨b, off, h1, h2⟩ := (HV1b.out.below (HB.out.trans (h.mono HB.out.size))).at_ hx
          cases h1
          exact h2))
        have HX2 := Lib.hid (fun w' (h : Below wr.heap.size wr w') => (show w'.cell? ⟨b2, off2 + i, none⟩ = some (.string ⟨x.toArray⟩) from by
          obtain ⟨b, off, h1, h2⟩ := (HV2.out.below (HB.out.trans (h.mono HB.out.size))).at_ hx
          cases h1
          exact h2))
        have HLX := Lib.hid (fun w' (h : Below wr.heap.size wr w') => HLVX.out x (List.mem_of_getElem? hx) w' (HK.out.keep HEW.out h))
        generalize (⟨x.toArray⟩ : ByteArray) = xb at *
        clear hx
        go_wp2_with fail
        refine wp_region_noPanic ?_
        refine wp_region_below (by kernel_rfl) (fun HS0 => ?_)
        refine wpAnyH_take (i := 0) (v := ?_) rfl (by kernel_rfl) (by kernel_rfl) (by kernel_rfl) (fun _ _ _ h => h) (Or.inl ⟨by rfl, ?_⟩) HS0 ?_
        rotate_left
        · intro w hE; go_simp; try with_reducible rfl
        simp only [List.getElem_toArray, List.getElem_cons_succ, List.getElem_cons_zero, Act.put, List.setIfInBounds_toArray, List.set_cons_zero, List.set_cons_succ]
        refine wpAnyH_take (i := 1) (v := ?_) rfl (by kernel_rfl) (by kernel_rfl) (by kernel_rfl) (fun _ _ _ h => h) (Or.inl ⟨by rfl, ?_⟩) HS0 ?_
        rotate_left
        · intro w hE; go_simp; try with_reducible rfl
        simp only [List.getElem_toArray, List.getElem_cons_succ, List.getElem_cons_zero, Act.put, List.setIfInBounds_toArray, List.set_cons_zero, List.set_cons_succ]
        refine wpAnyH_take (i := 2) (v := ?_) rfl (by kernel_rfl) (by kernel_rfl) (by kernel_rfl) (fun _ _ _ h => h) (Or.inl ⟨by rfl, ?_⟩) HS0 ?_
        rotate_left
        · intro w hE; go_simp; try with_reducible rfl
        simp only [List.getElem_toArray, List.getElem_cons_succ, List.getElem_cons_zero, Act.put, List.setIfInBounds_toArray, List.set_cons_zero, List.set_cons_succ]
        refine wpAnyH_take (i := 3) (v := ?_) rfl (by kernel_rfl) (by kernel_rfl) (by kernel_rfl) (fun _ _ _ h => h) (Or.inl ⟨by rfl, ?_⟩) HS0 ?_
        rotate_left
        · intro w hE; have c0 := HX1.out _ hE; go_simp; try with_reducible rfl
        simp only [List.getElem_toArray, List.getElem_cons_succ, List.getElem_cons_zero, Act.put, List.setIfInBounds_toArray, List.set_cons_zero, List.set_cons_succ]
        refine wpAnyH_take (i := 4) (v := ?_) rfl (by kernel_rfl) (by kernel_rfl) (by kernel_rfl) (fun _ _ _ h => h) (Or.inl ⟨by rfl, ?_⟩) HS0 ?_
        rotate_left
        · intro w hE; go_simp; try with_reducible rfl
        simp only [List.getElem_toArray, List.getElem_cons_succ, List.getElem_cons_zero, Act.put, List.setIfInBounds_toArray, List.set_cons_zero, List.set_cons_succ]
        refine wpAnyH_take (i := 5) (v := ?_) rfl (by kernel_rfl) (by kernel_rfl) (by kernel_rfl) (fun _ _ _ h => h) (Or.inl ⟨by rfl, ?_⟩) HS0 ?_
        rotate_left
        · intro w hE; go_simp; try with_reducible rfl
        simp only [List.getElem_toArray, List.getElem_cons_succ, List.getElem_cons_zero, Act.put, List.setIfInBounds_toArray, List.set_cons_zero, List.set_cons_succ]
        refine wpAnyH_take (i := 6) (v := ?_) rfl (by kernel_rfl) (by kernel_rfl) (by kernel_rfl) (fun _ _ _ h => h) (Or.inl ⟨by rfl, ?_⟩) HS0 ?_
        rotate_left
        · intro w hE; go_simp; try with_reducible rfl
        simp only [List.getElem_toArray, List.getElem_cons_succ, List.getElem_cons_zero, Act.put, List.setIfInBounds_toArray, List.set_cons_zero, List.set_cons_succ]
        refine wpAnyH_take (i := 7) (v := ?_) rfl (by kernel_rfl) (by kernel_rfl) (by kernel_rfl) (fun _ _ _ h => h) (Or.inl ⟨by rfl, ?_⟩) HS0 ?_
        rotate_left
        · intro w hE; have c0 := HX2.out _ hE; go_simp; try with_reducible rfl
        simp only [List.getElem_toArray, List.getElem_cons_succ, List.getElem_cons_zero, Act.put, List.setIfInBounds_toArray, List.set_cons_zero, List.set_cons_succ]
        refine wpAnyH_take (i := 8) (v := ?_) rfl (by kernel_rfl) (by kernel_rfl) (by kernel_rfl) (fun _ _ _ h => h) (Or.inl ⟨by rfl, ?_⟩) HS0 ?_
        rotate_left
        · intro w hE; go_simp; try with_reducible rfl
        simp only [List.getElem_toArray, List.getElem_cons_succ, List.getElem_cons_zero, Act.put, List.setIfInBounds_toArray, List.set_cons_zero, List.set_cons_succ]
        refine wpAnyH_take (i := 9) (v := ?_) rfl (by kernel_rfl) (by kernel_rfl) (by kernel_rfl) (fun _ _ _ h => h) (Or.inl ⟨by rfl, ?_⟩) HS0 ?_
        rotate_left
        · intro w hE; go_simp; try with_reducible rfl
        simp only [List.getElem_toArray, List.getElem_cons_succ, List.getElem_cons_zero, Act.put, List.setIfInBounds_toArray, List.set_cons_zero, List.set_cons_succ]
        refine wpAnyH_take (i := 10) (v := ?_) rfl (by kernel_rfl) (by kernel_rfl) (by kernel_rfl) (fun _ _ _ h => h) (Or.inl ⟨by rfl, ?_⟩) HS0 ?_
        rotate_left
        · intro w hE; go_simp; try with_reducible rfl
        simp only [List.getElem_toArray, List.getElem_cons_succ, List.getElem_cons_zero, Act.put, List.setIfInBounds_toArray, List.set_cons_zero, List.set_cons_succ]
        refine wpAnyH_take (i := 11) (v := ?_) rfl (by kernel_rfl) (by kernel_rfl) (by kernel_rfl) (fun _ _ _ h => h) (Or.inl ⟨by rfl, ?_⟩) HS0 ?_
        rotate_left
        · intro w hE; go_simp; try with_reducible rfl
        simp only [List.getElem_toArray, List.getElem_cons_succ, List.getElem_cons_zero, Act.put, List.setIfInBounds_toArray, List.set_cons_zero, List.set_cons_succ]
        refine wpAnyH_take (i := 12) (v := ?_) rfl (by kernel_rfl) (by kernel_rfl) (by kernel_rfl) (fun _ _ _ h => h) (Or.inl ⟨by rfl, ?_⟩) HS0 ?_
        rotate_left
        · intro w hE; go_simp; try with_reducible rfl
        simp only [List.getElem_toArray, List.getElem_cons_succ, List.getElem_cons_zero, Act.put, List.setIfInBounds_toArray, List.set_cons_zero, List.set_cons_succ]
        refine wpAnyH_take (i := 13) (v := ?_) rfl (by kernel_rfl) (by kernel_rfl) (by kernel_rfl) (fun _ _ _ h => h) (Or.inl ⟨by rfl, ?_⟩) HS0 ?_
        rotate_left
        · intro w hE; have c0 := HX2.out _ hE; go_simp; try with_reducible rfl
        simp only [List.getElem_toArray, List.getElem_cons_succ, List.getElem_cons_zero, Act.put, List.setIfInBounds_toArray, List.set_cons_zero, List.set_cons_succ]
        refine wpAnyH_take (i := 15) (v := ?_) rfl (by kernel_rfl) (by kernel_rfl) (by kernel_rfl) (fun _ _ _ h => h) (Or.inl ⟨by rfl, ?_⟩) HS0 ?_
        rotate_left
        · intro w hE; go_simp; try with_reducible rfl
        simp only [List.getElem_toArray, List.getElem_cons_succ, List.getElem_cons_zero, Act.put, List.setIfInBounds_toArray, List.set_cons_zero, List.set_cons_succ]
        refine wpAnyH_ready (rs := [14]) (by kernel_rfl) (by simp) ?_
        refine AllReadyH.cons rfl (fun K hK => ?_) AllReadyH.nil
        go_simp
        go_at_call 8
        refine (HLX.out _ HS0).mono ?_
        rintro e wA ⟨rfl, hbA⟩
        go_simp
        refine hK.out _ _ (HS0.trans (hbA.mono HS0.size)) (fun HS1 => ?_)
        clear hK
        have hxA := HS0.trans (hbA.mono HS0.size)
        try simp only [List.getElem_toArray, List.getElem_cons_succ, List.getElem_cons_zero, Act.put, List.setIfInBounds_toArray, List.set_cons_zero, List.set_cons_succ]
        refine wpAnyH_take (i := 16) (v := ?_) rfl (by kernel_rfl) (by kernel_rfl) (by kernel_rfl) (fun _ _ _ h => h) (Or.inl ⟨by rfl, ?_⟩) HS1 ?_
        rotate_left
        · intro w hE; go_simp; try with_reducible rfl
        simp only [List.getElem_toArray, List.getElem_cons_succ, List.getElem_cons_zero, Act.put, List.setIfInBounds_toArray, List.set_cons_zero, List.set_cons_succ]
        refine wpAnyH_take (i := 17) (v := ?_) rfl (by kernel_rfl) (by kernel_rfl) (by kernel_rfl) (fun _ _ _ h => h) (Or.inl ⟨by rfl, ?_⟩) HS1 ?_
        rotate_left
        · intro w hE; go_simp; try with_reducible rfl
        simp only [List.getElem_toArray, List.getElem_cons_succ, List.getElem_cons_zero, Act.put, List.setIfInBounds_toArray, List.set_cons_zero, List.set_cons_succ]
        refine wpAnyH_done (by kernel_rfl) ?_ _
        refine NoPanic.normal ?_
        go_wp2_with fail
        go_roundw
        case rel => exact ⟨i + 1, by omega, by go_num, Lib.hid (HB.out.trans (hxA.mono HB.out.size))⟩
        case measure => simp [intOf]; omega
      · obtain rfl : i = len := by omega
        go_wp2_with fail
        go_at_call 8
        with_reducible refine (HLV.out hi2 _ HEW.out).mono ?_
        rintro e w3 ⟨rfl, hb3⟩
        have HB3 := Lib.hid (HBW.out.trans (hb3.mono HBW.out.size))
        clear hb3
        go_wp2_with fail
        go_at_call 9
        with_reducible refine (HRL.out _).mono ?_
        rintro e w4 ⟨rfl, hb4⟩
        have HB4 := Lib.hid (HB3.out.trans (hb4.mono HB3.out.size))
        clear hb4
        go_wp2_with fail
        go_at_call 10
        with_reducible refine (HNM.out hi2 _ (HK.out.keep HE.out HB4.out)).mono ?_
        rintro e w5 ⟨rfl, hb5⟩
        have HB5 := Lib.hid (HB4.out.trans (hb5.mono HB4.out.size))
        clear hb5
        go_wp2_with fail
        go_at_call 11
        with_reducible refine (HRN.out _).mono ?_
        rintro e w6 ⟨rfl, rfl⟩
        go_wp2_with fail
        go_at_call 7
        with_reducible refine (HAW.out _ (HK.out.keep HE.out HB5.out)).mono ?_
        rintro e w7 ⟨rfl, hb7⟩
        go_wp2_with fail
        go_ret
        exact ⟨rfl, HB5.out.trans (hb7.mono HB5.out.size)⟩
end Go.Proofs.YtlagjnlajkmmeaaDoor
