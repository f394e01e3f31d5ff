/-
The program's Text, Parse and the chapter's example, by contracts.
-/
import Derived.Test.YtfgopiopeidfmaaDoorTTexts
namespace Go.Proofs.YtfgopiopeidfmaaDoor
open Go.RowKit Go.Proofs.YtfgopiopeidfmaaDoor.Dig

set_option maxRecDepth 20000 in
set_option maxHeartbeats 1000000 in
theorem text_any (t rn : Nat) (w : World) (hE : Env0 w) (ht : t ≤ 1099511627776) (hr : rn ≤ 64) :
    Calls Tryd.prog 28 #[idV t (rn : Int)] w fun e w' => e = .returned (.string ⟨(textI t rn).toArray⟩) ∧ Below w.heap.size w w' := by
  have hd1 := fun w2 hw => formatUint t (by omega) w2 hw
  have hd2 := fun w2 hw => decimal_any (rn : Int) w2 hw (by omega) (by omega)
  have hi : ∀ m : Nat, Lib.itoa (m : Int) = Lib.decDigits m := fun m => by unfold Lib.itoa; rw [if_neg (by omega)]; rfl
  rw [hi] at hd2
  have HD1 := Lib.hid hd1
  have HD2 := Lib.hid hd2
  have HTX : Hid ((⟨(Lib.decDigits t).toArray⟩ : ByteArray) ++ ⟨#[64]⟩ ++ ⟨(Lib.decDigits rn).toArray⟩ = ⟨(textI t rn).toArray⟩) := by
    show _ = _
    have e1 : ((⟨(Lib.decDigits t).toArray⟩ : ByteArray) ++ ⟨#[64]⟩) = ⟨(Lib.decDigits t ++ [64]).toArray⟩ := ba_app _ [64]
    rw [e1, ba_app]
    unfold textI
    rw [List.append_assoc]; rfl
  have hs1 : (Lib.decDigits t).length ≤ 18 := dec_len18 (by omega)
  have hs2 : (Lib.decDigits rn).length ≤ 18 := dec_len18 (by omega)
  have hz1 : (⟨(Lib.decDigits t).toArray⟩ : ByteArray).size ≤ 18 := hs1
  have hz2 : (⟨(Lib.decDigits rn).toArray⟩ : ByteArray).size ≤ 18 := hs2
  have HC1 : Hid ((9223372036854775807 < (Lib.decDigits t).length + 1) = False) := by show _ = _; rw [eq_iff_iff]; constructor; (intro h; omega); (intro h; cases h)
  have HC2 : Hid ((9223372036854775807 < (Lib.decDigits t).length + 1 + (Lib.decDigits rn).length) = False) := by show _ = _; rw [eq_iff_iff]; constructor; (intro h; omega); (intro h; cases h)
  have HB := Lib.hid (box_new w rfl t (rn : Int) 24)
  have hb0 := below_alloc w (.cells #[.int .u64 (t : Int), .int .i64 (rn : Int)] 24)
  have HE0 := Lib.hid (hE.below hb0)
  clear hd1 hd2 hi ht hr hE
  unfold idV
  go_enter Tryd.func28, Tryd.ntmps28
  go_wp2_with fail
  refine wp_region_noPanic ?_
  refine wp_region_below (by kernel_rfl) (fun HS0 => ?_)
  refine wpAnyH_take (i := 0) (v := ?_) rfl (by kernel_rfl) (by kernel_rfl) (by kernel_rfl) (fun _ _ _ h => h) (Or.inl ⟨by rfl, ?_⟩) HS0 ?_
  rotate_left
  · intro w hE; go_simp; try with_reducible rfl
  simp only [List.getElem_toArray, List.getElem_cons_succ, List.getElem_cons_zero, Act.put, List.setIfInBounds_toArray, List.set_cons_zero, List.set_cons_succ]
  refine wpAnyH_take (i := 1) (v := ?_) rfl (by kernel_rfl) (by kernel_rfl) (by kernel_rfl) (fun _ _ _ h => h) (Or.inl ⟨by rfl, ?_⟩) HS0 ?_
  rotate_left
  · intro w hE; obtain ⟨p0, p1⟩ := box_keep HB.out hE; go_simp; try with_reducible rfl
  simp only [List.getElem_toArray, List.getElem_cons_succ, List.getElem_cons_zero, Act.put, List.setIfInBounds_toArray, List.set_cons_zero, List.set_cons_succ]
  refine wpAnyH_take (i := 4) (v := ?_) rfl (by kernel_rfl) (by kernel_rfl) (by kernel_rfl) (fun _ _ _ h => h) (Or.inl ⟨by rfl, ?_⟩) HS0 ?_
  rotate_left
  · intro w hE; go_simp; try with_reducible rfl
  simp only [List.getElem_toArray, List.getElem_cons_succ, List.getElem_cons_zero, Act.put, List.setIfInBounds_toArray, List.set_cons_zero, List.set_cons_succ]
  refine wpAnyH_take (i := 5) (v := ?_) rfl (by kernel_rfl) (by kernel_rfl) (by kernel_rfl) (fun _ _ _ h => h) (Or.inl ⟨by rfl, ?_⟩) HS0 ?_
  rotate_left
  · intro w hE; obtain ⟨p0, p1⟩ := box_keep HB.out hE; go_simp; try with_reducible rfl
  simp only [List.getElem_toArray, List.getElem_cons_succ, List.getElem_cons_zero, Act.put, List.setIfInBounds_toArray, List.set_cons_zero, List.set_cons_succ]
  refine wpAnyH_ready (rs := [2]) (by kernel_rfl) (by simp) ?_
  refine AllReadyH.cons rfl (fun K hK => ?_) AllReadyH.nil
  go_simp
  go_at_call 45
  refine (HD1.out _ (HE0.out.below HS0)).mono ?_
  rintro e wA ⟨rfl, hbA⟩
  go_simp
  refine hK.out _ _ (HS0.trans (hbA.mono HS0.size)) (fun HS1 => ?_)
  clear hK
  have hxA := HS0.trans (hbA.mono HS0.size)
  try simp only [List.getElem_toArray, List.getElem_cons_succ, List.getElem_cons_zero, Act.put, List.setIfInBounds_toArray, List.set_cons_zero, List.set_cons_succ]
  refine wpAnyH_take (i := 3) (v := ?_) rfl (by kernel_rfl) (by kernel_rfl) (by kernel_rfl) (fun _ _ _ h => h) (Or.inl ⟨by rfl, ?_⟩) HS1 ?_
  rotate_left
  · intro w hE; have hc := HC1.out; go_simp; try with_reducible rfl
  simp only [List.getElem_toArray, List.getElem_cons_succ, List.getElem_cons_zero, Act.put, List.setIfInBounds_toArray, List.set_cons_zero, List.set_cons_succ]
  refine wpAnyH_ready (rs := [6]) (by kernel_rfl) (by simp) ?_
  refine AllReadyH.cons rfl (fun K hK => ?_) AllReadyH.nil
  go_simp
  go_at_call 24
  refine (HD2.out _ (HE0.out.below hxA)).mono ?_
  rintro e wB ⟨rfl, hbB⟩
  go_simp
  refine hK.out _ _ (hxA.trans (hbB.mono hxA.size)) (fun HS2 => ?_)
  clear hK
  have hxB := hxA.trans (hbB.mono hxA.size)
  try simp only [List.getElem_toArray, List.getElem_cons_succ, List.getElem_cons_zero, Act.put, List.setIfInBounds_toArray, List.set_cons_zero, List.set_cons_succ]
  refine wpAnyH_take (i := 7) (v := ?_) rfl (by kernel_rfl) (by kernel_rfl) (by kernel_rfl) (fun _ _ _ h => h) (Or.inl ⟨by rfl, ?_⟩) HS2 ?_
  rotate_left
  · intro w hE; have hc := HC2.out; go_simp; try with_reducible rfl
  simp only [List.getElem_toArray, List.getElem_cons_succ, List.getElem_cons_zero, Act.put, List.setIfInBounds_toArray, List.set_cons_zero, List.set_cons_succ]
  refine wpAnyH_take (i := 8) (v := ?_) rfl (by kernel_rfl) (by kernel_rfl) (by kernel_rfl) (fun _ _ _ h => h) (Or.inl ⟨by rfl, ?_⟩) HS2 ?_
  rotate_left
  · intro w hE; go_simp; try with_reducible rfl
  simp only [List.getElem_toArray, List.getElem_cons_succ, List.getElem_cons_zero, Act.put, List.setIfInBounds_toArray, List.set_cons_zero, List.set_cons_succ]
  refine wpAnyH_done (by kernel_rfl) ?_ _
  refine NoPanic.normal ?_
  go_wp2
  go_ret
  exact ⟨by rw [← HTX.out]; rfl, hb0.trans (hxB.mono hb0.size)⟩

theorem text_12 : textI 12 3 = [49, 50, 64, 51] := by decide +kernel
set_option maxRecDepth 20000 in
theorem awake_any (w : World) (hE : Env0 w) :
    Calls Tryd.prog 12 #[] w fun e w' => e = .returned (.bool true) ∧ Below w.heap.size w w' := by
  have ht := text_any 12 3 w hE (by omega) (by omega)
  rw [text_12] at ht
  unfold idV at ht
  have HT := Lib.hid ht
  clear ht hE
  go_enter Tryd.func12, Tryd.ntmps12
  go_wp2_with (go_at_call 28; go_must (refine HT.out.mono ?_); rintro e w1 ⟨rfl, hb1⟩)
  go_ret
  exact ⟨rfl, hb1⟩

theorem row_below {w w' : World} {b : Nat} {o : Obj} (h : w.heap[b]? = some o) (hb : Below w.heap.size w w') : w'.heap[b]? = some o :=
  (hb.block b (Array.getElem?_eq_some_iff.1 h).1).trans h
theorem cells2b {w : World} {b : Nat} {x y : Value} {T : TypeId} (h : w.heap[b]? = some (.cells #[x, y] T (0, 0))) : (w.cell? ⟨b, 0, none⟩ = some x ∧ w.cell? ⟨b, 1, none⟩ = some y) ∧ w.frozen? ⟨b, 0, none⟩ = false ∧ w.frozen? ⟨b, 1, none⟩ = false :=
  ⟨⟨by rw [cell_of_row _ _ 0 _ _ _ h]; rfl, by rw [cell_of_row _ _ 1 _ _ _ h]; rfl⟩, by simp [World.frozen?, h], by simp [World.frozen?, h]⟩

set_option maxRecDepth 20000 in
set_option maxHeartbeats 2000000 in
theorem parse_any (l : List UInt8) (w : World) (hE : Env w) (hl : l.length ≤ 100) :
    Calls Tryd.prog 22 #[.string ⟨l.toArray⟩] w fun e w' => e = .returned (parseT (parseV l)) ∧ Below w.heap.size w w' := by
  obtain ⟨a, b, f, hcut, ha, hb, hpv⟩ := parse_cut l
  rw [hpv]
  clear hpv
  have hct : ∀ W, Env W → Calls Tryd.prog 42 #[.string ⟨l.toArray⟩, .string ⟨#[64]⟩] W fun e w' => e = .returned (.tuple #[.string ⟨a.toArray⟩, .string ⟨b.toArray⟩, .bool f]) ∧ Below W.heap.size W w' := fun W hW => by
    have h := cut_any ⟨l.toArray⟩ ⟨#[64]⟩ (by show l.toArray.size ≤ _; simp; omega) W hW.toEnv0
    have e : Lib.cut (⟨l.toArray⟩ : ByteArray).data.toList (⟨#[64]⟩ : ByteArray).data.toList = (a, b, f) := hcut
    rw [e] at h
    exact h
  have hna := fun W hW => number_any a 1099511627776 W hW (by omega) (by omega) (by omega)
  have hnb := fun W hW => number_any b 64 W hW (by omega) (by omega) (by omega)
  have HE := Lib.hid (hE.below (below_alloc w (.cells #[.int .u64 0, .int .i64 0] 24)))
  have HROW := Lib.hid (show (w.alloc (.cells #[.int .u64 0, .int .i64 0] 24)).heap[w.heap.size]? = some (.cells #[.int .u64 0, .int .i64 0] 24 (0, 0)) from heap_new rfl)
  have HB0 := Lib.hid (below_alloc w (.cells #[.int .u64 0, .int .i64 0] 24))
  generalize (⟨l.toArray⟩ : ByteArray) = sl at *
  generalize (⟨a.toArray⟩ : ByteArray) = sa at *
  generalize (⟨b.toArray⟩ : ByteArray) = sb at *
  have HCT := Lib.hid hct
  clear hcut ha hb hE hl hct
  cases hva : numV a 1099511627776 with
  | none =>
    obtain ⟨nb, bb, hnt⟩ := numT_form (numV b 64)
    rw [hva] at hna
    rw [hnt] at hnb
    simp only [numT] at hna
    clear hnt hva
    have HNA := Lib.hid hna
    have HNB := Lib.hid hnb
    clear hna hnb
    go_enter Tryd.func22, Tryd.ntmps22
    go_wp2_with (first
      | (go_at_call 42; go_must (refine (HCT.out _ HE.out).mono ?_); rintro e w1 ⟨rfl, hb1⟩; have HB1 := Lib.hid hb1; clear hb1)
      | (go_at_call 26; (with_reducible refine (HNA.out _ (HE.out.below HB1.out)).mono ?_); rintro e w2 ⟨rfl, hb2⟩; have HB2 := Lib.hid (HB1.out.trans (hb2.mono HB1.out.size)); clear hb2)
      | (go_at_call 26; (with_reducible refine (HNB.out _ (HE.out.below HB2.out)).mono ?_); rintro e w3 ⟨rfl, hb3⟩; have HB3 := Lib.hid (HB2.out.trans (hb3.mono HB2.out.size)); clear hb3; have hrow3 := row_below HROW.out HB3.out; (obtain ⟨⟨p0, p1⟩, q0, q1⟩ := cells2b hrow3); have HROW3 := Lib.hid hrow3; have hlt3 : w.heap.size < w3.heap.size := (Array.getElem?_eq_some_iff.1 HROW3.out).1; clear hrow3))
    obtain ⟨f0, f1, f2⟩ := fin_set_alloc (HB0.out.trans (HB3.out.mono HB0.out.size)) HROW3.out (.int .u64 0) (.int .i64 0) _
    refine bodyPost_ret (results_id2 rfl rfl f1 f2) rfl ?_
    exact ⟨rfl, f0⟩
  | some t =>
    rw [hva] at hna
    have ht := (numV_iff.1 hva).2
    have hwt : IntKind.u64.wrap (t : Int) = (t : Int) := by rw [IntKind.wrap_u64]; omega
    cases hvb : numV b 64 with
    | none =>
      rw [hvb] at hnb
      simp only [numT] at hna hnb
      clear hva hvb
      have HNA := Lib.hid hna
      have HNB := Lib.hid hnb
      clear hna hnb
      go_enter Tryd.func22, Tryd.ntmps22
      go_wp2_with (first
        | (go_at_call 42; go_must (refine (HCT.out _ HE.out).mono ?_); rintro e w1 ⟨rfl, hb1⟩; have HB1 := Lib.hid hb1; clear hb1)
        | (go_at_call 26; (with_reducible refine (HNA.out _ (HE.out.below HB1.out)).mono ?_); rintro e w2 ⟨rfl, hb2⟩; have HB2 := Lib.hid (HB1.out.trans (hb2.mono HB1.out.size)); clear hb2)
        | (go_at_call 26; (with_reducible refine (HNB.out _ (HE.out.below HB2.out)).mono ?_); rintro e w3 ⟨rfl, hb3⟩; have HB3 := Lib.hid (HB2.out.trans (hb3.mono HB2.out.size)); clear hb3; have hrow3 := row_below HROW.out HB3.out; (obtain ⟨⟨p0, p1⟩, q0, q1⟩ := cells2b hrow3); have HROW3 := Lib.hid hrow3; have hlt3 : w.heap.size < w3.heap.size := (Array.getElem?_eq_some_iff.1 HROW3.out).1; clear hrow3))
      obtain ⟨f0, f1, f2⟩ := fin_set_alloc (HB0.out.trans (HB3.out.mono HB0.out.size)) HROW3.out (.int .u64 0) (.int .i64 0) _
      refine bodyPost_ret (results_id2 rfl rfl f1 f2) rfl ?_
      exact ⟨rfl, f0⟩
    | some r =>
      rw [hvb] at hnb
      have hr := (numV_iff.1 hvb).2
      have hrt := fun W => right_any t (r : Int) W
      unfold idV at hrt
      simp only [numT] at hna hnb
      clear hva hvb
      cases hq : rightB t (r : Int) with
      | true =>
        rw [hq] at hrt
        have e0 : (if rightB t (r : Int) = true then some (t, r) else none) = some (t, r) := by rw [hq]; rfl
        show Calls _ _ _ _ (fun e w' => e = .returned (parseT (if rightB t (r : Int) = true then some (t, r) else none)) ∧ Below w.heap.size w w')
        rw [e0]
        clear e0
        have HRT := Lib.hid hrt
        clear hrt
        have HNA := Lib.hid hna
        have HNB := Lib.hid hnb
        clear hna hnb
        go_enter Tryd.func22, Tryd.ntmps22
        go_wp2_with (first
          | (go_at_call 42; go_must (refine (HCT.out _ HE.out).mono ?_); rintro e w1 ⟨rfl, hb1⟩; have HB1 := Lib.hid hb1; clear hb1)
          | (go_at_call 26; (with_reducible refine (HNA.out _ (HE.out.below HB1.out)).mono ?_); rintro e w2 ⟨rfl, hb2⟩; have HB2 := Lib.hid (HB1.out.trans (hb2.mono HB1.out.size)); clear hb2)
          | (go_at_call 26; (with_reducible refine (HNB.out _ (HE.out.below HB2.out)).mono ?_); rintro e w3 ⟨rfl, hb3⟩; have HB3 := Lib.hid (HB2.out.trans (hb3.mono HB2.out.size)); clear hb3; have hrow3 := row_below HROW.out HB3.out; (obtain ⟨⟨p0, p1⟩, q0, q1⟩ := cells2b hrow3); have HROW3 := Lib.hid hrow3; have hlt3 : w.heap.size < w3.heap.size := (Array.getElem?_eq_some_iff.1 HROW3.out).1; clear hrow3)
          | (go_at_call 10; go_must (refine (HRT.out _).mono ?_); rintro e w4 ⟨rfl, hb4⟩; have hrow4 := row_below (heap_old HROW3.out) hb4; have hrow4b := row_below (heap_new (w := w3) rfl) hb4; have HB4 := Lib.hid ((HB0.out.trans (HB3.out.mono HB0.out.size)).trans (((below_alloc w3 _).trans (hb4.mono (by simp))).mono (Nat.le_of_lt hlt3))); clear hb4; (obtain ⟨⟨r0, r1⟩, s0, s1⟩ := cells2b hrow4); (obtain ⟨⟨u0, u1⟩, _, _⟩ := cells2b hrow4b); have HROW4 := Lib.hid hrow4; clear hrow4 hrow4b))
        obtain ⟨f0, f1, f2⟩ := fin_set HB4.out HROW4.out (.int .u64 (t : Int)) (.int .i64 (r : Int))
        refine bodyPost_ret (results_id2 rfl rfl f1 f2) rfl ?_
        exact ⟨rfl, f0⟩
      | false =>
        rw [hq] at hrt
        have e0 : (if rightB t (r : Int) = true then some (t, r) else none) = none := by rw [hq]; rfl
        show Calls _ _ _ _ (fun e w' => e = .returned (parseT (if rightB t (r : Int) = true then some (t, r) else none)) ∧ Below w.heap.size w w')
        rw [e0]
        clear e0
        have HRT := Lib.hid hrt
        clear hrt
        have HNA := Lib.hid hna
        have HNB := Lib.hid hnb
        clear hna hnb
        go_enter Tryd.func22, Tryd.ntmps22
        go_wp2_with (first
          | (go_at_call 42; go_must (refine (HCT.out _ HE.out).mono ?_); rintro e w1 ⟨rfl, hb1⟩; have HB1 := Lib.hid hb1; clear hb1)
          | (go_at_call 26; (with_reducible refine (HNA.out _ (HE.out.below HB1.out)).mono ?_); rintro e w2 ⟨rfl, hb2⟩; have HB2 := Lib.hid (HB1.out.trans (hb2.mono HB1.out.size)); clear hb2)
          | (go_at_call 26; (with_reducible refine (HNB.out _ (HE.out.below HB2.out)).mono ?_); rintro e w3 ⟨rfl, hb3⟩; have HB3 := Lib.hid (HB2.out.trans (hb3.mono HB2.out.size)); clear hb3; have hrow3 := row_below HROW.out HB3.out; (obtain ⟨⟨p0, p1⟩, q0, q1⟩ := cells2b hrow3); have HROW3 := Lib.hid hrow3; have hlt3 : w.heap.size < w3.heap.size := (Array.getElem?_eq_some_iff.1 HROW3.out).1; clear hrow3)
          | (go_at_call 10; go_must (refine (HRT.out _).mono ?_); rintro e w4 ⟨rfl, hb4⟩; have hrow4 := row_below (heap_old HROW3.out) hb4; have hrow4b := row_below (heap_new (w := w3) rfl) hb4; have HB4 := Lib.hid ((HB0.out.trans (HB3.out.mono HB0.out.size)).trans (((below_alloc w3 _).trans (hb4.mono (by simp))).mono (Nat.le_of_lt hlt3))); clear hb4; (obtain ⟨⟨r0, r1⟩, s0, s1⟩ := cells2b hrow4); (obtain ⟨⟨u0, u1⟩, _, _⟩ := cells2b hrow4b); have HROW4 := Lib.hid hrow4; clear hrow4 hrow4b))
        obtain ⟨f0, f1, f2⟩ := fin_set HB4.out HROW4.out (.int .u64 0) (.int .i64 0)
        refine bodyPost_ret (results_id2 rfl rfl f1 f2) rfl ?_
        exact ⟨rfl, f0⟩
end Go.Proofs.YtfgopiopeidfmaaDoor
