/-
The law StampTexts, over contracts of Decimal, Number, Text, Parse and the example.
-/
import Derived.Test.YtfgopiopeidfmaaDoorSRText
namespace Go.Proofs.YtfgopiopeidfmaaDoor
open Go.RowKit Go.Proofs.YtfgopiopeidfmaaDoor.Dig

/-- What the law asks; E: what the world holds. -/
structure TextsOk (E : World → Prop) : Prop where
  keep : ∀ {w w'}, E w → Below w.heap.size w w' → E w'
  decimal : ∀ (n : Int) (w : World), E w → -9223372036854775808 ≤ n → n ≤ 9223372036854775807 →
    Calls Tryd.prog 24 #[.int .i64 n] w fun e w' => e = .returned (.string ⟨(Lib.itoa n).toArray⟩) ∧ Below w.heap.size w w'
  number : ∀ (l : List UInt8) (most : Int) (w : World), E w → l.length ≤ 100 → -9223372036854775808 ≤ most → most ≤ 1125899906842624 →
    Calls Tryd.prog 26 #[.string ⟨l.toArray⟩, .int .i64 most] w fun e w' => e = .returned (numT (numV l most)) ∧ Below w.heap.size w w'
  text : ∀ (t rn : Nat) (w : World), E w → t ≤ 1099511627776 → rn ≤ 64 →
    Calls Tryd.prog 28 #[idV t (rn : Int)] w fun e w' => e = .returned (.string ⟨(textI t rn).toArray⟩) ∧ Below w.heap.size w w'
  parse : ∀ (l : List UInt8) (w : World), E w → l.length ≤ 100 →
    Calls Tryd.prog 22 #[.string ⟨l.toArray⟩] w fun e w' => e = .returned (parseT (parseV l)) ∧ Below w.heap.size w w'
  awake : ∀ w, E w → Calls Tryd.prog 12 #[] w fun e w' => e = .returned (.bool true) ∧ Below w.heap.size w w'

theorem parseT_form (o : Option (Nat × Nat)) : ∃ (x y : Int) (b : Bool), parseT o = .tuple #[.agg #[.int .u64 x, .int .i64 y], .bool b] := by
  rcases o with _ | ⟨t, r⟩
  · exact ⟨_, _, _, rfl⟩
  · exact ⟨_, _, _, rfl⟩
theorem numT_form (o : Option Nat) : ∃ (x : Int) (b : Bool), numT o = .tuple #[.int .i64 x, .bool b] := by
  rcases o with _ | m
  · exact ⟨_, _, rfl⟩
  · exact ⟨_, _, rfl⟩
theorem boxI (w : World) {g : Nat} (hg : g = w.heap.size) (t r : Int) (T : TypeId) : (w.alloc (.cells #[.int .u64 t, .int .i64 r] T)).cell? ⟨g, 0, none⟩ = some (.int .u64 t) ∧ (w.alloc (.cells #[.int .u64 t, .int .i64 r] T)).cell? ⟨g, 1, none⟩ = some (.int .i64 r) := by
  have h1 : (w.alloc (.cells #[.int .u64 t, .int .i64 r] T)).heap[g]? = some (.cells #[.int .u64 t, .int .i64 r] T (0, 0)) := heap_new hg
  exact ⟨by rw [cell_of_row _ _ 0 _ _ _ h1]; rfl, by rw [cell_of_row _ _ 1 _ _ _ h1]; rfl⟩
theorem keep2 {w w' : World} {g : Nat} {x y : Value} (h : w.cell? ⟨g, 0, none⟩ = some x ∧ w.cell? ⟨g, 1, none⟩ = some y) (hb : Below w.heap.size w w') :
    w'.cell? ⟨g, 0, none⟩ = some x ∧ w'.cell? ⟨g, 1, none⟩ = some y :=
  ⟨by rw [bcell hb _ _ (World.block_lt_of_cell? _ _ h.1)]; exact h.1, by rw [bcell hb _ _ (World.block_lt_of_cell? _ _ h.1)]; exact h.2⟩

set_option maxRecDepth 20000 in
set_option maxHeartbeats 4000000 in
theorem texts_fit {E : World → Prop} (K : TextsOk E) (t : Nat) (r n : Int) (l : List UInt8) (most : Int) (hr0 : -9223372036854775808 ≤ r) (hr1 : r ≤ 9223372036854775807) (hn0 : -9223372036854775808 < n) (hn1 : n ≤ 9223372036854775807) (hl : l.length ≤ 100) (hm0 : -9223372036854775808 ≤ most) (hm1 : most ≤ 9223372036854775807)
    (w : World) (hE : E w) :
    Calls Tryd.prog 6 #[idV t r, .int .i64 n, .string ⟨l.toArray⟩, .int .i64 most] w fun e w' => e = .returned (.bool true) ∧ Below w.heap.size w w' := by
  have HKEEP := Lib.hid (fun w w' (h : E w) hb => K.keep (w' := w') h hb)
  have HAW := Lib.hid K.awake
  have HPARSE := Lib.hid (fun w2 => K.parse l w2)
  have HRPARSE := Lib.hid (fun w2 => rparse_form l (by omega) w2)
  have HDEC := Lib.hid (fun w2 h => K.decimal n w2 h (by omega) hn1)
  have HDIG := Lib.hid (fun w2 => digits_any n (by omega) hn1 w2)
  have HL100 := Lib.hid hl
  have HNUM0 := Lib.hid (fun (hm : most ≤ 1125899906842624) w2 h => K.number l most w2 h hl hm0 hm)
  have HRNUM0 := Lib.hid (fun (hm : most ≤ 1125899906842624) w2 => rnumber_form l most (by omega) hm0 hm w2)
  obtain ⟨w0, hw0⟩ : ∃ w0, w0 = w.alloc (.cells #[.int .u64 (t : Int), .int .i64 r] 24) := ⟨_, rfl⟩
  have hb0 : Below w.heap.size w w0 := by rw [hw0]; exact below_alloc _ _
  have HA : Hid (w0.cell? ⟨w.heap.size, 0, none⟩ = some (.int .u64 (t : Int)) ∧ w0.cell? ⟨w.heap.size, 1, none⟩ = some (.int .i64 r)) := by rw [hw0]; exact Lib.hid (boxI w rfl (t : Int) r 24)
  have HE := Lib.hid (K.keep hE hb0)
  have HW0 := Lib.hid hw0
  obtain ⟨pt, pr, pb, hpt⟩ := parseT_form (parseV l)
  have HPT := Lib.hid hpt
  have hsz : (⟨l.toArray⟩ : ByteArray).size = l.length := rfl
  have hnm : ((n : Int) == -9223372036854775808) = false := by simp; omega
  have hright := fun w2 => rright_any t r w2
  unfold idV at hright
  clear hE hw0 hpt
  by_cases hrg : rightB t r = true
  · obtain ⟨rn, rfl⟩ : ∃ rn : Nat, r = (rn : Int) := ⟨r.toNat, by
      unfold rightB at hrg
      simp only [Bool.and_eq_true, decide_eq_true_eq] at hrg
      omega⟩
    have hb : t ≤ 1099511627776 ∧ rn ≤ 64 := by
      unfold rightB at hrg
      simp only [Bool.and_eq_true, decide_eq_true_eq] at hrg
      omega
    rw [hrg] at hright
    have HRIGHT := Lib.hid hright
    have htext := fun w2 h => K.text t rn w2 h hb.1 hb.2
    have hrtext := fun w2 => rtext_form t rn hb.1 hb.2 w2
    unfold idV at htext hrtext
    have HTEXT := Lib.hid htext
    have HRTEXT := Lib.hid hrtext
    have hp2 := fun w2 h => K.parse (textI t rn) w2 h (by
      unfold textI
      have h1 := dec_len18 (m := t) (by omega)
      have h2 := dec_len18 (m := rn) (by omega)
      rw [List.length_append, List.length_cons]
      omega)
    rw [parse_text hrg] at hp2
    unfold parseT idV at hp2
    simp only at hp2
    have HPARSE2 := Lib.hid hp2
    clear hright htext hrtext hp2 hb hr0 hr1 K hn0
    unfold idV
    by_cases hm : most ≤ 1125899906842624
    · have HNUM := Lib.hid (HNUM0.out hm)
      have HRNUM := Lib.hid (HRNUM0.out hm)
      obtain ⟨mv, mb, hnt⟩ := numT_form (numV l most)
      have HNT := Lib.hid hnt
      clear hnt HNUM0 HRNUM0
      go_enter Tryd.func6, Tryd.ntmps6
      go_wp2_with fail
      rw [← HW0.out]
      refine (HPARSE.out _ HE.out HL100.out).mono ?_
      rintro e w1 ⟨he1, hb1⟩
      rw [HPT.out] at he1
      subst he1
      have hx1 := hb1
      go_wp2_with fail
      have hy1 := hx1.trans ((below_alloc w1 (.cells #[.int .u64 pt, .int .i64 pr] 24)).mono hx1.size)
      refine (HRPARSE.out _).mono ?_
      rintro e w2 ⟨he2, hb2⟩
      rw [HPT.out] at he2
      subst he2
      have hx2 := hy1.trans (hb2.mono hy1.size)
      have hbx1 := keep2 (boxI w1 rfl pt pr 24) (hb2.trans ((below_alloc w2 (.cells #[.int .u64 pt, .int .i64 pr] 24)).mono hb2.size))
      obtain ⟨b0, b1⟩ := hbx1
      obtain ⟨c0, c1⟩ := boxI w2 rfl pt pr 24
      go_wp2_with fail
      have hy2 := hx2.trans ((below_alloc w2 (.cells #[.int .u64 pt, .int .i64 pr] 24)).mono hx2.size)
      refine (HDEC.out _ (HKEEP.out _ _ HE.out hy2)).mono ?_
      rintro e w3 ⟨rfl, hb3⟩
      have hx3 := hy2.trans (hb3.mono hy2.size)
      clear b0 b1 c0 c1
      go_wp2_with fail
      refine (HDIG.out _).mono ?_
      rintro e w4 ⟨rfl, hb4⟩
      have hx4 := hx3.trans (hb4.mono hx3.size)
      go_wp2_with fail
      refine (HNUM.out _ (HKEEP.out _ _ HE.out hx4)).mono ?_
      rintro e w5 ⟨he5, hb5⟩
      rw [HNT.out] at he5
      subst he5
      have hx5 := hx4.trans (hb5.mono hx4.size)
      go_wp2_with fail
      refine (HRNUM.out _).mono ?_
      rintro e w6 ⟨he6, hb6⟩
      rw [HNT.out] at he6
      subst he6
      have hx6 := hx5.trans (hb6.mono hx5.size)
      obtain ⟨a0, a1⟩ := keep2 HA.out hx6
      go_wp2_with fail
      refine (HRIGHT.out _).mono ?_
      rintro e w7 ⟨rfl, hb7⟩
      have hx7 := hx6.trans (hb7.mono hx6.size)
      clear a0 a1
      obtain ⟨a0, a1⟩ := keep2 HA.out hx7
      go_wp2_with fail
      refine (HTEXT.out _ (HKEEP.out _ _ HE.out hx7)).mono ?_
      rintro e w8 ⟨rfl, hb8⟩
      have hx8 := hx7.trans (hb8.mono hx7.size)
      clear a0 a1
      go_wp2_with fail
      refine (HPARSE2.out _ (HKEEP.out _ _ HE.out hx8)).mono ?_
      rintro e w9 ⟨rfl, hb9⟩
      have hx9 := hx8.trans (hb9.mono hx8.size)
      obtain ⟨z0, z1⟩ := boxI w9 rfl (t : Int) (rn : Int) 24
      go_wp2_with fail
      obtain ⟨wd, hwd⟩ : ∃ wd, wd = w9.alloc (.cells #[.int .u64 (t : Int), .int .i64 (rn : Int)] 24) := ⟨_, rfl⟩
      rw [← hwd]
      have hxd : Below w0.heap.size w0 wd := by rw [hwd]; exact hx9.trans ((below_alloc w9 _).mono hx9.size)
      have HZ : Hid (wd.cell? ⟨w9.heap.size, 0, none⟩ = some (.int .u64 (t : Int)) ∧ wd.cell? ⟨w9.heap.size, 1, none⟩ = some (.int .i64 (rn : Int))) := by rw [hwd]; exact Lib.hid ⟨z0, z1⟩
      have HAD := Lib.hid (keep2 HA.out hxd)
      clear hwd z0 z1
      refine wp_region_noPanic ?_
      refine wp_region_below (by kernel_rfl) (fun HS0 => ?_)
      refine wpAnyH_take (i := 0) (v := ?_) rfl (by kernel_rfl) (by kernel_rfl) (by kernel_rfl) (fun _ _ _ h => h) (Or.inl ⟨by rfl, ?_⟩) HS0 ?_
      rotate_left
      · intro w hE; obtain ⟨a0, a1⟩ := keep2 HAD.out (hE); go_simp; try with_reducible rfl
      simp only [List.getElem_toArray, List.getElem_cons_succ, List.getElem_cons_zero, Act.put, List.setIfInBounds_toArray, List.set_cons_zero, List.set_cons_succ]
      refine wpAnyH_take (i := 2) (v := ?_) rfl (by kernel_rfl) (by kernel_rfl) (by kernel_rfl) (fun _ _ _ h => h) (Or.inl ⟨by rfl, ?_⟩) HS0 ?_
      rotate_left
      · intro w hE; obtain ⟨a0, a1⟩ := keep2 HAD.out (hE); go_simp; try with_reducible rfl
      simp only [List.getElem_toArray, List.getElem_cons_succ, List.getElem_cons_zero, Act.put, List.setIfInBounds_toArray, List.set_cons_zero, List.set_cons_succ]
      refine wpAnyH_ready (rs := [1]) (by kernel_rfl) (by simp) ?_
      refine AllReadyH.cons rfl (fun K hK => ?_) AllReadyH.nil
      go_simp
      go_at_call 28
      refine (HTEXT.out _ (HKEEP.out _ _ HE.out (hxd.trans (HS0.mono hxd.size)))).mono ?_
      rintro e wA ⟨rfl, hbA⟩
      go_simp
      refine hK.out _ _ (HS0.trans hbA) (fun HS1 => ?_)
      clear hK
      have hxA := HS0.trans hbA
      try simp only [List.getElem_toArray, List.getElem_cons_succ, List.getElem_cons_zero, Act.put, List.setIfInBounds_toArray, List.set_cons_zero, List.set_cons_succ]
      refine wpAnyH_ready (rs := [3]) (by kernel_rfl) (by simp) ?_
      refine AllReadyH.cons rfl (fun K hK => ?_) AllReadyH.nil
      go_simp
      go_at_call 29
      refine (HRTEXT.out _).mono ?_
      rintro e wB ⟨rfl, hbB⟩
      go_simp
      refine hK.out _ _ (hxA.trans (hbB.mono hxA.size)) (fun HS2 => ?_)
      clear hK
      have hxB := hxA.trans (hbB.mono hxA.size)
      try simp only [List.getElem_toArray, List.getElem_cons_succ, List.getElem_cons_zero, Act.put, List.setIfInBounds_toArray, List.set_cons_zero, List.set_cons_succ]
      refine wpAnyH_take (i := 4) (v := ?_) rfl (by kernel_rfl) (by kernel_rfl) (by kernel_rfl) (fun _ _ _ h => h) (Or.inl ⟨by rfl, ?_⟩) HS2 ?_
      rotate_left
      · intro w hE; go_simp; try with_reducible rfl
      simp only [List.getElem_toArray, List.getElem_cons_succ, List.getElem_cons_zero, Act.put, List.setIfInBounds_toArray, List.set_cons_zero, List.set_cons_succ]
      refine wpAnyH_take (i := 5) (v := ?_) rfl (by kernel_rfl) (by kernel_rfl) (by kernel_rfl) (fun _ _ _ h => h) (Or.inl ⟨by rfl, ?_⟩) HS2 ?_
      rotate_left
      · intro w hE; go_simp; try with_reducible rfl
      simp only [List.getElem_toArray, List.getElem_cons_succ, List.getElem_cons_zero, Act.put, List.setIfInBounds_toArray, List.set_cons_zero, List.set_cons_succ]
      refine wpAnyH_take (i := 6) (v := ?_) rfl (by kernel_rfl) (by kernel_rfl) (by kernel_rfl) (fun _ _ _ h => h) (Or.inl ⟨by rfl, ?_⟩) HS2 ?_
      rotate_left
      · intro w hE; obtain ⟨z0, z1⟩ := keep2 HZ.out (hE); go_simp; try with_reducible rfl
      simp only [List.getElem_toArray, List.getElem_cons_succ, List.getElem_cons_zero, Act.put, List.setIfInBounds_toArray, List.set_cons_zero, List.set_cons_succ]
      refine wpAnyH_take (i := 7) (v := ?_) rfl (by kernel_rfl) (by kernel_rfl) (by kernel_rfl) (fun _ _ _ h => h) (Or.inl ⟨by rfl, ?_⟩) HS2 ?_
      rotate_left
      · intro w hE; obtain ⟨a0, a1⟩ := keep2 HAD.out (hE); go_simp; try with_reducible rfl
      simp only [List.getElem_toArray, List.getElem_cons_succ, List.getElem_cons_zero, Act.put, List.setIfInBounds_toArray, List.set_cons_zero, List.set_cons_succ]
      refine wpAnyH_take (i := 8) (v := ?_) rfl (by kernel_rfl) (by kernel_rfl) (by kernel_rfl) (fun _ _ _ h => h) (Or.inl ⟨by rfl, ?_⟩) HS2 ?_
      rotate_left
      · intro w hE; go_simp; try with_reducible rfl
      simp only [List.getElem_toArray, List.getElem_cons_succ, List.getElem_cons_zero, Act.put, List.setIfInBounds_toArray, List.set_cons_zero, List.set_cons_succ]
      refine wpAnyH_take (i := 9) (v := ?_) rfl (by kernel_rfl) (by kernel_rfl) (by kernel_rfl) (fun _ _ _ h => h) (Or.inl ⟨by rfl, ?_⟩) HS2 ?_
      rotate_left
      · intro w hE; go_simp; try with_reducible rfl
      simp only [List.getElem_toArray, List.getElem_cons_succ, List.getElem_cons_zero, Act.put, List.setIfInBounds_toArray, List.set_cons_zero, List.set_cons_succ]
      refine wpAnyH_take (i := 10) (v := ?_) rfl (by kernel_rfl) (by kernel_rfl) (by kernel_rfl) (fun _ _ _ h => h) (Or.inl ⟨by rfl, ?_⟩) HS2 ?_
      rotate_left
      · intro w hE; go_simp; try with_reducible rfl
      simp only [List.getElem_toArray, List.getElem_cons_succ, List.getElem_cons_zero, Act.put, List.setIfInBounds_toArray, List.set_cons_zero, List.set_cons_succ]
      refine wpAnyH_take (i := 11) (v := ?_) rfl (by kernel_rfl) (by kernel_rfl) (by kernel_rfl) (fun _ _ _ h => h) (Or.inl ⟨by rfl, ?_⟩) HS2 ?_
      rotate_left
      · intro w hE; go_simp; try with_reducible rfl
      simp only [List.getElem_toArray, List.getElem_cons_succ, List.getElem_cons_zero, Act.put, List.setIfInBounds_toArray, List.set_cons_zero, List.set_cons_succ]
      refine wpAnyH_take (i := 12) (v := ?_) rfl (by kernel_rfl) (by kernel_rfl) (by kernel_rfl) (fun _ _ _ h => h) (Or.inl ⟨by rfl, ?_⟩) HS2 ?_
      rotate_left
      · intro w hE; go_simp; try with_reducible rfl
      simp only [List.getElem_toArray, List.getElem_cons_succ, List.getElem_cons_zero, Act.put, List.setIfInBounds_toArray, List.set_cons_zero, List.set_cons_succ]
      refine wpAnyH_take (i := 13) (v := ?_) rfl (by kernel_rfl) (by kernel_rfl) (by kernel_rfl) (fun _ _ _ h => h) (Or.inl ⟨by rfl, ?_⟩) HS2 ?_
      rotate_left
      · intro w hE; go_simp; try with_reducible rfl
      simp only [List.getElem_toArray, List.getElem_cons_succ, List.getElem_cons_zero, Act.put, List.setIfInBounds_toArray, List.set_cons_zero, List.set_cons_succ]
      refine wpAnyH_ready (rs := [14]) (by kernel_rfl) (by simp) ?_
      refine AllReadyH.cons rfl (fun K hK => ?_) AllReadyH.nil
      go_simp
      go_at_call 12
      refine (HAW.out _ (HKEEP.out _ _ HE.out (hxd.trans (hxB.mono hxd.size)))).mono ?_
      rintro e wC ⟨rfl, hbC⟩
      go_simp
      refine hK.out _ _ (hxB.trans (hbC.mono hxB.size)) (fun HS3 => ?_)
      clear hK
      have hxC := hxB.trans (hbC.mono hxB.size)
      try simp only [List.getElem_toArray, List.getElem_cons_succ, List.getElem_cons_zero, Act.put, List.setIfInBounds_toArray, List.set_cons_zero, List.set_cons_succ]
      refine wpAnyH_take (i := 15) (v := ?_) rfl (by kernel_rfl) (by kernel_rfl) (by kernel_rfl) (fun _ _ _ h => h) (Or.inl ⟨by rfl, ?_⟩) HS3 ?_
      rotate_left
      · intro w hE; go_simp; try with_reducible rfl
      simp only [List.getElem_toArray, List.getElem_cons_succ, List.getElem_cons_zero, Act.put, List.setIfInBounds_toArray, List.set_cons_zero, List.set_cons_succ]
      refine wpAnyH_take (i := 16) (v := ?_) rfl (by kernel_rfl) (by kernel_rfl) (by kernel_rfl) (fun _ _ _ h => h) (Or.inl ⟨by rfl, ?_⟩) HS3 ?_
      rotate_left
      · intro w hE; go_simp; try with_reducible rfl
      simp only [List.getElem_toArray, List.getElem_cons_succ, List.getElem_cons_zero, Act.put, List.setIfInBounds_toArray, List.set_cons_zero, List.set_cons_succ]
      refine wpAnyH_done (by kernel_rfl) ?_ _
      refine NoPanic.normal ?_
      go_wp2
      go_ret
      exact ⟨rfl, hb0.trans ((hxd.trans (hxC.mono hxd.size)).mono hb0.size)⟩
    · have hm2 : 1125899906842624 < most := by omega
      clear hm HNUM0 HRNUM0
      clear hm0
      go_enter Tryd.func6, Tryd.ntmps6
      go_wp2_with fail
      rw [← HW0.out]
      refine (HPARSE.out _ HE.out HL100.out).mono ?_
      rintro e w1 ⟨he1, hb1⟩
      rw [HPT.out] at he1
      subst he1
      have hx1 := hb1
      go_wp2_with fail
      have hy1 := hx1.trans ((below_alloc w1 (.cells #[.int .u64 pt, .int .i64 pr] 24)).mono hx1.size)
      refine (HRPARSE.out _).mono ?_
      rintro e w2 ⟨he2, hb2⟩
      rw [HPT.out] at he2
      subst he2
      have hx2 := hy1.trans (hb2.mono hy1.size)
      have hbx1 := keep2 (boxI w1 rfl pt pr 24) (hb2.trans ((below_alloc w2 (.cells #[.int .u64 pt, .int .i64 pr] 24)).mono hb2.size))
      obtain ⟨b0, b1⟩ := hbx1
      obtain ⟨c0, c1⟩ := boxI w2 rfl pt pr 24
      go_wp2_with fail
      have hy2 := hx2.trans ((below_alloc w2 (.cells #[.int .u64 pt, .int .i64 pr] 24)).mono hx2.size)
      refine (HDEC.out _ (HKEEP.out _ _ HE.out hy2)).mono ?_
      rintro e w3 ⟨rfl, hb3⟩
      have hx3 := hy2.trans (hb3.mono hy2.size)
      clear b0 b1 c0 c1
      go_wp2_with fail
      refine (HDIG.out _).mono ?_
      rintro e w4 ⟨rfl, hb4⟩
      have hx4 := hx3.trans (hb4.mono hx3.size)
      obtain ⟨a0, a1⟩ := keep2 HA.out hx4
      go_wp2_with fail
      refine (HRIGHT.out _).mono ?_
      rintro e w7 ⟨rfl, hb7⟩
      have hx7 := hx4.trans (hb7.mono hx4.size)
      clear a0 a1
      obtain ⟨a0, a1⟩ := keep2 HA.out hx7
      go_wp2_with fail
      refine (HTEXT.out _ (HKEEP.out _ _ HE.out hx7)).mono ?_
      rintro e w8 ⟨rfl, hb8⟩
      have hx8 := hx7.trans (hb8.mono hx7.size)
      clear a0 a1
      go_wp2_with fail
      refine (HPARSE2.out _ (HKEEP.out _ _ HE.out hx8)).mono ?_
      rintro e w9 ⟨rfl, hb9⟩
      have hx9 := hx8.trans (hb9.mono hx8.size)
      obtain ⟨z0, z1⟩ := boxI w9 rfl (t : Int) (rn : Int) 24
      go_wp2_with fail
      obtain ⟨wd, hwd⟩ : ∃ wd, wd = w9.alloc (.cells #[.int .u64 (t : Int), .int .i64 (rn : Int)] 24) := ⟨_, rfl⟩
      rw [← hwd]
      have hxd : Below w0.heap.size w0 wd := by rw [hwd]; exact hx9.trans ((below_alloc w9 _).mono hx9.size)
      have HZ : Hid (wd.cell? ⟨w9.heap.size, 0, none⟩ = some (.int .u64 (t : Int)) ∧ wd.cell? ⟨w9.heap.size, 1, none⟩ = some (.int .i64 (rn : Int))) := by rw [hwd]; exact Lib.hid ⟨z0, z1⟩
      have HAD := Lib.hid (keep2 HA.out hxd)
      clear hwd z0 z1
      refine wp_region_noPanic ?_
      refine wp_region_below (by kernel_rfl) (fun HS0 => ?_)
      refine wpAnyH_take (i := 0) (v := ?_) rfl (by kernel_rfl) (by kernel_rfl) (by kernel_rfl) (fun _ _ _ h => h) (Or.inl ⟨by rfl, ?_⟩) HS0 ?_
      rotate_left
      · intro w hE; obtain ⟨a0, a1⟩ := keep2 HAD.out (hE); go_simp; try with_reducible rfl
      simp only [List.getElem_toArray, List.getElem_cons_succ, List.getElem_cons_zero, Act.put, List.setIfInBounds_toArray, List.set_cons_zero, List.set_cons_succ]
      refine wpAnyH_take (i := 2) (v := ?_) rfl (by kernel_rfl) (by kernel_rfl) (by kernel_rfl) (fun _ _ _ h => h) (Or.inl ⟨by rfl, ?_⟩) HS0 ?_
      rotate_left
      · intro w hE; obtain ⟨a0, a1⟩ := keep2 HAD.out (hE); go_simp; try with_reducible rfl
      simp only [List.getElem_toArray, List.getElem_cons_succ, List.getElem_cons_zero, Act.put, List.setIfInBounds_toArray, List.set_cons_zero, List.set_cons_succ]
      refine wpAnyH_ready (rs := [1]) (by kernel_rfl) (by simp) ?_
      refine AllReadyH.cons rfl (fun K hK => ?_) AllReadyH.nil
      go_simp
      go_at_call 28
      refine (HTEXT.out _ (HKEEP.out _ _ HE.out (hxd.trans (HS0.mono hxd.size)))).mono ?_
      rintro e wA ⟨rfl, hbA⟩
      go_simp
      refine hK.out _ _ (HS0.trans hbA) (fun HS1 => ?_)
      clear hK
      have hxA := HS0.trans hbA
      try simp only [List.getElem_toArray, List.getElem_cons_succ, List.getElem_cons_zero, Act.put, List.setIfInBounds_toArray, List.set_cons_zero, List.set_cons_succ]
      refine wpAnyH_ready (rs := [3]) (by kernel_rfl) (by simp) ?_
      refine AllReadyH.cons rfl (fun K hK => ?_) AllReadyH.nil
      go_simp
      go_at_call 29
      refine (HRTEXT.out _).mono ?_
      rintro e wB ⟨rfl, hbB⟩
      go_simp
      refine hK.out _ _ (hxA.trans (hbB.mono hxA.size)) (fun HS2 => ?_)
      clear hK
      have hxB := hxA.trans (hbB.mono hxA.size)
      try simp only [List.getElem_toArray, List.getElem_cons_succ, List.getElem_cons_zero, Act.put, List.setIfInBounds_toArray, List.set_cons_zero, List.set_cons_succ]
      refine wpAnyH_take (i := 4) (v := ?_) rfl (by kernel_rfl) (by kernel_rfl) (by kernel_rfl) (fun _ _ _ h => h) (Or.inl ⟨by rfl, ?_⟩) HS2 ?_
      rotate_left
      · intro w hE; go_simp; try with_reducible rfl
      simp only [List.getElem_toArray, List.getElem_cons_succ, List.getElem_cons_zero, Act.put, List.setIfInBounds_toArray, List.set_cons_zero, List.set_cons_succ]
      refine wpAnyH_take (i := 5) (v := ?_) rfl (by kernel_rfl) (by kernel_rfl) (by kernel_rfl) (fun _ _ _ h => h) (Or.inl ⟨by rfl, ?_⟩) HS2 ?_
      rotate_left
      · intro w hE; go_simp; try with_reducible rfl
      simp only [List.getElem_toArray, List.getElem_cons_succ, List.getElem_cons_zero, Act.put, List.setIfInBounds_toArray, List.set_cons_zero, List.set_cons_succ]
      refine wpAnyH_take (i := 6) (v := ?_) rfl (by kernel_rfl) (by kernel_rfl) (by kernel_rfl) (fun _ _ _ h => h) (Or.inl ⟨by rfl, ?_⟩) HS2 ?_
      rotate_left
      · intro w hE; obtain ⟨z0, z1⟩ := keep2 HZ.out (hE); go_simp; try with_reducible rfl
      simp only [List.getElem_toArray, List.getElem_cons_succ, List.getElem_cons_zero, Act.put, List.setIfInBounds_toArray, List.set_cons_zero, List.set_cons_succ]
      refine wpAnyH_take (i := 7) (v := ?_) rfl (by kernel_rfl) (by kernel_rfl) (by kernel_rfl) (fun _ _ _ h => h) (Or.inl ⟨by rfl, ?_⟩) HS2 ?_
      rotate_left
      · intro w hE; obtain ⟨a0, a1⟩ := keep2 HAD.out (hE); go_simp; try with_reducible rfl
      simp only [List.getElem_toArray, List.getElem_cons_succ, List.getElem_cons_zero, Act.put, List.setIfInBounds_toArray, List.set_cons_zero, List.set_cons_succ]
      refine wpAnyH_take (i := 8) (v := ?_) rfl (by kernel_rfl) (by kernel_rfl) (by kernel_rfl) (fun _ _ _ h => h) (Or.inl ⟨by rfl, ?_⟩) HS2 ?_
      rotate_left
      · intro w hE; go_simp; try with_reducible rfl
      simp only [List.getElem_toArray, List.getElem_cons_succ, List.getElem_cons_zero, Act.put, List.setIfInBounds_toArray, List.set_cons_zero, List.set_cons_succ]
      refine wpAnyH_take (i := 9) (v := ?_) rfl (by kernel_rfl) (by kernel_rfl) (by kernel_rfl) (fun _ _ _ h => h) (Or.inl ⟨by rfl, ?_⟩) HS2 ?_
      rotate_left
      · intro w hE; go_simp; try with_reducible rfl
      simp only [List.getElem_toArray, List.getElem_cons_succ, List.getElem_cons_zero, Act.put, List.setIfInBounds_toArray, List.set_cons_zero, List.set_cons_succ]
      refine wpAnyH_take (i := 10) (v := ?_) rfl (by kernel_rfl) (by kernel_rfl) (by kernel_rfl) (fun _ _ _ h => h) (Or.inl ⟨by rfl, ?_⟩) HS2 ?_
      rotate_left
      · intro w hE; go_simp; try with_reducible rfl
      simp only [List.getElem_toArray, List.getElem_cons_succ, List.getElem_cons_zero, Act.put, List.setIfInBounds_toArray, List.set_cons_zero, List.set_cons_succ]
      refine wpAnyH_take (i := 11) (v := ?_) rfl (by kernel_rfl) (by kernel_rfl) (by kernel_rfl) (fun _ _ _ h => h) (Or.inl ⟨by rfl, ?_⟩) HS2 ?_
      rotate_left
      · intro w hE; go_simp; try with_reducible rfl
      simp only [List.getElem_toArray, List.getElem_cons_succ, List.getElem_cons_zero, Act.put, List.setIfInBounds_toArray, List.set_cons_zero, List.set_cons_succ]
      refine wpAnyH_take (i := 12) (v := ?_) rfl (by kernel_rfl) (by kernel_rfl) (by kernel_rfl) (fun _ _ _ h => h) (Or.inl ⟨by rfl, ?_⟩) HS2 ?_
      rotate_left
      · intro w hE; go_simp; try with_reducible rfl
      simp only [List.getElem_toArray, List.getElem_cons_succ, List.getElem_cons_zero, Act.put, List.setIfInBounds_toArray, List.set_cons_zero, List.set_cons_succ]
      refine wpAnyH_take (i := 13) (v := ?_) rfl (by kernel_rfl) (by kernel_rfl) (by kernel_rfl) (fun _ _ _ h => h) (Or.inl ⟨by rfl, ?_⟩) HS2 ?_
      rotate_left
      · intro w hE; go_simp; try with_reducible rfl
      simp only [List.getElem_toArray, List.getElem_cons_succ, List.getElem_cons_zero, Act.put, List.setIfInBounds_toArray, List.set_cons_zero, List.set_cons_succ]
      refine wpAnyH_ready (rs := [14]) (by kernel_rfl) (by simp) ?_
      refine AllReadyH.cons rfl (fun K hK => ?_) AllReadyH.nil
      go_simp
      go_at_call 12
      refine (HAW.out _ (HKEEP.out _ _ HE.out (hxd.trans (hxB.mono hxd.size)))).mono ?_
      rintro e wC ⟨rfl, hbC⟩
      go_simp
      refine hK.out _ _ (hxB.trans (hbC.mono hxB.size)) (fun HS3 => ?_)
      clear hK
      have hxC := hxB.trans (hbC.mono hxB.size)
      try simp only [List.getElem_toArray, List.getElem_cons_succ, List.getElem_cons_zero, Act.put, List.setIfInBounds_toArray, List.set_cons_zero, List.set_cons_succ]
      refine wpAnyH_take (i := 15) (v := ?_) rfl (by kernel_rfl) (by kernel_rfl) (by kernel_rfl) (fun _ _ _ h => h) (Or.inl ⟨by rfl, ?_⟩) HS3 ?_
      rotate_left
      · intro w hE; go_simp; try with_reducible rfl
      simp only [List.getElem_toArray, List.getElem_cons_succ, List.getElem_cons_zero, Act.put, List.setIfInBounds_toArray, List.set_cons_zero, List.set_cons_succ]
      refine wpAnyH_take (i := 16) (v := ?_) rfl (by kernel_rfl) (by kernel_rfl) (by kernel_rfl) (fun _ _ _ h => h) (Or.inl ⟨by rfl, ?_⟩) HS3 ?_
      rotate_left
      · intro w hE; go_simp; try with_reducible rfl
      simp only [List.getElem_toArray, List.getElem_cons_succ, List.getElem_cons_zero, Act.put, List.setIfInBounds_toArray, List.set_cons_zero, List.set_cons_succ]
      refine wpAnyH_done (by kernel_rfl) ?_ _
      refine NoPanic.normal ?_
      go_wp2
      go_ret
      exact ⟨rfl, hb0.trans ((hxd.trans (hxC.mono hxd.size)).mono hb0.size)⟩
  · have hrf : rightB t r = false := by simpa using hrg
    rw [hrf] at hright
    have HRIGHT := Lib.hid hright
    clear hright hrg hrf K hn0
    unfold idV
    by_cases hm : most ≤ 1125899906842624
    · have HNUM := Lib.hid (HNUM0.out hm)
      have HRNUM := Lib.hid (HRNUM0.out hm)
      obtain ⟨mv, mb, hnt⟩ := numT_form (numV l most)
      have HNT := Lib.hid hnt
      clear hnt HNUM0 HRNUM0
      go_enter Tryd.func6, Tryd.ntmps6
      go_wp2_with fail
      rw [← HW0.out]
      refine (HPARSE.out _ HE.out HL100.out).mono ?_
      rintro e w1 ⟨he1, hb1⟩
      rw [HPT.out] at he1
      subst he1
      have hx1 := hb1
      go_wp2_with fail
      have hy1 := hx1.trans ((below_alloc w1 (.cells #[.int .u64 pt, .int .i64 pr] 24)).mono hx1.size)
      refine (HRPARSE.out _).mono ?_
      rintro e w2 ⟨he2, hb2⟩
      rw [HPT.out] at he2
      subst he2
      have hx2 := hy1.trans (hb2.mono hy1.size)
      have hbx1 := keep2 (boxI w1 rfl pt pr 24) (hb2.trans ((below_alloc w2 (.cells #[.int .u64 pt, .int .i64 pr] 24)).mono hb2.size))
      obtain ⟨b0, b1⟩ := hbx1
      obtain ⟨c0, c1⟩ := boxI w2 rfl pt pr 24
      go_wp2_with fail
      have hy2 := hx2.trans ((below_alloc w2 (.cells #[.int .u64 pt, .int .i64 pr] 24)).mono hx2.size)
      refine (HDEC.out _ (HKEEP.out _ _ HE.out hy2)).mono ?_
      rintro e w3 ⟨rfl, hb3⟩
      have hx3 := hy2.trans (hb3.mono hy2.size)
      clear b0 b1 c0 c1
      go_wp2_with fail
      refine (HDIG.out _).mono ?_
      rintro e w4 ⟨rfl, hb4⟩
      have hx4 := hx3.trans (hb4.mono hx3.size)
      go_wp2_with fail
      refine (HNUM.out _ (HKEEP.out _ _ HE.out hx4)).mono ?_
      rintro e w5 ⟨he5, hb5⟩
      rw [HNT.out] at he5
      subst he5
      have hx5 := hx4.trans (hb5.mono hx4.size)
      go_wp2_with fail
      refine (HRNUM.out _).mono ?_
      rintro e w6 ⟨he6, hb6⟩
      rw [HNT.out] at he6
      subst he6
      have hx6 := hx5.trans (hb6.mono hx5.size)
      obtain ⟨a0, a1⟩ := keep2 HA.out hx6
      go_wp2_with fail
      refine (HRIGHT.out _).mono ?_
      rintro e w7 ⟨rfl, hb7⟩
      have hx7 := hx6.trans (hb7.mono hx6.size)
      clear a0 a1
      go_wp2_with fail
      refine (HAW.out _ (HKEEP.out _ _ HE.out hx7)).mono ?_
      rintro e w8 ⟨rfl, hb8⟩
      go_wp2
      go_ret
      exact ⟨rfl, hb0.trans ((hx7.trans (hb8.mono hx7.size)).mono hb0.size)⟩
    · have hm2 : 1125899906842624 < most := by omega
      clear hm HNUM0 HRNUM0
      clear hm0
      go_enter Tryd.func6, Tryd.ntmps6
      go_wp2_with fail
      rw [← HW0.out]
      refine (HPARSE.out _ HE.out HL100.out).mono ?_
      rintro e w1 ⟨he1, hb1⟩
      rw [HPT.out] at he1
      subst he1
      have hx1 := hb1
      go_wp2_with fail
      have hy1 := hx1.trans ((below_alloc w1 (.cells #[.int .u64 pt, .int .i64 pr] 24)).mono hx1.size)
      refine (HRPARSE.out _).mono ?_
      rintro e w2 ⟨he2, hb2⟩
      rw [HPT.out] at he2
      subst he2
      have hx2 := hy1.trans (hb2.mono hy1.size)
      have hbx1 := keep2 (boxI w1 rfl pt pr 24) (hb2.trans ((below_alloc w2 (.cells #[.int .u64 pt, .int .i64 pr] 24)).mono hb2.size))
      obtain ⟨b0, b1⟩ := hbx1
      obtain ⟨c0, c1⟩ := boxI w2 rfl pt pr 24
      go_wp2_with fail
      have hy2 := hx2.trans ((below_alloc w2 (.cells #[.int .u64 pt, .int .i64 pr] 24)).mono hx2.size)
      refine (HDEC.out _ (HKEEP.out _ _ HE.out hy2)).mono ?_
      rintro e w3 ⟨rfl, hb3⟩
      have hx3 := hy2.trans (hb3.mono hy2.size)
      clear b0 b1 c0 c1
      go_wp2_with fail
      refine (HDIG.out _).mono ?_
      rintro e w4 ⟨rfl, hb4⟩
      have hx4 := hx3.trans (hb4.mono hx3.size)
      obtain ⟨a0, a1⟩ := keep2 HA.out hx4
      go_wp2_with fail
      refine (HRIGHT.out _).mono ?_
      rintro e w7 ⟨rfl, hb7⟩
      have hx7 := hx4.trans (hb7.mono hx4.size)
      clear a0 a1
      go_wp2_with fail
      refine (HAW.out _ (HKEEP.out _ _ HE.out hx7)).mono ?_
      rintro e w8 ⟨rfl, hb8⟩
      go_wp2
      go_ret
      exact ⟨rfl, hb0.trans ((hx7.trans (hb8.mono hx7.size)).mono hb0.size)⟩

set_option maxRecDepth 20000 in
set_option maxHeartbeats 1000000 in
theorem texts_any {E : World → Prop} (K : TextsOk E) (t : Nat) (r n : Int) (s : ByteArray) (most : Int) (hr0 : -9223372036854775808 ≤ r) (hr1 : r ≤ 9223372036854775807) (hn0 : -9223372036854775808 ≤ n) (hn1 : n ≤ 9223372036854775807) (hs : s.size ≤ 9223372036854775807) (hm0 : -9223372036854775808 ≤ most) (hm1 : most ≤ 9223372036854775807)
    (w : World) (hE : E w) :
    Calls Tryd.prog 6 #[idV t r, .int .i64 n, .string s, .int .i64 most] w fun e w' => e = .returned (.bool true) ∧ Below w.heap.size w w' := by
  by_cases hl : s.size ≤ 100
  · by_cases hn : n = -9223372036854775808
    · have haw := K.awake _ (K.keep hE (below_alloc w (.cells #[.int .u64 (t : Int), .int .i64 r] 24)))
      have HAW := Lib.hid haw
      have hnm : ((n : Int) == -9223372036854775808) = true := by simp; omega
      clear haw hE K hn hn0 hs
      unfold idV
      go_enter Tryd.func6, Tryd.ntmps6
      go_wp2_with (go_at_call 12; (with_reducible refine (HAW.out).mono ?_); rintro e w1 ⟨rfl, hb1⟩)
      go_ret
      exact ⟨rfl, (below_alloc w _).trans (hb1.mono (below_alloc w _).size)⟩
    · have e : s = ⟨s.data.toList.toArray⟩ := by cases s; simp
      have h := texts_fit K t r n s.data.toList most hr0 hr1 (by omega) hn1 (by simpa using hl) hm0 hm1 w hE
      rw [← e] at h
      exact h
  · have haw := K.awake _ (K.keep hE (below_alloc w (.cells #[.int .u64 (t : Int), .int .i64 r] 24)))
    have HAW := Lib.hid haw
    have hbig : 100 < s.size := by omega
    clear haw hE K hl hn0
    unfold idV
    go_enter Tryd.func6, Tryd.ntmps6
    go_wp2_with (go_at_call 12; (with_reducible refine (HAW.out).mono ?_); rintro e w1 ⟨rfl, hb1⟩)
    go_ret
    exact ⟨rfl, (below_alloc w _).trans (hb1.mono (below_alloc w _).size)⟩
end Go.Proofs.YtfgopiopeidfmaaDoor
