/-
The reference's Parse, by its contract: it reads just the numbers' texts.
-/
import Derived.Test.YtkppkojpdhgicaaDoorGWhole
import Derived.Test.YtkppkojpdhgicaaDoorGSplit
namespace Go.Proofs.YtkppkojpdhgicaaDoor
open Go.RowKit Go.Proofs.YtkppkojpdhgicaaDoor.Gf

/-- What the reference's Parse answers. -/
def ParseROk (l : List UInt8) (e : Ending) : Prop :=
  (∃ a b, Rg a b ∧ l = textL a b ∧ e = .returned (.tuple #[.agg #[.int .i64 a, .int .i64 b], .bool true])) ∨ ((∀ a b, Rg a b → l ≠ textL a b) ∧ e = .returned (.tuple #[.agg #[.int .i64 0, .int .i64 0], .bool false]))

theorem parser_no {l : List UInt8} {x y : Int} (h : refP l = (x, y)) (hn : ¬ Rg x y ∨ textL x y ≠ l) : ParseROk l (.returned (.tuple #[.agg #[.int .i64 0, .int .i64 0], .bool false])) :=
  .inr ⟨fun a b hr e => by
    have h2 := refP_text a b hr
    rw [← e, h] at h2
    cases h2
    rcases hn with hn | hn
    · exact hn hr
    · exact hn e.symm, rfl⟩

theorem fits_t' (a b : Int) (h : Rg a b) (w : World) :
    Calls Tryd.prog 8 #[.agg #[.int .i64 a, .int .i64 b]] w fun e w' => e = .returned (.bool true) ∧ Below w.heap.size w w' := by
  have h' := fits_any a b w
  rw [decide_eq_true h] at h'; exact h'.mono fun e w' ⟨h1, h2⟩ => ⟨h1, h2 ▸ (Below.refl _ w).alloc (Nat.le_refl _) _⟩
theorem fits_f' (a b : Int) (h : ¬ Rg a b) (w : World) :
    Calls Tryd.prog 8 #[.agg #[.int .i64 a, .int .i64 b]] w fun e w' => e = .returned (.bool false) ∧ Below w.heap.size w w' := by
  have h' := fits_any a b w
  rw [decide_eq_false h] at h'; exact h'.mono fun e w' ⟨h1, h2⟩ => ⟨h1, h2 ▸ (Below.refl _ w).alloc (Nat.le_refl _) _⟩

/-- Two new blocks of two cells, behind a call. -/
theorem four_cells {w w1 : World} {x y x' y' : Value} {T : TypeId} (hb : Below ((w.alloc (.cells #[x, y] T)).alloc (.cells #[x', y'] T)).heap.size ((w.alloc (.cells #[x, y] T)).alloc (.cells #[x', y'] T)) w1) :
    (w1.cell? ⟨w.heap.size, 0, none⟩ = some x ∧ w1.cell? ⟨w.heap.size, 1, none⟩ = some y ∧ w1.frozen? ⟨w.heap.size, 0, none⟩ = false ∧ w1.frozen? ⟨w.heap.size, 1, none⟩ = false) ∧
    (w1.cell? ⟨w.heap.size + 1, 0, none⟩ = some x' ∧ w1.cell? ⟨w.heap.size + 1, 1, none⟩ = some y' ∧ w1.frozen? ⟨w.heap.size + 1, 0, none⟩ = false ∧ w1.frozen? ⟨w.heap.size + 1, 1, none⟩ = false) ∧ w.heap.size + 1 < w1.heap.size := by
  have h1 : ((w.alloc (.cells #[x, y] T)).alloc (.cells #[x', y'] T)).heap[w.heap.size + 1]? = some (.cells #[x', y'] T (0, 0)) := by
    have := heap_alloc_new (w.alloc (.cells #[x, y] T)) (.cells #[x', y'] T)
    simpa using this
  have h0 : ((w.alloc (.cells #[x, y] T)).alloc (.cells #[x', y'] T)).heap[w.heap.size]? = some (.cells #[x, y] T (0, 0)) := by
    rw [Below.heap_alloc _ _ _ (by simp)]; exact heap_alloc_new w _
  have hs := hb.size
  simp at hs
  refine ⟨⟨?_, ?_, ?_, ?_⟩, ⟨?_, ?_, ?_, ?_⟩, by omega⟩
  · rw [bcell hb _ _ (by simp; omega), cell_of_row _ _ 0 _ _ _ h0]; rfl
  · rw [bcell hb _ _ (by simp; omega), cell_of_row _ _ 1 _ _ _ h0]; rfl
  · rw [bfroz hb _ _ (by simp; omega)]; exact frozen_of_row _ _ 0 _ _ h0
  · rw [bfroz hb _ _ (by simp; omega)]; exact frozen_of_row _ _ 1 _ _ h0
  · rw [bcell hb _ _ (by simp), cell_of_row _ _ 0 _ _ _ h1]; rfl
  · rw [bcell hb _ _ (by simp), cell_of_row _ _ 1 _ _ _ h1]; rfl
  · rw [bfroz hb _ _ (by simp)]; exact frozen_of_row _ _ 0 _ _ h1
  · rw [bfroz hb _ _ (by simp)]; exact frozen_of_row _ _ 1 _ _ h1

/-- The three lemmas on the plain reading. -/
theorem refP_1 {l : List UInt8} {n : Int} {k : Nat} (h : whole (l.drop 0) = (n, l.drop k)) (hk : l.length ≤ k) : refP l = (n, 0) := by
  rw [List.drop_zero] at h
  unfold refP; rw [h, List.drop_of_length_le hk]
theorem refP_2 {l : List UInt8} {n : Int} {k : Nat} (h : whole (l.drop 0) = (n, l.drop k)) (hk : l[k]? = some 105) : refP l = (0, n) := by
  obtain ⟨h1, h2⟩ := List.getElem?_eq_some_iff.1 hk
  rw [List.drop_zero] at h
  unfold refP; rw [h, List.drop_eq_getElem_cons h1, h2]; rfl
theorem refP_3 {l : List UInt8} {n b : Int} {k j : Nat} {c : UInt8} (h : whole (l.drop 0) = (n, l.drop k)) (hk : l[k]? = some c) (hc : c ≠ 105) (h' : whole (l.drop k) = (b, l.drop j)) : refP l = (n, b) := by
  obtain ⟨h1, h2⟩ := List.getElem?_eq_some_iff.1 hk
  rw [List.drop_zero] at h
  rw [List.drop_eq_getElem_cons h1, h2] at h h'
  unfold refP; rw [h]
  simp only
  rw [if_neg hc, h']

set_option maxRecDepth 20000 in
set_option maxHeartbeats 8000000 in
/-- ref.Parse. -/
theorem parser_any (s : ByteArray) (hs : s.size ≤ 60) (w : World) :
    Calls Tryd.prog 19 #[.string s] w fun e w' => ParseROk s.data.toList e ∧ Below w.heap.size w w' := by
  have hlen : s.data.toList.length = s.size := (Lib.size_eq s).symm
  have HL := Lib.hid hlen; clear hlen
  go_enter Tryd.func19, Tryd.ntmps19
  go_wp2_with fail
  go_must (refine (whole_any s hs 0 (Nat.zero_le _) _).mono ?_); rintro e w1 ⟨⟨n, k, rfl, hk0, hk1, hn, hw⟩, rfl⟩
  have HW := Lib.hid hw; clear hw
  rw [HL.out] at hk1
  by_cases hks : k < s.size
  · obtain ⟨c, hc⟩ : ∃ c : UInt8, s[k]'hks = c := ⟨_, rfl⟩
    have hcl : s.data.toList[k]? = some c := by rw [← hc]; exact Lib.data_getElem? s k hks
    by_cases h105 : c = 105
    · subst h105
      have HRP := Lib.hid (refP_2 HW.out hcl)
      clear hcl HW
      by_cases hr : Rg 0 n
      · have htl := text_length 0 n hr
        by_cases heq : s.data.toList = textL 0 n
        · have HP : Hid (ParseROk s.data.toList (.returned (.tuple #[.agg #[.int .i64 0, .int .i64 n], .bool true]))) := .inl ⟨0, n, hr, heq, rfl⟩
          have ht := fun w => textr_any 0 n hr w
          rw [← heq, ← ba_list s] at ht
          clear heq htl HRP
          go_wp2_with fail
          go_must (refine (fits_t' 0 n hr _).mono ?_); rintro e w2 ⟨rfl, hb2⟩
          obtain ⟨⟨a0, a1, a2, a3⟩, ⟨b0, b1, b2, b3⟩, hsz⟩ := four_cells hb2
          go_wp2_with fail
          go_must (refine (ht _).mono ?_); rintro e w3 ⟨rfl, hb3⟩
          have hb23 := hb2.trans (hb3.mono hb2.size)
          clear a0 a1 a2 a3 b0 b1 b2 b3 hsz
          obtain ⟨⟨a0, a1, a2, a3⟩, ⟨b0, b1, b2, b3⟩, hsz⟩ := four_cells hb23
          have hbw := (((Below.refl _ w).alloc (Nat.le_refl _) _).alloc (by simp) _).trans (hb23.mono (by simp; omega))
          go_wp2
          refine bodyPost_ret (v := .tuple #[.agg #[.int .i64 0, .int .i64 n], .bool true]) (by simp [results, Tryd.results19, go_sem, a0, a1]) rfl ⟨HP.out, ?_⟩
          exact (hbw.setCell (Nat.le_refl _) _).setCell (Nat.le_refl _) _
        · have HP := Lib.hid (parser_no HRP.out (.inr fun h => heq h.symm))
          have hne : (textL 0 n == s.toList) = false := by
            rw [Lib.toList_data]; simpa using fun h => heq (Eq.symm h)
          have ht := fun w => textr_any 0 n hr w
          clear heq HRP
          generalize textL 0 n = t at ht htl hne
          go_wp2_with fail
          go_must (refine (fits_t' 0 n hr _).mono ?_); rintro e w2 ⟨rfl, hb2⟩
          obtain ⟨⟨a0, a1, a2, a3⟩, ⟨b0, b1, b2, b3⟩, hsz⟩ := four_cells hb2
          go_wp2_with fail
          go_must (refine (ht _).mono ?_); rintro e w3 ⟨rfl, hb3⟩
          have hb23 := hb2.trans (hb3.mono hb2.size)
          clear a0 a1 a2 a3 b0 b1 b2 b3 hsz
          obtain ⟨⟨a0, a1, a2, a3⟩, ⟨b0, b1, b2, b3⟩, hsz⟩ := four_cells hb23
          have hbw := (((Below.refl _ w).alloc (Nat.le_refl _) _).alloc (by simp) _).trans (hb23.mono (by simp; omega))
          go_wp2
          refine bodyPost_ret (v := .tuple #[.agg #[.int .i64 0, .int .i64 0], .bool false]) (by simp [results, Tryd.results19, go_sem, a0, a1]) rfl ⟨HP.out, ?_⟩
          exact (hbw.setCell (Nat.le_refl _) _).setCell (Nat.le_refl _) _
      · have HP := Lib.hid (parser_no HRP.out (.inl hr))
        clear HRP
        go_wp2_with fail
        go_must (refine (fits_f' 0 n hr _).mono ?_); rintro e w2 ⟨rfl, hb2⟩
        obtain ⟨⟨a0, a1, a2, a3⟩, ⟨b0, b1, b2, b3⟩, hsz⟩ := four_cells hb2
        have hbw := (((Below.refl _ w).alloc (Nat.le_refl _) _).alloc (by simp) _).trans (hb2.mono (by simp; omega))
        go_wp2
        refine bodyPost_ret (v := .tuple #[.agg #[.int .i64 0, .int .i64 0], .bool false]) (by simp [results, Tryd.results19, go_sem, a0, a1]) rfl ⟨HP.out, ?_⟩
        exact (hbw.setCell (Nat.le_refl _) _).setCell (Nat.le_refl _) _
    · have t105 : ((c.toNat : Int) == 105) = false := beq_eq_false_iff_ne.2 fun h => h105 (UInt8.toNat_inj.1 (show c.toNat = 105 by omega))
      have h3 := fun b j h' => refP_3 (b := b) (j := j) HW.out hcl h105 h'
      have H3 := Lib.hid h3
      clear hcl HW h3 h105
      go_wp2_with fail
      go_must (refine (whole_any s hs k (by omega) _).mono ?_); rintro e w1 ⟨⟨b, j, rfl, hj0, hj1, hb, hw2⟩, rfl⟩
      have HRP := Lib.hid (H3.out b j hw2)
      clear hw2 H3 hj0 hj1
      by_cases hr : Rg n b
      · have htl := text_length n b hr
        by_cases heq : s.data.toList = textL n b
        · have HP : Hid (ParseROk s.data.toList (.returned (.tuple #[.agg #[.int .i64 n, .int .i64 b], .bool true]))) := .inl ⟨n, b, hr, heq, rfl⟩
          have ht := fun w => textr_any n b hr w
          rw [← heq, ← ba_list s] at ht
          clear heq htl HRP
          go_wp2_with fail
          go_must (refine (fits_t' n b hr _).mono ?_); rintro e w2 ⟨rfl, hb2⟩
          obtain ⟨⟨a0, a1, a2, a3⟩, ⟨b0, b1, b2, b3⟩, hsz⟩ := four_cells hb2
          go_wp2_with fail
          go_must (refine (ht _).mono ?_); rintro e w3 ⟨rfl, hb3⟩
          have hb23 := hb2.trans (hb3.mono hb2.size)
          clear a0 a1 a2 a3 b0 b1 b2 b3 hsz
          obtain ⟨⟨a0, a1, a2, a3⟩, ⟨b0, b1, b2, b3⟩, hsz⟩ := four_cells hb23
          have hbw := (((Below.refl _ w).alloc (Nat.le_refl _) _).alloc (by simp) _).trans (hb23.mono (by simp; omega))
          go_wp2
          refine bodyPost_ret (v := .tuple #[.agg #[.int .i64 n, .int .i64 b], .bool true]) (by simp [results, Tryd.results19, go_sem, a0, a1]) rfl ⟨HP.out, ?_⟩
          exact (hbw.setCell (Nat.le_refl _) _).setCell (Nat.le_refl _) _
        · have HP := Lib.hid (parser_no HRP.out (.inr fun h => heq h.symm))
          have hne : (textL n b == s.toList) = false := by
            rw [Lib.toList_data]; simpa using fun h => heq (Eq.symm h)
          have ht := fun w => textr_any n b hr w
          clear heq HRP
          generalize textL n b = t at ht htl hne
          go_wp2_with fail
          go_must (refine (fits_t' n b hr _).mono ?_); rintro e w2 ⟨rfl, hb2⟩
          obtain ⟨⟨a0, a1, a2, a3⟩, ⟨b0, b1, b2, b3⟩, hsz⟩ := four_cells hb2
          go_wp2_with fail
          go_must (refine (ht _).mono ?_); rintro e w3 ⟨rfl, hb3⟩
          have hb23 := hb2.trans (hb3.mono hb2.size)
          clear a0 a1 a2 a3 b0 b1 b2 b3 hsz
          obtain ⟨⟨a0, a1, a2, a3⟩, ⟨b0, b1, b2, b3⟩, hsz⟩ := four_cells hb23
          have hbw := (((Below.refl _ w).alloc (Nat.le_refl _) _).alloc (by simp) _).trans (hb23.mono (by simp; omega))
          go_wp2
          refine bodyPost_ret (v := .tuple #[.agg #[.int .i64 0, .int .i64 0], .bool false]) (by simp [results, Tryd.results19, go_sem, a0, a1]) rfl ⟨HP.out, ?_⟩
          exact (hbw.setCell (Nat.le_refl _) _).setCell (Nat.le_refl _) _
      · have HP := Lib.hid (parser_no HRP.out (.inl hr))
        clear HRP
        go_wp2_with fail
        go_must (refine (fits_f' n b hr _).mono ?_); rintro e w2 ⟨rfl, hb2⟩
        obtain ⟨⟨a0, a1, a2, a3⟩, ⟨b0, b1, b2, b3⟩, hsz⟩ := four_cells hb2
        have hbw := (((Below.refl _ w).alloc (Nat.le_refl _) _).alloc (by simp) _).trans (hb2.mono (by simp; omega))
        go_wp2
        refine bodyPost_ret (v := .tuple #[.agg #[.int .i64 0, .int .i64 0], .bool false]) (by simp [results, Tryd.results19, go_sem, a0, a1]) rfl ⟨HP.out, ?_⟩
        exact (hbw.setCell (Nat.le_refl _) _).setCell (Nat.le_refl _) _
  · have hks' : ¬ ((k : Int) < (s.size : Int)) := by omega
    have HRP := Lib.hid (refP_1 HW.out (by rw [HL.out]; omega))
    clear HW
    by_cases hr : Rg n 0
    · have htl := text_length n 0 hr
      by_cases heq : s.data.toList = textL n 0
      · have HP : Hid (ParseROk s.data.toList (.returned (.tuple #[.agg #[.int .i64 n, .int .i64 0], .bool true]))) := .inl ⟨n, 0, hr, heq, rfl⟩
        have ht := fun w => textr_any n 0 hr w
        rw [← heq, ← ba_list s] at ht
        clear heq htl HRP
        go_wp2_with fail
        go_must (refine (fits_t' n 0 hr _).mono ?_); rintro e w2 ⟨rfl, hb2⟩
        obtain ⟨⟨a0, a1, a2, a3⟩, ⟨b0, b1, b2, b3⟩, hsz⟩ := four_cells hb2
        go_wp2_with fail
        go_must (refine (ht _).mono ?_); rintro e w3 ⟨rfl, hb3⟩
        have hb23 := hb2.trans (hb3.mono hb2.size)
        clear a0 a1 a2 a3 b0 b1 b2 b3 hsz
        obtain ⟨⟨a0, a1, a2, a3⟩, ⟨b0, b1, b2, b3⟩, hsz⟩ := four_cells hb23
        have hbw := (((Below.refl _ w).alloc (Nat.le_refl _) _).alloc (by simp) _).trans (hb23.mono (by simp; omega))
        go_wp2
        refine bodyPost_ret (v := .tuple #[.agg #[.int .i64 n, .int .i64 0], .bool true]) (by simp [results, Tryd.results19, go_sem, a0, a1]) rfl ⟨HP.out, ?_⟩
        exact (hbw.setCell (Nat.le_refl _) _).setCell (Nat.le_refl _) _
      · have HP := Lib.hid (parser_no HRP.out (.inr fun h => heq h.symm))
        have hne : (textL n 0 == s.toList) = false := by
          rw [Lib.toList_data]; simpa using fun h => heq (Eq.symm h)
        have ht := fun w => textr_any n 0 hr w
        clear heq HRP
        generalize textL n 0 = t at ht htl hne
        go_wp2_with fail
        go_must (refine (fits_t' n 0 hr _).mono ?_); rintro e w2 ⟨rfl, hb2⟩
        obtain ⟨⟨a0, a1, a2, a3⟩, ⟨b0, b1, b2, b3⟩, hsz⟩ := four_cells hb2
        go_wp2_with fail
        go_must (refine (ht _).mono ?_); rintro e w3 ⟨rfl, hb3⟩
        have hb23 := hb2.trans (hb3.mono hb2.size)
        clear a0 a1 a2 a3 b0 b1 b2 b3 hsz
        obtain ⟨⟨a0, a1, a2, a3⟩, ⟨b0, b1, b2, b3⟩, hsz⟩ := four_cells hb23
        have hbw := (((Below.refl _ w).alloc (Nat.le_refl _) _).alloc (by simp) _).trans (hb23.mono (by simp; omega))
        go_wp2
        refine bodyPost_ret (v := .tuple #[.agg #[.int .i64 0, .int .i64 0], .bool false]) (by simp [results, Tryd.results19, go_sem, a0, a1]) rfl ⟨HP.out, ?_⟩
        exact (hbw.setCell (Nat.le_refl _) _).setCell (Nat.le_refl _) _
    · have HP := Lib.hid (parser_no HRP.out (.inl hr))
      clear HRP
      go_wp2_with fail
      go_must (refine (fits_f' n 0 hr _).mono ?_); rintro e w2 ⟨rfl, hb2⟩
      obtain ⟨⟨a0, a1, a2, a3⟩, ⟨b0, b1, b2, b3⟩, hsz⟩ := four_cells hb2
      have hbw := (((Below.refl _ w).alloc (Nat.le_refl _) _).alloc (by simp) _).trans (hb2.mono (by simp; omega))
      go_wp2
      refine bodyPost_ret (v := .tuple #[.agg #[.int .i64 0, .int .i64 0], .bool false]) (by simp [results, Tryd.results19, go_sem, a0, a1]) rfl ⟨HP.out, ?_⟩
      exact (hbw.setCell (Nat.le_refl _) _).setCell (Nat.le_refl _) _
end Go.Proofs.YtkppkojpdhgicaaDoor
