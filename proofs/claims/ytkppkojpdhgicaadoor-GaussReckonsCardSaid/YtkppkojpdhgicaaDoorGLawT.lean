/-
The law GaussTexts: it answers true at every input.
-/
import Derived.Test.YtkppkojpdhgicaaDoorGLawA
import Derived.Test.YtkppkojpdhgicaaDoorGParseR
import Derived.Deep.RegionHeld3
namespace Go.Proofs.YtkppkojpdhgicaaDoor
open Go.RowKit Go.Proofs.YtkppkojpdhgicaaDoor.Gf

/-- Both readings have one answer, and the same. -/
theorem parse_both (s : ByteArray) (hs : s.size ≤ 60) : ∃ (u v : Int) (k : Bool), Rg u v ∧
    (∀ w, Env w → Calls Tryd.prog 18 #[.string s] w fun e w' => e = .returned (.tuple #[cv u v, .bool k]) ∧ Below w.heap.size w w') ∧
    (∀ w, Calls Tryd.prog 19 #[.string s] w fun e w' => e = .returned (.tuple #[.agg #[.int .i64 u, .int .i64 v], .bool k]) ∧ Below w.heap.size w w') := by
  by_cases h : ∃ a b, Rg a b ∧ s.data.toList = textL a b
  · obtain ⟨a, b, hr, he⟩ := h
    refine ⟨a, b, true, hr, fun w hE => (parse_any s hs w hE).mono fun e w' ⟨h1, hb⟩ => ⟨?_, hb⟩, fun w => (parser_any s hs w).mono fun e w' ⟨h1, hb⟩ => ⟨?_, hb⟩⟩
    · rcases h1 with ⟨c, d, hr2, he2, h1⟩ | ⟨hn, _⟩
      · obtain ⟨rfl, rfl⟩ := text_inj hr hr2 (he.symm.trans he2)
        exact h1
      · exact absurd he (hn a b hr)
    · rcases h1 with ⟨c, d, hr2, he2, h1⟩ | ⟨hn, _⟩
      · obtain ⟨rfl, rfl⟩ := text_inj hr hr2 (he.symm.trans he2)
        exact h1
      · exact absurd he (hn a b hr)
  · refine ⟨0, 0, false, Rg.zero, fun w hE => (parse_any s hs w hE).mono fun e w' ⟨h1, hb⟩ => ⟨?_, hb⟩, fun w => (parser_any s hs w).mono fun e w' ⟨h1, hb⟩ => ⟨?_, hb⟩⟩
    · rcases h1 with ⟨c, d, hr2, he2, _⟩ | ⟨_, h1⟩
      · exact absurd ⟨c, d, hr2, he2⟩ h
      · exact h1
    · rcases h1 with ⟨c, d, hr2, he2, _⟩ | ⟨_, h1⟩
      · exact absurd ⟨c, d, hr2, he2⟩ h
      · exact h1
theorem parse_text (a b : Int) (h : Rg a b) (w : World) (hE : Env w) :
    Calls Tryd.prog 18 #[.string ⟨(textL a b).toArray⟩] w fun e w' => e = .returned (.tuple #[cv a b, .bool true]) ∧ Below w.heap.size w w' := by
  have hl := text_length a b h
  refine (parse_any ⟨(textL a b).toArray⟩ (by simp [ByteArray.size]; omega) w hE).mono fun e w' ⟨h1, hb⟩ => ⟨?_, hb⟩
  rcases h1 with ⟨c, d, hr, he, h1⟩ | ⟨hn, h1⟩
  · obtain ⟨rfl, rfl⟩ := text_inj h hr he
    exact h1
  · exact absurd rfl (hn a b h)
theorem to_in' (a b : Int) (h : Rg a b) (w : World) :
    Calls Tryd.prog 20 #[.agg #[.int .i64 a, .int .i64 b]] w fun e w' => e = .returned (cv a b) ∧ Below w.heap.size w w' :=
  (to_in a b h w).mono fun e w' ⟨h1, h2⟩ => ⟨h1, h2 ▸ (Below.refl _ w).alloc (Nat.le_refl _) _⟩
theorem is_same' (a b : Int) (h : Rg a b) (w : World) :
    Calls Tryd.prog 9 #[cv a b, .agg #[.int .i64 a, .int .i64 b]] w fun e w' => e = .returned (.bool true) ∧ Below w.heap.size w w' :=
  (is_same a b h w).mono fun e w' ⟨h1, h2⟩ => ⟨h1, h2 ▸ (Below.refl _ w).alloc (Nat.le_refl _) _⟩

/-- What a drawn region keeps: the argument's cells, the library's tables, and all that was there. -/
abbrev Hd (W : World) (g : Nat) (x y : Value) (w' : World) : Prop :=
  w'.cell? ⟨g, 0, none⟩ = some x ∧ w'.cell? ⟨g, 1, none⟩ = some y ∧ Env w' ∧ Below W.heap.size W w'
theorem Hd.below {W : World} {g : Nat} {x y : Value} {w1 w2 : World} (h : Hd W g x y w1) (hb : Below w1.heap.size w1 w2) : Hd W g x y w2 := by
  obtain ⟨h1, h2, h3, h4⟩ := h
  exact ⟨by rw [bcell hb _ _ (World.block_lt_of_cell? _ _ h1)]; exact h1, by rw [bcell hb _ _ (World.block_lt_of_cell? _ _ h2)]; exact h2, h3.below hb, h4.trans (hb.mono h4.size)⟩
theorem Hd.env {W : World} {g : Nat} {x y : Value} {w1 : World} (h : Hd W g x y w1) : Env w1 := h.2.2.1
theorem Hd.start {w w1 : World} {x y : Value} {T : TypeId} (hE : Env w) (hb : Below (w.alloc (.cells #[x, y] T)).heap.size (w.alloc (.cells #[x, y] T)) w1) : Hd w w.heap.size x y w1 := by
  obtain ⟨h1, h2, _, _, _⟩ := two_cells hb
  have h4 := ((Below.refl _ w).alloc (Nat.le_refl _) (.cells #[x, y] T)).trans (hb.mono (by simp))
  exact ⟨h1, h2, hE.below h4, h4⟩

set_option maxRecDepth 20000 in
set_option maxHeartbeats 2000000 in
theorem texts_long (a b : Int) (s : ByteArray) (hs : 60 < s.size) (w : World) (hE : Env w) :
    Calls Tryd.prog 5 #[.agg #[.int .i64 a, .int .i64 b], .string s] w fun e w' => e = .returned (.bool true) ∧ Below w.heap.size w w' := by
  have hE1 := hE.alloc (.cells #[.int .i64 a, .int .i64 b] 28)
  go_enter Tryd.func5, Tryd.ntmps5
  go_wp2_with fail
  go_must (refine (awake_any _ hE1).mono ?_); rintro e w1 ⟨rfl, hb1⟩
  go_wp2
  go_ret
  exact ⟨rfl, ((Below.refl _ w).alloc (Nat.le_refl _) _).trans (hb1.mono (by simp))⟩

set_option maxRecDepth 20000 in
set_option maxHeartbeats 4000000 in
theorem texts_out (a b : Int) (hr : ¬ Rg a b) (s : ByteArray) (hs : s.size ≤ 60) (w : World) (hE : Env w) :
    Calls Tryd.prog 5 #[.agg #[.int .i64 a, .int .i64 b], .string s] w fun e w' => e = .returned (.bool true) ∧ Below w.heap.size w w' := by
  have hE1 := hE.alloc (.cells #[.int .i64 a, .int .i64 b] 28)
  obtain ⟨u, v, k, huv, hp1, hp2⟩ := parse_both s hs
  go_enter Tryd.func5, Tryd.ntmps5
  go_wp2_with fail
  go_must (refine (hp1 _ hE1).mono ?_); rintro e1 w1 ⟨rfl, hb1⟩
  have S1 := Hd.start hE hb1
  have HS1 := Lib.hid S1
  clear S1
  go_wp2_with fail
  go_must (refine (hp2 _).mono ?_); rintro e2 w2 ⟨rfl, hb2⟩
  have HS2 := Lib.hid (HS1.out.below hb2)
  have HS2' := Lib.hid (HS2.out.below ((Below.refl _ w2).alloc (Nat.le_refl _) (.cells #[.int .i64 u, .int .i64 v] 28)))
  clear HS1 HS2 hb1 hb2 hE1
  go_wp2_with fail
  go_must (refine (is_same' u v huv _).mono ?_); rintro e3 w3 ⟨rfl, hb3⟩
  have HS3 := Lib.hid (HS2'.out.below hb3)
  clear HS2' hb3
  obtain ⟨c0, c1, _, _⟩ := HS3.out
  go_wp2_with fail
  go_must (refine (fits_f' a b hr _).mono ?_); rintro e4 w4 ⟨rfl, hb4⟩
  have HS4 := Lib.hid (HS3.out.below hb4)
  clear HS3 hb4 c0 c1
  obtain ⟨_, _, hE4, hb4⟩ := HS4.out
  go_wp2_with fail
  go_must (refine (awake_any _ hE4).mono ?_); rintro e5 w5 ⟨rfl, hb5⟩
  have hbF := hb4.trans (hb5.mono hb4.size)
  go_wp2
  go_ret
  exact ⟨rfl, hbF⟩

set_option maxRecDepth 20000 in
set_option maxHeartbeats 8000000 in
theorem texts_in (a b : Int) (hr : Rg a b) (s : ByteArray) (hs : s.size ≤ 60) (w : World) (hE : Env w) :
    Calls Tryd.prog 5 #[.agg #[.int .i64 a, .int .i64 b], .string s] w fun e w' => e = .returned (.bool true) ∧ Below w.heap.size w w' := by
  have hE1 := hE.alloc (.cells #[.int .i64 a, .int .i64 b] 28)
  obtain ⟨u, v, k, huv, hp1, hp2⟩ := parse_both s hs
  go_enter Tryd.func5, Tryd.ntmps5
  go_wp2_with fail
  go_must (refine (hp1 _ hE1).mono ?_); rintro e1 w1 ⟨rfl, hb1⟩
  have S1 := Hd.start hE hb1
  have HS1 := Lib.hid S1
  clear S1
  go_wp2_with fail
  go_must (refine (hp2 _).mono ?_); rintro e2 w2 ⟨rfl, hb2⟩
  have HS2 := Lib.hid (HS1.out.below hb2)
  have HS2' := Lib.hid (HS2.out.below ((Below.refl _ w2).alloc (Nat.le_refl _) (.cells #[.int .i64 u, .int .i64 v] 28)))
  clear HS1 HS2 hb1 hb2 hE1
  go_wp2_with fail
  go_must (refine (is_same' u v huv _).mono ?_); rintro e3 w3 ⟨rfl, hb3⟩
  have HS3 := Lib.hid (HS2'.out.below hb3)
  clear HS2' hb3
  obtain ⟨c0, c1, _, _⟩ := HS3.out
  go_wp2_with fail
  go_must (refine (fits_t' a b hr _).mono ?_); rintro e4 w4 ⟨rfl, hb4⟩
  have HS4 := Lib.hid (HS3.out.below hb4)
  clear HS3 hb4 c0 c1
  obtain ⟨c0, c1, _, _⟩ := HS4.out
  go_wp2_with fail
  go_must (refine (to_in' a b hr _).mono ?_); rintro e5 w5 ⟨rfl, hb5⟩
  have HS5 := Lib.hid (HS4.out.below hb5)
  clear HS4 hb5 c0 c1
  have hE5 := HS5.out.2.2.1
  go_wp2_with fail
  go_must (refine (text_any a b hr _ hE5).mono ?_); rintro e6 w6 ⟨rfl, hb6⟩
  have HS6 := Lib.hid (HS5.out.below hb6)
  clear HS5 hb6 hE5
  have hE6 := HS6.out.2.2.1
  go_wp2_with fail
  go_must (refine (parse_text a b hr _ hE6).mono ?_); rintro e7 w7 ⟨rfl, hb7⟩
  have HS7 := Lib.hid (HS6.out.below hb7)
  clear HS6 hb7 hE6 hp1 hp2
  have tl := text_length a b hr
  have hTo := fun w => to_in' a b hr w
  have hTx := fun w hE => text_any a b hr w hE
  have hTr := fun w => textr_any a b hr w
  have hIs := fun w => is_same' a b hr w
  go_wp2_with fail
  generalize textL a b = t at tl hTx hTr ⊢
  have S7 := HS7.out.below (Below.refl _ w7).drew
  clear HS7
  go_region_held3 (fun w' => w'.cell? ⟨w.heap.size, 0, none⟩ = some (.int .i64 a) ∧ w'.cell? ⟨w.heap.size, 1, none⟩ = some (.int .i64 b) ∧ Env w' ∧ Below w.heap.size w w')
    (first | assumption | go_keep)
    (first
      | (go_at_call 20; refine (hTo _).mono ?_; rintro e W ⟨rfl, hbW⟩; have SW := Hd.below (by assumption) hbW)
      | (go_at_call 21; refine (hTx _ (Hd.env (by assumption))).mono ?_; rintro e W ⟨rfl, hbW⟩; have SW := Hd.below (by assumption) hbW)
      | (go_at_call 22; refine (hTr _).mono ?_; rintro e W ⟨rfl, hbW⟩; have SW := Hd.below (by assumption) hbW)
      | (go_at_call 9; refine (hIs _).mono ?_; rintro e W ⟨rfl, hbW⟩; have SW := Hd.below (by assumption) hbW)
      | (go_at_call 10; refine (awake_any _ (Hd.env (by assumption))).mono ?_; rintro e W ⟨rfl, hbW⟩; have SW := Hd.below (by assumption) hbW))
  all_goals
    have hbF := SW.2.2.2
    go_wp2
    go_ret
    exact ⟨rfl, hbF⟩

/-- The law. -/
theorem law_texts (a b : Int) (s : ByteArray) (w : World) (hE : Env w) :
    Calls Tryd.prog 5 #[.agg #[.int .i64 a, .int .i64 b], .string s] w fun e w' => e = .returned (.bool true) ∧ Below w.heap.size w w' := by
  by_cases hs : 60 < s.size
  · exact texts_long a b s hs w hE
  · by_cases hr : Rg a b
    · exact texts_in a b hr s (by omega) w hE
    · exact texts_out a b hr s (by omega) w hE
end Go.Proofs.YtkppkojpdhgicaaDoor
