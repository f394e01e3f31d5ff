/-
The program's Parse, by its contract: it reads just the numbers' texts.
-/
import Derived.Test.YtkppkojpdhgicaaDoorGCut
namespace Go.Proofs.YtkppkojpdhgicaaDoor
open Go.RowKit Go.Proofs.YtkppkojpdhgicaaDoor.Gf

/-- What Parse answers. -/
def ParseOk (l : List UInt8) (e : Ending) : Prop :=
  (∃ a b, Rg a b ∧ l = textL a b ∧ e = .returned (.tuple #[cv a b, .bool true])) ∨ ((∀ a b, Rg a b → l ≠ textL a b) ∧ e = .returned (.tuple #[cv 0 0, .bool false]))

set_option maxRecDepth 20000 in
set_option maxHeartbeats 4000000 in
/-- Parse. -/
theorem parse_any (s : ByteArray) (hs : s.size ≤ 60) (w : World) (hE : Env w) :
    Calls Tryd.prog 18 #[.string s] w fun e w' => ParseOk s.data.toList e ∧ Below w.heap.size w w' := by
  go_enter Tryd.func18, Tryd.ntmps18
  go_wp2_with fail
  go_must (refine (split_any s hs _ hE).mono ?_); rintro e w1 ⟨⟨f, g, rfl, lf, lg, hR⟩, hb1⟩
  have hE1 := hE.below hb1
  have HR := Lib.hid hR
  clear hR
  go_wp2_with fail
  go_must (refine (atoi_any ⟨f.toArray⟩ (by simp [ByteArray.size]; omega) _ hE1).mono ?_); rintro e w2 ⟨⟨va, ea, rfl, hva, hea⟩, hb2⟩
  have hb12 := hb1.trans (hb2.mono hb1.size)
  have hE2 := hE.below hb12
  have HEA := Lib.hid hea
  clear hea
  go_wp2_with fail
  go_must (refine (atoi_any ⟨g.toArray⟩ (by simp [ByteArray.size]; omega) _ hE2).mono ?_); rintro e w3 ⟨⟨vb, eb, rfl, hvb, heb⟩, hb3⟩
  have hb13 := hb12.trans (hb3.mono hb12.size)
  have hE3 := hE.below hb13
  have HEB := Lib.hid heb
  clear heb hb1 hb2 hb3 hb12 hE1 hE2
  -- an error: no text of a number
  have hbad : (∀ v, Lib.atoiAll f ≠ .ok v) ∨ (∀ v, Lib.atoiAll g ≠ .ok v) → ParseOk s.data.toList (.returned (.tuple #[cv 0 0, .bool false])) := fun h => by
    refine .inr ⟨fun a b hr e => ?_, rfl⟩
    have h2 := split_text a b hr f g (by rw [← e]; exact HR.out)
    rcases h with h | h
    · exact h a h2.1
    · exact h b h2.2
  have HB := Lib.hid hbad
  clear hbad
  have cv0 : cv 0 0 = .complex .f64 0 0 := by
    show Value.complex .f64 (floatOfInt .f64 0) (floatOfInt .f64 0) = _
    rw [fl0]
  rcases HEA.out with ⟨rfl, ha⟩ | ⟨ha, t, p, rfl⟩
  · rcases HEB.out with ⟨rfl, hb⟩ | ⟨hb, t, p, rfl⟩
    · have huniq : ∀ a b, Rg a b → s.data.toList = textL a b → a = va ∧ b = vb := fun a b hr e => by
        have h2 := split_text a b hr f g (by rw [← e]; exact HR.out)
        rw [h2.1] at ha
        rw [h2.2] at hb
        cases ha; cases hb; exact ⟨rfl, rfl⟩
      have HU := Lib.hid huniq
      clear huniq HB HR HEA HEB ha hb lf lg
      by_cases hr : Rg va vb
      · have ht := text_any va vb hr w3 hE3
        have htl := text_length va vb hr
        by_cases heq : s.data.toList = textL va vb
        · have HF : Hid (ParseOk s.data.toList (.returned (.tuple #[cv va vb, .bool true]))) := .inl ⟨va, vb, hr, heq, rfl⟩
          rw [← heq, ← ba_list s] at ht
          clear HU heq cv0
          go_wp2_with fail
          go_must (refine (of_in va vb hr _).mono ?_); rintro e w4 ⟨rfl, rfl⟩
          go_wp2_with fail
          go_must (refine ht.mono ?_); rintro e w5 ⟨rfl, hb5⟩
          have hb15 := hb13.trans (hb5.mono hb13.size)
          go_wp2
          go_ret2
          exact ⟨HF.out, hb15⟩
        · have hF : ParseOk s.data.toList (.returned (.tuple #[cv 0 0, .bool false])) := .inr ⟨fun a b hr' e => heq (by obtain ⟨rfl, rfl⟩ := HU.out a b hr' e; exact e), rfl⟩
          rw [cv0] at hF
          have HF := Lib.hid hF
          have hne : (textL va vb == s.toList) = false := by
            rw [Lib.toList_data]; simpa using fun h => heq (Eq.symm h)
          clear hF HU cv0 heq
          generalize textL va vb = t at ht htl hne
          go_wp2_with fail
          go_must (refine (of_in va vb hr _).mono ?_); rintro e w4 ⟨rfl, rfl⟩
          go_wp2_with fail
          go_must (refine ht.mono ?_); rintro e w5 ⟨rfl, hb5⟩
          have hb15 := hb13.trans (hb5.mono hb13.size)
          go_wp2
          go_ret2
          exact ⟨HF.out, hb15⟩
      · have hF : ParseOk s.data.toList (.returned (.tuple #[cv 0 0, .bool false])) := .inr ⟨fun a b hr' e => hr (by obtain ⟨rfl, rfl⟩ := HU.out a b hr' e; exact hr'), rfl⟩
        rw [cv0] at hF
        have HF := Lib.hid hF
        clear hF HU
        have ho := of_out va vb hr w3
        rw [cv0] at ho
        clear cv0
        go_wp2_with fail
        go_must (refine ho.mono ?_); rintro e w4 ⟨rfl, rfl⟩
        go_wp2
        go_ret2
        exact ⟨HF.out, hb13⟩
    · have hF := HB.out (.inr hb)
      rw [cv0] at hF
      have HF := Lib.hid hF
      clear HB HEA HEB HR ha hb hF cv0
      go_wp2
      go_ret2
      exact ⟨HF.out, hb13⟩
  · have hF := HB.out (.inl ha)
    rw [cv0] at hF
    have HF := Lib.hid hF
    clear HB HEA HEB HR ha hF cv0
    go_wp2
    go_ret2
    exact ⟨HF.out, hb13⟩
end Go.Proofs.YtkppkojpdhgicaaDoor
