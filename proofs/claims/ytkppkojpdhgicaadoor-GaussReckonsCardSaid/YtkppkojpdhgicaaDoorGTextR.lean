/-
The reference's Text, by its contract: it writes what the program writes.
-/
import Derived.Test.YtkppkojpdhgicaaDoorGDig
namespace Go.Proofs.YtkppkojpdhgicaaDoor
open Go.RowKit Go.Proofs.YtkppkojpdhgicaaDoor.Gf

/-- ref.Text. -/
theorem textr_any (a b : Int) (h : Rg a b) (w : World) :
    Calls Tryd.prog 22 #[.agg #[.int .i64 a, .int .i64 b]] w fun e w' => e = .returned (.string ⟨(textL a b).toArray⟩) ∧ Below w.heap.size w w' := by
  obtain ⟨⟨h1, h2⟩, h3, h4⟩ := h
  have hi := fun w => digits_any a (by omega) (by omega) w
  have ht := fun w => digits_any b (by omega) (by omega) w
  have l1 := itoa_length a (by omega) (by omega)
  have l2 := tail_length b (by omega) (by omega)
  have l3 := itoa_length b (by omega) (by omega)
  by_cases hb0 : b = 0
  · have e : textL a b = Lib.itoa a := by unfold textL; rw [if_pos hb0]
    rw [e]; clear e
    subst hb0
    generalize Lib.itoa a = l at hi l1 ⊢
    go_enter Tryd.func22, Tryd.ntmps22
    go_wp2_with fail
    go_must (refine (hi _).mono ?_); rintro e w1 ⟨rfl, hb1⟩
    obtain ⟨hc0, hc1, hf0, hf1, hsz⟩ := two_cells hb1
    go_wp2
    go_ret
    exact ⟨rfl, ((Below.refl _ w).alloc (Nat.le_refl _) _).trans (hb1.mono (by simp))⟩
  by_cases hby : b = 1
  · have et : tailL b = [105] := by unfold tailL; rw [if_pos hby]
    by_cases ha0 : a = 0
    · have e : textL a b = [105] := by unfold textL; rw [if_neg hb0, if_pos ha0, et]
      have HE := Lib.hid e; clear e et
      subst hby
      subst ha0
      generalize Lib.itoa 1 = t at ht l3
      go_enter Tryd.func22, Tryd.ntmps22
      go_wp2_with fail
      go_must (refine (ht _).mono ?_); rintro e w1 ⟨rfl, hb1⟩
      obtain ⟨hc0, hc1, hf0, hf1, hsz⟩ := two_cells hb1
      have hbw := ((Below.refl _ w).alloc (Nat.le_refl _) _).trans (hb1.mono (by simp))
      go_wp2
      go_ret
      refine ⟨?_, hbw⟩
      rw [HE.out]; rfl
    have hp0 : 0 < b := by omega
    have e : textL a b = Lib.itoa a ++ ([43] ++ ([105])) := by unfold textL; rw [if_neg hb0, if_neg ha0, if_pos hp0, et]
    have HE := Lib.hid e; clear e et
    have hba := Lib.hid (ba_app (Lib.itoa a) [43])
    have hbb := Lib.hid (ba_app (Lib.itoa a ++ [43]) ([105]))
    subst hby
    have k4 : ((a : Int) == 0) = false := by simpa using ha0
    clear ha0
    generalize Lib.itoa 1 = t at ht l3
    generalize Lib.itoa a = l at hi HE hba l1 hbb
    go_enter Tryd.func22, Tryd.ntmps22
    go_wp2_with fail
    go_must (refine (ht _).mono ?_); rintro e w1 ⟨rfl, hb1⟩
    obtain ⟨hc0, hc1, hf0, hf1, hsz⟩ := two_cells hb1
    have hbw := ((Below.refl _ w).alloc (Nat.le_refl _) _).trans (hb1.mono (by simp))
    go_wp2_with fail
    go_must (refine (hi _).mono ?_); rintro e w2 ⟨rfl, hb2⟩
    have hbw2 := hbw.trans (hb2.mono hbw.size)
    go_wp2
    go_ret
    refine ⟨?_, hbw2⟩
    rw [HE.out, ← List.append_assoc, ← hbb.out, ← hba.out]; rfl
  by_cases hbx : b = -1
  · have et : tailL b = [45, 105] := by unfold tailL; rw [if_neg hby, if_pos hbx]
    by_cases ha0 : a = 0
    · have e : textL a b = [45, 105] := by unfold textL; rw [if_neg hb0, if_pos ha0, et]
      have HE := Lib.hid e; clear e et
      subst hbx
      subst ha0
      generalize Lib.itoa (-1) = t at ht l3
      go_enter Tryd.func22, Tryd.ntmps22
      go_wp2_with fail
      go_must (refine (ht _).mono ?_); rintro e w1 ⟨rfl, hb1⟩
      obtain ⟨hc0, hc1, hf0, hf1, hsz⟩ := two_cells hb1
      have hbw := ((Below.refl _ w).alloc (Nat.le_refl _) _).trans (hb1.mono (by simp))
      go_wp2
      go_ret
      refine ⟨?_, hbw⟩
      rw [HE.out]; rfl
    have hp0 : ¬ 0 < b := by omega
    have e : textL a b = Lib.itoa a ++ ([45, 105]) := by unfold textL; rw [if_neg hb0, if_neg ha0, if_neg hp0, et]
    have HE := Lib.hid e; clear e et
    have hba := Lib.hid (ba_app (Lib.itoa a) ([45, 105]))
    subst hbx
    have k4 : ((a : Int) == 0) = false := by simpa using ha0
    clear ha0
    generalize Lib.itoa (-1) = t at ht l3
    generalize Lib.itoa a = l at hi HE hba l1
    go_enter Tryd.func22, Tryd.ntmps22
    go_wp2_with fail
    go_must (refine (ht _).mono ?_); rintro e w1 ⟨rfl, hb1⟩
    obtain ⟨hc0, hc1, hf0, hf1, hsz⟩ := two_cells hb1
    have hbw := ((Below.refl _ w).alloc (Nat.le_refl _) _).trans (hb1.mono (by simp))
    go_wp2_with fail
    go_must (refine (hi _).mono ?_); rintro e w2 ⟨rfl, hb2⟩
    have hbw2 := hbw.trans (hb2.mono hbw.size)
    go_wp2
    go_ret
    refine ⟨?_, hbw2⟩
    rw [HE.out, ← hba.out]; rfl
  have et : tailL b = Lib.itoa b ++ [105] := by unfold tailL; rw [if_neg hby, if_neg hbx]
  by_cases ha0 : a = 0
  · have e : textL a b = Lib.itoa b ++ [105] := by unfold textL; rw [if_neg hb0, if_pos ha0, et]
    have HE := Lib.hid e; clear e et
    have hbt := Lib.hid (ba_app (Lib.itoa b) [105])
    have k1 : ((b : Int) == 1) = false := by simpa using hby
    have k2 : ((b : Int) == -1) = false := by simpa using hbx
    have k3 : ((b : Int) == 0) = false := by simpa using hb0
    clear hby hbx hb0
    subst ha0
    generalize Lib.itoa b = t at hbt HE ht l3
    go_enter Tryd.func22, Tryd.ntmps22
    go_wp2_with fail
    go_must (refine (ht _).mono ?_); rintro e w1 ⟨rfl, hb1⟩
    obtain ⟨hc0, hc1, hf0, hf1, hsz⟩ := two_cells hb1
    have hbw := ((Below.refl _ w).alloc (Nat.le_refl _) _).trans (hb1.mono (by simp))
    go_wp2
    go_ret
    refine ⟨?_, hbw⟩
    rw [HE.out, ← hbt.out]; rfl
  by_cases hp0 : 0 < b
  · have e : textL a b = Lib.itoa a ++ ([43] ++ (Lib.itoa b ++ [105])) := by unfold textL; rw [if_neg hb0, if_neg ha0, if_pos hp0, et]
    have HE := Lib.hid e; clear e et
    have hbt := Lib.hid (ba_app (Lib.itoa b) [105])
    have hba := Lib.hid (ba_app (Lib.itoa a) [43])
    have hbb := Lib.hid (ba_app (Lib.itoa a ++ [43]) (Lib.itoa b ++ [105]))
    have k1 : ((b : Int) == 1) = false := by simpa using hby
    have k2 : ((b : Int) == -1) = false := by simpa using hbx
    have k3 : ((b : Int) == 0) = false := by simpa using hb0
    clear hby hbx hb0
    have k4 : ((a : Int) == 0) = false := by simpa using ha0
    clear ha0
    generalize Lib.itoa b = t at hbt HE ht l3 hbb
    generalize Lib.itoa a = l at hi HE hba l1 hbb
    go_enter Tryd.func22, Tryd.ntmps22
    go_wp2_with fail
    go_must (refine (ht _).mono ?_); rintro e w1 ⟨rfl, hb1⟩
    obtain ⟨hc0, hc1, hf0, hf1, hsz⟩ := two_cells hb1
    have hbw := ((Below.refl _ w).alloc (Nat.le_refl _) _).trans (hb1.mono (by simp))
    go_wp2_with fail
    go_must (refine (hi _).mono ?_); rintro e w2 ⟨rfl, hb2⟩
    have hbw2 := hbw.trans (hb2.mono hbw.size)
    go_wp2
    go_ret
    refine ⟨?_, hbw2⟩
    rw [HE.out, ← List.append_assoc, ← hbb.out, ← hba.out, ← hbt.out]; rfl
  · have e : textL a b = Lib.itoa a ++ (Lib.itoa b ++ [105]) := by unfold textL; rw [if_neg hb0, if_neg ha0, if_neg hp0, et]
    have HE := Lib.hid e; clear e et
    have hbt := Lib.hid (ba_app (Lib.itoa b) [105])
    have hba := Lib.hid (ba_app (Lib.itoa a) (Lib.itoa b ++ [105]))
    have k1 : ((b : Int) == 1) = false := by simpa using hby
    have k2 : ((b : Int) == -1) = false := by simpa using hbx
    have k3 : ((b : Int) == 0) = false := by simpa using hb0
    clear hby hbx hb0
    have k4 : ((a : Int) == 0) = false := by simpa using ha0
    clear ha0
    generalize Lib.itoa b = t at hbt HE ht l3 hba
    generalize Lib.itoa a = l at hi HE hba l1
    go_enter Tryd.func22, Tryd.ntmps22
    go_wp2_with fail
    go_must (refine (ht _).mono ?_); rintro e w1 ⟨rfl, hb1⟩
    obtain ⟨hc0, hc1, hf0, hf1, hsz⟩ := two_cells hb1
    have hbw := ((Below.refl _ w).alloc (Nat.le_refl _) _).trans (hb1.mono (by simp))
    go_wp2_with fail
    go_must (refine (hi _).mono ?_); rintro e w2 ⟨rfl, hb2⟩
    have hbw2 := hbw.trans (hb2.mono hbw.size)
    go_wp2
    go_ret
    refine ⟨?_, hbw2⟩
    rw [HE.out, ← hba.out, ← hbt.out]; rfl
end Go.Proofs.YtkppkojpdhgicaaDoor
