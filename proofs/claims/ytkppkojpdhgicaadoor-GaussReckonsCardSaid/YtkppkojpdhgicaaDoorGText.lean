/-
The program's Text and the reference's Digits and Text, by contracts: they write the same bytes.
-/
import Derived.Test.YtkppkojpdhgicaaDoorGEnv
import Derived.Laws.IdiomStrings
namespace Go.Proofs.YtkppkojpdhgicaaDoor
open Go.RowKit Go.Proofs.YtkppkojpdhgicaaDoor.Gf

/-- The second part's text. -/
def tailL (b : Int) : List UInt8 := if b = 1 then [105] else if b = -1 then [45, 105] else Lib.itoa b ++ [105]
/-- A number's text. -/
def textL (a b : Int) : List UInt8 :=
  if b = 0 then Lib.itoa a else if a = 0 then tailL b else if 0 < b then Lib.itoa a ++ ([43] ++ tailL b) else Lib.itoa a ++ tailL b

theorem ba_app (xs ys : List UInt8) : (⟨xs.toArray⟩ ++ ⟨ys.toArray⟩ : ByteArray) = ⟨(xs ++ ys).toArray⟩ := by
  apply ByteArray.ext
  simp

theorem dec_length (n : Nat) (h : n ≤ 9223372036854775808) : (Lib.decDigits n).length ≤ 20 := by
  by_cases h0 : n < 10
  · rw [Lib.decDigits_one h0]; simp
  · rw [Lib.decDigits_length]
    have := Lib.numDigits_eq n (by omega) (by omega); split at this <;> omega
theorem itoa_length (n : Int) (h0 : -9223372036854775808 ≤ n) (h1 : n ≤ 9223372036854775807) : (Lib.itoa n).length ≤ 21 := by
  unfold Lib.itoa
  split
  · have := dec_length n.natAbs (by omega); simp; omega
  · have := dec_length n.toNat (by omega); omega
theorem tail_length (b : Int) (h0 : -9223372036854775808 ≤ b) (h1 : b ≤ 9223372036854775807) : (tailL b).length ≤ 22 := by
  have := itoa_length b h0 h1
  unfold tailL
  split
  · decide
  · split
    · decide
    · simp; omega
theorem text_length (a b : Int) (h : Rg a b) : (textL a b).length ≤ 44 := by
  unfold Rg at h
  have l1 := itoa_length a (by omega) (by omega)
  have l2 := tail_length b (by omega) (by omega)
  unfold textL
  split
  · omega
  · split
    · omega
    · split <;> simp <;> omega

/-- tail. -/
theorem tail_any (b : Int) (h : -1048576 ≤ b ∧ b ≤ 1048576) (w : World) (hE : Env w) :
    Calls Tryd.prog 29 #[.int .i64 b] w fun e w' => e = .returned (.string ⟨(tailL b).toArray⟩) ∧ Below w.heap.size w w' := by
  by_cases h1 : b = 1
  · subst h1
    go_enter Tryd.func29, Tryd.ntmps29
    go_wp2
    go_ret
    exact ⟨rfl, Below.refl _ _⟩
  by_cases h2 : b = -1
  · subst h2
    go_enter Tryd.func29, Tryd.ntmps29
    go_wp2
    go_ret
    exact ⟨rfl, Below.refl _ _⟩
  have e : tailL b = Lib.itoa b ++ [105] := by unfold tailL; rw [if_neg h1, if_neg h2]
  have k1 : ((b : Int) == 1) = false := by simpa using h1
  have k2 : ((b : Int) == -1) = false := by simpa using h2
  have hi := itoa_any b (by omega) (by omega) w hE
  have hl := itoa_length b (by omega) (by omega)
  have hba := Lib.hid (ba_app (Lib.itoa b) [105])
  have HE := Lib.hid e; clear e h1 h2
  generalize Lib.itoa b = l at hi hba HE hl
  go_enter Tryd.func29, Tryd.ntmps29
  go_wp2_with fail
  go_must (refine hi.mono ?_); rintro e w1 ⟨rfl, hb1⟩
  go_wp2
  go_ret
  refine ⟨?_, hb1⟩
  rw [HE.out, ← hba.out]; rfl

/-- Text. -/
theorem text_any (a b : Int) (h : Rg a b) (w : World) (hE : Env w) :
    Calls Tryd.prog 21 #[cv a b] w fun e w' => e = .returned (.string ⟨(textL a b).toArray⟩) ∧ Below w.heap.size w w' := by
  have hp := fun w => parts_any a b h w
  obtain ⟨⟨h1, h2⟩, h3, h4⟩ := h
  have hi := fun w hE => itoa_any a (by omega) (by omega) w hE
  have ht := fun w hE => tail_any b ⟨h3, h4⟩ w hE
  have l1 := itoa_length a (by omega) (by omega)
  have l2 := tail_length b (by omega) (by omega)
  by_cases hb0 : b = 0
  · have e : textL a b = Lib.itoa a := by unfold textL; rw [if_pos hb0]
    rw [e]; clear e
    subst hb0
    generalize Lib.itoa a = l at hi l1 ⊢
    go_enter Tryd.func21, Tryd.ntmps21
    go_wp2_with (first | (go_at_call 23; go_must (refine (hp _).mono ?_); rintro e w' ⟨rfl, rfl⟩) | (go_at_call 28; go_must (refine (hi _ hE).mono ?_); rintro e w' ⟨rfl, hb⟩))
    go_ret
    exact ⟨rfl, hb⟩
  have k1 : ((b : Int) == 0) = false := by simpa using hb0
  by_cases ha0 : a = 0
  · have e : textL a b = tailL b := by unfold textL; rw [if_neg hb0, if_pos ha0]
    rw [e]; clear e
    subst ha0
    generalize tailL b = l at ht l2 ⊢
    clear hb0
    go_enter Tryd.func21, Tryd.ntmps21
    go_wp2_with (first | (go_at_call 23; go_must (refine (hp _).mono ?_); rintro e w' ⟨rfl, rfl⟩) | (go_at_call 29; go_must (refine (ht _ hE).mono ?_); rintro e w' ⟨rfl, hb⟩))
    go_ret
    exact ⟨rfl, hb⟩
  have k2 : ((a : Int) == 0) = false := by simpa using ha0
  by_cases hp0 : 0 < b
  · have e : textL a b = Lib.itoa a ++ ([43] ++ tailL b) := by unfold textL; rw [if_neg hb0, if_neg ha0, if_pos hp0]
    have hba := Lib.hid (ba_app (Lib.itoa a) [43])
    have hbb := Lib.hid (ba_app (Lib.itoa a ++ [43]) (tailL b))
    have HE := Lib.hid e; clear e ha0 hb0
    generalize Lib.itoa a = l at hi l1 hba hbb HE
    generalize tailL b = t at ht l2 hbb HE
    go_enter Tryd.func21, Tryd.ntmps21
    go_wp2_with (go_at_call 23; go_must (refine (hp _).mono ?_); rintro e w' ⟨rfl, rfl⟩)
    go_must (refine (hi _ hE).mono ?_); rintro e w1 ⟨rfl, hb1⟩
    have hE1 := hE.below hb1
    go_wp2_with fail
    go_must (refine (ht _ hE1).mono ?_); rintro e w2 ⟨rfl, hb2⟩
    have hb12 := hb1.trans (hb2.mono hb1.size)
    go_wp2
    go_ret
    refine ⟨?_, hb12⟩
    rw [HE.out, ← List.append_assoc, ← hbb.out, ← hba.out]; rfl
  · have e : textL a b = Lib.itoa a ++ tailL b := by unfold textL; rw [if_neg hb0, if_neg ha0, if_neg hp0]
    have hba := Lib.hid (ba_app (Lib.itoa a) (tailL b))
    have HE := Lib.hid e; clear e ha0 hb0
    generalize Lib.itoa a = l at hi l1 hba HE
    generalize tailL b = t at ht l2 hba HE
    go_enter Tryd.func21, Tryd.ntmps21
    go_wp2_with (go_at_call 23; go_must (refine (hp _).mono ?_); rintro e w' ⟨rfl, rfl⟩)
    go_must (refine (hi _ hE).mono ?_); rintro e w1 ⟨rfl, hb1⟩
    have hE1 := hE.below hb1
    go_wp2_with fail
    go_must (refine (ht _ hE1).mono ?_); rintro e w2 ⟨rfl, hb2⟩
    have hb12 := hb1.trans (hb2.mono hb1.size)
    go_wp2
    go_ret
    refine ⟨?_, hb12⟩
    rw [HE.out, ← hba.out]; rfl
end Go.Proofs.YtkppkojpdhgicaaDoor
