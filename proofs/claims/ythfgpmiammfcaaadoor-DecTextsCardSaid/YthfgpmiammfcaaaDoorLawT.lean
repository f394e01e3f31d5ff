/-
The law DecTexts, walked.
-/
import Derived.Test.YthfgpmiammfcaaaDoorAwake
import Derived.Test.YthfgpmiammfcaaaDoorParseS
import Derived.Test.YthfgpmiammfcaaaDoorParseE
namespace Go.Proofs.YthfgpmiammfcaaaDoor
open Go.RowKit

/-- ref.Parse. -/
theorem rparse_any (s : ByteArray) (hs : s.size ≤ 60) (w : World) :
    Calls Tryd.prog 32 #[.string s] w fun e w' => e = .returned (.tuple #[.int .i64 (parseL s.data.toList).1, .bool (parseL s.data.toList).2]) ∧ Below w.heap.size w w' := by
  have hp : parseL s.data.toList = rAns (Lib.hasPrefix s.data.toList [45]) (rF (Lib.trimPrefix s.data.toList [45])) := parse_same _ _
  rcases Nat.eq_zero_or_pos s.size with h0 | h0
  · have e : s.data.toList = [] := List.length_eq_zero_iff.1 (by simpa using h0)
    have e1 : parseL s.data.toList = rAns false (rF s.data.toList) := by rw [hp, e]; rfl
    rw [e1]
    exact rparse_empty s hs h0 w
  · obtain ⟨c, l, hl⟩ : ∃ c l, s.data.toList = c :: l := by
      cases h : s.data.toList with
      | nil =>
        have hh : s.data.toList.length = s.size := by simp
        rw [h] at hh
        exact absurd h0 (by rw [← hh]; decide)
      | cons c l => exact ⟨c, l, rfl⟩
    have hc : s[0]'h0 = c := by
      have h1 : s.data.toList[0]? = some (s[0]'h0) := by
        rw [Array.getElem?_toList]
        exact Array.getElem?_eq_getElem h0
      rw [hl] at h1
      exact (Option.some.inj h1).symm
    by_cases hm : c = 45
    · have e1 : parseL s.data.toList = rAns true (rF (s.extract 1 s.size).data.toList) := by
        rw [hp, hl, hm]
        have e2 : (s.extract 1 s.size).data.toList = l := by
          have := ba_tail s.data.toList s.size (by simp)
          have e3 : (⟨s.data.toList.toArray⟩ : ByteArray) = s := by cases s; simp
          rw [e3] at this
          rw [this, hl]; rfl
        rw [e2]
        have k1 : Lib.hasPrefix (45 :: l) [45] = true := by unfold Lib.hasPrefix; simp [List.isPrefixOf]
        have k2 : Lib.trimPrefix (45 :: l) [45] = l := by unfold Lib.trimPrefix; rw [if_pos k1]; rfl
        rw [k1, k2]
      rw [e1]
      exact rparse_minus s hs h0 (by rw [hc, hm]; rfl) _ rfl (by rw [ByteArray.size_extract]; omega) w
    · have e1 : parseL s.data.toList = rAns false (rF s.data.toList) := by
        rw [hp, hl]
        have k1 : Lib.hasPrefix (c :: l) [45] = false := by unfold Lib.hasPrefix; simp [List.isPrefixOf]; exact fun e => hm e.symm
        have k2 : Lib.trimPrefix (c :: l) [45] = c :: l := by unfold Lib.trimPrefix; rw [if_neg (by rw [k1]; decide)]
        rw [k1, k2]
      rw [e1]
      refine rparse_plain s hs h0 ?_ w
      rw [hc, beq_eq_false_iff_ne]
      intro e
      refine hm (UInt8.toNat_inj.1 ?_)
      show c.toNat = 45
      omega

theorem parse_i64 (l : List UInt8) : I64 (parseL l).1 := by
  unfold parseL parseOf
  simp only
  split
  · exact i64_zero
  · split
    · exact i64_zero
    · exact (toI_i64 _).1

theorem textL_len (z : Int) (hz : I64 z) : (textL z).length ≤ 100 := by
  have h1 := dec_len (u := z.natAbs / 1000000) (by unfold I64 at hz; omega)
  have h2 := trimRight_len (Lib.decDigits (1000000 + z.natAbs % 1000000)).tail 48
  have h3 := dec_len (u := 1000000 + z.natAbs % 1000000) (by omega)
  have h4 : (Lib.decDigits (1000000 + z.natAbs % 1000000)).tail.length ≤ 20 := by simp; omega
  unfold textL
  simp only
  split <;> split <;> simp <;> omega

set_option maxRecDepth 20000 in
set_option maxHeartbeats 2000000 in
theorem law_texts (a : Int) (s : ByteArray) (ha : I64 a) (w : World) (hE : Env w) :
    Calls Tryd.prog 7 #[.int .i64 a, .string s] w fun e w' => e = .returned (.bool true) ∧ Below w.heap.size w w' := by
  by_cases hs : 60 < s.size
  · have hs' : (60 : Int) < (s.size : Int) := by omega
    go_enter Tryd.func7, Tryd.ntmps7
    go_wp2_with fail
    go_must (refine (awake_any _ hE).mono ?_); rintro e w5 ⟨rfl, hb5⟩
    go_wp2
    go_ret
    exact ⟨rfl, hb5⟩
  · have hs' : s.size ≤ 60 := by omega
    have hi := parse_i64 s.data.toList
    have c1 := fun w hE => parse_any s (by omega) w hE
    have c2 := fun w => rparse_any s hs' w
    obtain ⟨x, hx⟩ : ∃ x, parseL s.data.toList = x := ⟨_, rfl⟩
    rw [hx] at c1 c2 hi
    obtain ⟨x1, x2⟩ := x
    have c3 := fun w hE => text_any a ha w hE
    have c4 := fun w => rtext_any a ha w
    have c5 := fun w hE => parse_any ⟨(textL a).toArray⟩ (by show (textL a).toArray.size ≤ _; have := textL_len a ha; simp; omega) w hE
    rw [show (⟨(textL a).toArray⟩ : ByteArray).data.toList = textL a from rfl, text_back a ha] at c5
    obtain ⟨t, ht⟩ : ∃ t, (⟨(textL a).toArray⟩ : ByteArray) = t := ⟨_, rfl⟩
    rw [ht] at c3 c4 c5
    clear ht hx hs
    go_enter Tryd.func7, Tryd.ntmps7
    go_wp2_with fail
    go_must (refine (c1 _ hE).mono ?_); rintro e w1 ⟨rfl, hb1⟩
    go_wp2_with fail
    go_must (refine (c2 _).mono ?_); rintro e w2 ⟨rfl, hb2⟩
    have hb12 := hb1.trans (hb2.mono hb1.size)
    go_wp2_with fail
    go_must (refine (c3 _ (hE.below hb12)).mono ?_); rintro e w3 ⟨rfl, hb3⟩
    have hb13 := hb12.trans (hb3.mono hb12.size)
    go_wp2_with fail
    go_must (refine (c5 _ (hE.below hb13)).mono ?_); rintro e w4 ⟨rfl, hb4⟩
    have hb14 := hb13.trans (hb4.mono hb13.size)
    go_wp2_with fail
    go_must (refine (c3 _ (hE.below hb14)).mono ?_); rintro e w5 ⟨rfl, hb5⟩
    have hb15 := hb14.trans (hb5.mono hb14.size)
    go_wp2_with fail
    go_must (refine (c4 _).mono ?_); rintro e w6 ⟨rfl, hb6⟩
    have hb16 := hb15.trans (hb6.mono hb15.size)
    go_wp2_with fail
    go_must (refine (awake_any _ (hE.below hb16)).mono ?_); rintro e w7 ⟨rfl, hb7⟩
    go_wp2
    go_ret
    exact ⟨rfl, hb16.trans (hb7.mono hb16.size)⟩
end Go.Proofs.YthfgpmiammfcaaaDoor
