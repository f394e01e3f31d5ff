/-
The program's split, by its contract: where a text is cut.
-/
import Derived.Test.YtkppkojpdhgicaaDoorGLast
import Derived.Test.YtkppkojpdhgicaaDoorGMath
namespace Go.Proofs.YtkppkojpdhgicaaDoor
open Go.RowKit Go.Proofs.YtkppkojpdhgicaaDoor.Gf

def fix1 (p : List UInt8) : List UInt8 := if p = [] then [48] else p
def fix2 (q : List UInt8) : List UInt8 := if q = [] ∨ q = [43] ∨ q = [45] then q ++ [49] else q
/-- The two parts of a text. -/
def SplitR (l f g : List UInt8) : Prop :=
  (Lib.hasSuffix l [105] = false ∧ f = l ∧ g = [48]) ∨
  (Lib.hasSuffix l [105] = true ∧ ∃ k : Nat, k ≤ (Lib.trimSuffix l [105]).length ∧ f = fix1 ((Lib.trimSuffix l [105]).take k) ∧ g = fix2 ((Lib.trimSuffix l [105]).drop k) ∧
    (Ascii (Lib.trimSuffix l [105]) → LastS (Lib.trimSuffix l [105]) (k : Int) ∨ (k = 0 ∧ LastS (Lib.trimSuffix l [105]) (-1))))
def SplitOk (l : List UInt8) (e : Ending) : Prop := ∃ f g : List UInt8, e = .returned (.tuple #[.string ⟨f.toArray⟩, .string ⟨g.toArray⟩]) ∧ f.length ≤ 61 ∧ g.length ≤ 61 ∧ SplitR l f g

theorem ba_list (s : ByteArray) : s = ⟨s.data.toList.toArray⟩ := by cases s; rfl

set_option maxRecDepth 20000 in
set_option maxHeartbeats 2000000 in
theorem split_no (s : ByteArray) (hs : s.size ≤ 60) (h : Lib.hasSuffix s.data.toList [105] = false) (w : World) :
    Calls Tryd.prog 25 #[.string s] w fun e w' => SplitOk s.data.toList e ∧ Below w.heap.size w w' := by
  have hc := fun w => Tryd.strings_CutSuffix s ⟨#[105]⟩ w (by omega)
  rw [show (⟨#[105]⟩ : ByteArray).data.toList = [105] from rfl, h] at hc
  have HS := Lib.hid h; clear h
  go_enter Tryd.func25, Tryd.ntmps25
  go_wp2_with fail
  go_must (refine (hc _).mono ?_); rintro e w' ⟨rfl, hw⟩; subst hw
  go_wp2
  go_ret2
  exact ⟨⟨s.data.toList, [48], by rw [← ba_list s]; rfl, by rw [← Lib.size_eq]; omega, by simp, .inl ⟨HS.out, rfl, rfl⟩⟩, Below.refl _ _⟩

set_option maxRecDepth 20000 in
set_option maxHeartbeats 2000000 in
theorem split_yes (s : ByteArray) (hs : s.size ≤ 60) (h : Lib.hasSuffix s.data.toList [105] = true) (w : World) (hE : Env w) :
    Calls Tryd.prog 25 #[.string s] w fun e w' => SplitOk s.data.toList e ∧ Below w.heap.size w w' := by
  have hc := fun w => Tryd.strings_CutSuffix s ⟨#[105]⟩ w (by omega)
  rw [show (⟨#[105]⟩ : ByteArray).data.toList = [105] from rfl, h] at hc
  have hl : s.data.toList.length ≤ 60 := by rw [← Lib.size_eq]; exact hs
  have hT := Lib.trimSuffix_le s.data.toList [105]
  obtain ⟨R, hR⟩ : ∃ R, Lib.trimSuffix s.data.toList [105] = R := ⟨_, rfl⟩
  rw [hR] at hc hT
  have hRl : R.length ≤ 60 := by omega
  have HS := Lib.hid h
  have HR := Lib.hid hR
  clear h hR hT hl
  go_enter Tryd.func25, Tryd.ntmps25
  go_wp2_with fail
  go_must (refine (hc _).mono ?_); rintro e w' ⟨rfl, hw⟩; subst hw
  go_wp2_with fail
  go_must (refine (lia_any ⟨R.toArray⟩ (by simp [ByteArray.size]; omega) _ hE).mono ?_); rintro e w1 ⟨⟨r, rfl, hr1, hr2, hLS⟩, hb1⟩
  have HLS := Lib.hid hLS; clear hLS
  go_wp2
  obtain ⟨k, hk⟩ : ∃ k : Nat, max r 0 = (k : Int) := ⟨(max r 0).toNat, by omega⟩
  rw [hk]
  have hsz : (⟨R.toArray⟩ : ByteArray).size = R.length := by simp [ByteArray.size]
  have hkR : k ≤ R.length := by omega
  have hkb : k ≤ (⟨R.toArray⟩ : ByteArray).size := by omega
  have hk' : Ascii R → LastS R (k : Int) ∨ (k = 0 ∧ LastS R (-1)) := fun h => by
    have := HLS.out h
    rcases Int.lt_or_le r 0 with h' | h'
    · obtain rfl : r = -1 := by omega
      exact .inr ⟨by omega, this⟩
    · rw [show (k : Int) = r by omega]; exact .inl this
  have HK := Lib.hid hk'
  have hSz : (⟨R.toArray⟩ : ByteArray).size ≤ 60 := by omega
  clear hk hk' hsz HLS hr1 hr2
  go_quiet (fail)
  have x1 : (⟨R.toArray⟩ : ByteArray).extract 0 k = ⟨(R.take k).toArray⟩ := by
    apply ByteArray.ext; simp [ByteArray.data_extract]
  have x2 : (⟨R.toArray⟩ : ByteArray).extract k R.length = ⟨(R.drop k).toArray⟩ := by
    rw [Lib.extract_eq, List.take_of_length_le (by simp)]
  have lp : (R.take k).length ≤ 60 := by simp; omega
  have lq : (R.drop k).length ≤ 60 := by simp; omega
  rw [x1, x2]
  clear x1 x2 hSz hkb
  have hb2 : Below w'.heap.size w' (w1.drewN nq) := below_drewN hb1 nq
  have hfin : ∀ f g : List UInt8, f = fix1 (R.take k) → g = fix2 (R.drop k) → SplitOk s.data.toList (.returned (.tuple #[.string ⟨f.toArray⟩, .string ⟨g.toArray⟩])) := fun f g h1 h2 => by
    refine ⟨f, g, rfl, ?_, ?_, .inr ⟨HS.out, k, ?_, ?_, ?_, ?_⟩⟩
    · rw [h1]; unfold fix1; split
      · simp
      · omega
    · rw [h2]; unfold fix2; split
      · simp at lq ⊢; omega
      · omega
    all_goals rw [HR.out]
    · exact hkR
    · exact h1
    · exact h2
    · exact HK.out
  have HF := Lib.hid hfin
  clear hfin HK HS HR
  obtain ⟨p, hp⟩ : ∃ p, R.take k = p := ⟨_, rfl⟩
  obtain ⟨q, hq⟩ : ∃ q, R.drop k = q := ⟨_, rfl⟩
  rw [hp] at HF lp ⊢
  rw [hq] at HF lq ⊢
  clear hp hq
  by_cases hp0 : p = []
  · subst hp0
    by_cases hq0 : q = []
    · subst hq0
      go_wp2
      go_ret2
      exact ⟨HF.out [48] [49] rfl rfl, hb2⟩
    by_cases hq1 : q = [43]
    · subst hq1
      go_wp2
      go_ret2
      exact ⟨HF.out [48] [43, 49] rfl rfl, hb2⟩
    by_cases hq2 : q = [45]
    · subst hq2
      go_wp2
      go_ret2
      exact ⟨HF.out [48] [45, 49] rfl rfl, hb2⟩
    have hq3 : fix2 q = q := by unfold fix2; rw [if_neg (by rintro (h | h | h); exact hq0 h; exact hq1 h; exact hq2 h)]
    have HQ := Lib.hid hq3; clear hq3
    have e0 : q.isEmpty = false := by cases q; exact absurd rfl hq0; rfl
    have e1 : (q == [43]) = false := by simpa using hq1
    have e2 : (q == [45]) = false := by simpa using hq2
    clear hq0 hq1 hq2
    go_wp2
    go_ret2
    exact ⟨HF.out [48] q rfl HQ.out.symm, hb2⟩
  · have hp1 : fix1 p = p := if_neg hp0
    have HP := Lib.hid hp1; clear hp1
    have e3 : p.isEmpty = false := by cases p; exact absurd rfl hp0; rfl
    clear hp0
    by_cases hq0 : q = []
    · subst hq0
      go_wp2
      go_ret2
      exact ⟨HF.out p [49] HP.out.symm rfl, hb2⟩
    by_cases hq1 : q = [43]
    · subst hq1
      go_wp2
      go_ret2
      exact ⟨HF.out p [43, 49] HP.out.symm rfl, hb2⟩
    by_cases hq2 : q = [45]
    · subst hq2
      go_wp2
      go_ret2
      exact ⟨HF.out p [45, 49] HP.out.symm rfl, hb2⟩
    have hq3 : fix2 q = q := by unfold fix2; rw [if_neg (by rintro (h | h | h); exact hq0 h; exact hq1 h; exact hq2 h)]
    have HQ := Lib.hid hq3; clear hq3
    have e0 : q.isEmpty = false := by cases q; exact absurd rfl hq0; rfl
    have e1 : (q == [43]) = false := by simpa using hq1
    have e2 : (q == [45]) = false := by simpa using hq2
    clear hq0 hq1 hq2
    go_wp2
    go_ret2
    exact ⟨HF.out p q HP.out.symm HQ.out.symm, hb2⟩

/-- split. -/
theorem split_any (s : ByteArray) (hs : s.size ≤ 60) (w : World) (hE : Env w) :
    Calls Tryd.prog 25 #[.string s] w fun e w' => SplitOk s.data.toList e ∧ Below w.heap.size w w' := by
  cases h : Lib.hasSuffix s.data.toList [105] with
  | false => exact split_no s hs h w
  | true => exact split_yes s hs h w hE
end Go.Proofs.YtkppkojpdhgicaaDoor
