/-
The program's dec.Text, by its contract.
-/
import Derived.Test.YthfgpmiammfcaaaDoorFmt
import Derived.Test.YthfgpmiammfcaaaDoorDecA
import Derived.Deep.RegionWith
namespace Go.Proofs.YthfgpmiammfcaaaDoor
open Go.RowKit

/-- A number's text. -/
def textL (z : Int) : List UInt8 :=
  let n := z.natAbs
  let t := Lib.decDigits (n / 1000000)
  let t2 := if n % 1000000 = 0 then t else t ++ 46 :: Lib.trimRightB (Lib.decDigits (1000000 + n % 1000000)).tail 48
  if z < 0 then 45 :: t2 else t2

theorem ba_app (a b : List UInt8) : (⟨a.toArray⟩ ++ ⟨b.toArray⟩ : ByteArray) = ⟨(a ++ b).toArray⟩ := by
  apply ByteArray.ext
  simp
theorem ret_str {a b : ByteArray} (h : a = b) : Ending.returned (.string a) = .returned (.string b) := by rw [h]
theorem dec_len {u : Nat} (h : u < 18446744073709551616) : (Lib.decDigits u).length ≤ 20 := by
  rw [Lib.decDigits_length]
  by_cases h1 : 1 ≤ u
  · have := Lib.numDigits_eq u h1 h; split at this <;> omega
  · rw [Lib.nDigits_small (by omega)]; omega
theorem trimRight_len (l : List UInt8) (c : UInt8) : (Lib.trimRightB l c).length ≤ l.length := by
  unfold Lib.trimRightB
  rw [List.length_reverse]
  have := (List.dropWhile_sublist (fun x => x == c) (l := l.reverse)).length_le
  simpa using this

theorem str_a (q tr : List UInt8) : (⟨q.toArray⟩ ++ (⟨#[46]⟩ ++ ⟨tr.toArray⟩) : ByteArray) = ⟨(q ++ 46 :: tr).toArray⟩ := by
  apply ByteArray.ext
  simp
theorem str_b (q tr : List UInt8) : (⟨#[45]⟩ ++ (⟨q.toArray⟩ ++ (⟨#[46]⟩ ++ ⟨tr.toArray⟩)) : ByteArray) = ⟨(45 :: (q ++ 46 :: tr)).toArray⟩ := by
  apply ByteArray.ext
  simp
theorem ba_tail (l : List UInt8) (n : Nat) (h : l.length = n) : (⟨l.toArray⟩ : ByteArray).extract 1 n = ⟨l.tail.toArray⟩ := by
  apply ByteArray.ext
  simp [ByteArray.data_extract, ← h, List.extract_eq_take_drop, List.take_of_length_le]
theorem textL_frac {z : Int} {n q r : Nat} {pd : List UInt8} (hn : z.natAbs = n) (hq : n / 1000000 = q) (hr : n % 1000000 = r) (hp : Lib.decDigits (1000000 + r) = pd) (h0 : r ≠ 0) :
    textL z = if z < 0 then 45 :: (Lib.decDigits q ++ 46 :: Lib.trimRightB pd.tail 48) else Lib.decDigits q ++ 46 :: Lib.trimRightB pd.tail 48 := by
  subst hn hq hr hp
  unfold textL
  simp only [if_neg h0]

set_option maxRecDepth 20000 in
set_option maxHeartbeats 1000000 in
/-- dec.Text. -/
theorem text_any (z : Int) (hz : I64 z) (w : World) (hE : Env w) :
    Calls Tryd.prog 33 #[.int .i64 z] w fun e w' => e = .returned (.string ⟨(textL z).toArray⟩) ∧ Below w.heap.size w w' := by
  obtain ⟨n, hn⟩ : ∃ n, z.natAbs = n := ⟨_, rfl⟩
  have hn63 : n ≤ 9223372036854775808 := by unfold I64 at hz; omega
  obtain ⟨q, hq⟩ : ∃ q, n / 1000000 = q := ⟨_, rfl⟩
  obtain ⟨r, hr⟩ : ∃ r, n % 1000000 = r := ⟨_, rfl⟩
  have hql := dec_len (u := q) (by omega)
  have hq' : (n : Int) / 1000000 = (q : Int) := by omega
  have hr' : (n : Int) % 1000000 = (r : Int) := by omega
  have hsz := fun w => size_any z hz w
  rw [hn] at hsz
  have hr6 : r < 1000000 := by omega
  have hq64 : q < 18446744073709551616 := by omega
  have HN := Lib.hid hn; clear hn
  have HQ := Lib.hid hq; clear hq
  have HR := Lib.hid hr; clear hr
  by_cases hr0 : r = 0
  · subst hr0
    go_enter Tryd.func33, Tryd.ntmps33
    go_wp2_with (first
      | (go_at_call 40; go_must (refine (hsz _).mono ?_); rintro e w' ⟨rfl, rfl⟩)
      | (go_at_call 49; go_must (refine (formatUint q hq64 _ hE).mono ?_); rintro e w1 ⟨rfl, hb1⟩))
    · go_ret
      refine ⟨ret_str ?_, hb1⟩
      unfold textL
      rw [if_pos (by assumption), HN.out, HQ.out, HR.out]
      exact ba_app [45] _
    · have hz0 : ¬ z < 0 := by omega
      go_ret
      refine ⟨ret_str ?_, hb1⟩
      unfold textL
      rw [if_neg hz0, HN.out, HQ.out, HR.out]
      rfl
  · have hb2 : ((r : Int) == 0) = false := by rw [beq_eq_false_iff_ne]; omega
    have hb3 : ((r : Int) != 0) = true := by rw [bne_iff_ne]; omega
    have hlp := dec_len (u := 1000000 + r) (by omega)
    obtain ⟨pd, hpd⟩ : ∃ pd, Lib.decDigits (1000000 + r) = pd := ⟨_, rfl⟩
    have hpl : pd.length = 7 := by rw [← hpd, Lib.decDigits_length]; exact Lib.nDigits_unique 6 _ (by omega) (by omega)
    have HPD := Lib.hid hpd; clear hpd
    go_enter Tryd.func33, Tryd.ntmps33
    go_wp2_with (first
      | (go_at_call 40; go_must (refine (hsz _).mono ?_); rintro e w' ⟨rfl, rfl⟩)
      | (go_at_call_of 49 ((q : Nat) : Int); go_must (refine (formatUint q hq64 _ hE).mono ?_); rintro e w1 ⟨rfl, hb1⟩))
    refine (formatUint_z _ (1000000 + r) (by omega) (by omega) _ (hE.below hb1)).mono ?_; rintro e w2 ⟨rfl, hb2⟩
    rw [HPD.out]
    have hb12 := hb1.trans (hb2.mono hb1.size)
    go_wp2_with fail
    rw [ba_tail pd 7 hpl]
    have htl := trimRight_len pd.tail 48
    have hpt : pd.tail.length = 6 := by simp [hpl]
    have htr := Tryd.strings_TrimRight_one ⟨pd.tail.toArray⟩ 48 (by decide) w2 (by show pd.tail.toArray.size ≤ _; simp; omega)
    obtain ⟨tr, htre⟩ : ∃ tr, Lib.trimRightB pd.tail 48 = tr := ⟨_, rfl⟩
    rw [show (⟨pd.tail.toArray⟩ : ByteArray).data.toList = pd.tail from rfl, htre] at htr
    rw [htre] at htl
    have htr6 : tr.length ≤ 6 := by omega
    have HTR := Lib.hid htre; clear htre
    go_must (refine htr.mono ?_); rintro e w3 ⟨rfl, rfl⟩
    have hfin := textL_frac HN.out HQ.out HR.out HPD.out hr0
    rw [HTR.out] at hfin
    have HF := Lib.hid hfin; clear hfin htr
    go_wp2
    · go_ret
      refine ⟨ret_str ?_, hb12⟩
      rw [HF.out, if_pos (by assumption)]; exact str_b _ _
    · have hz0 : ¬ z < 0 := by omega
      go_ret
      refine ⟨ret_str ?_, hb12⟩
      rw [HF.out, if_neg hz0]; exact str_a _ _
end Go.Proofs.YthfgpmiammfcaaaDoor
