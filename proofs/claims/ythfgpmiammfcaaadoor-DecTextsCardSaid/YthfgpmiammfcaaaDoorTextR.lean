/-
The reference's Text, by its contract.
-/
import Derived.Test.YthfgpmiammfcaaaDoorStrM
namespace Go.Proofs.YthfgpmiammfcaaaDoor
open Go.RowKit
open Num (digs valD cutL Ten)

/-- How long a string is. -/
def szOf : Value → Nat
  | .string s => s.size
  | _ => 0

theorem byte_at {s : ByteArray} {l : List UInt8} {k : Nat} (hkk : k < s.size) (hsl : s.data.toList = l.take (k + 1)) : l[k]? = some (s[k]'hkk) := by
  have h1 : s.data.toList[k]? = some (s[k]'hkk) := by
    rw [Array.getElem?_toList]
    exact Array.getElem?_eq_getElem hkk
  rw [hsl, List.getElem?_take_of_lt (by omega)] at h1
  exact h1
theorem trim_more {s : ByteArray} {l : List UInt8} {k i0 : Nat} {b0 : UInt8} (hb0 : l[i0]? = some b0) (hb48 : b0 ≠ 48) (hik : i0 ≤ k) (hsz : s.size = k + 1) (hsl : s.data.toList = l.take (k + 1))
    (hzs : ∀ (j : Nat) (b : UInt8), k + 1 ≤ j → l[j]? = some b → b = 48) (hkk : k < s.size) (h : (((s[k]'hkk).toNat : Int) == 48) = true) :
    ∃ k', k = k' + 1 ∧ i0 ≤ k' ∧ (s.extract 0 k).size = k' + 1 ∧ (s.extract 0 k).data.toList = l.take (k' + 1) ∧ ∀ (j : Nat) (b : UInt8), k' + 1 ≤ j → l[j]? = some b → b = 48 := by
  have hk := byte_at hkk hsl
  have h48 : s[k]'hkk = 48 := by
    apply UInt8.toNat_inj.1
    have := eq_of_beq h
    show (s[k]'hkk).toNat = 48
    omega
  rw [h48] at hk
  have hne : i0 ≠ k := by
    rintro rfl
    rw [hk] at hb0
    exact hb48 (Option.some.inj hb0).symm
  refine ⟨k - 1, by omega, by omega, ?_, ?_, ?_⟩
  · rw [ByteArray.size_extract]; omega
  · rw [ByteArray.data_extract, Array.toList_extract, hsl, List.extract_eq_take_drop]
    rw [show k - 1 + 1 = k from by omega]
    simp [List.take_take]
  · intro j b hj hb
    rcases (show j = k ∨ k + 1 ≤ j from by omega) with rfl | h'
    · rw [hk] at hb; exact (Option.some.inj hb).symm
    · exact hzs j b h' hb
theorem trim_done {s : ByteArray} {l : List UInt8} {k : Nat} (hl : k < l.length) (hsl : s.data.toList = l.take (k + 1))
    (hzs : ∀ (j : Nat) (b : UInt8), k + 1 ≤ j → l[j]? = some b → b = 48) (hkk : k < s.size) (h : (((s[k]'hkk).toNat : Int) == 48) = false) : Lib.trimRightB l 48 = s.data.toList := by
  rw [hsl]
  refine Lib.trimRightB_take l 48 (k + 1) (by omega) hzs (fun b _ hb => ?_)
  rw [show k + 1 - 1 = k from rfl, byte_at hkk hsl] at hb
  have := Option.some.inj hb
  subst this
  intro h2
  rw [h2] at h
  exact absurd h (by decide)
theorem cat_a (q : List UInt8) (s : ByteArray) : (⟨q.toArray⟩ ++ ⟨#[46]⟩ ++ s : ByteArray) = ⟨(q ++ 46 :: s.data.toList).toArray⟩ := by
  apply ByteArray.ext
  simp
theorem cat_b (q : List UInt8) (s : ByteArray) : (⟨#[45]⟩ ++ ⟨q.toArray⟩ ++ ⟨#[46]⟩ ++ s : ByteArray) = ⟨(45 :: (q ++ 46 :: s.data.toList)).toArray⟩ := by
  apply ByteArray.ext
  simp

theorem digits_one (w : World) (v : Value) (q : Nat) (h : Rd w v (digs q)) (hb : (digs q).length ≤ 100) :
    Calls Tryd.prog 52 #[v, .int .i64 1] w fun e w' => e = .returned (.string ⟨(Lib.decDigits q).toArray⟩) ∧ Below w.heap.size w w' := by
  rw [dec_str q]
  exact digits_any w v (digs q) h (Num.digs_ten _) hb 1 (by decide)
theorem digits_six (w : World) (v : Value) (xs : List Nat) (h : Rd w v xs) (tx : Ten xs) (hb : xs.length ≤ 6) :
    Calls Tryd.prog 52 #[v, .int .i64 6] w fun e w' => e = .returned (.string ⟨(strD xs 6).toArray⟩) ∧ Below w.heap.size w w' := by
  have := digits_any w v xs h tx (by omega) 6 (by decide)
  rw [show max xs.length 6 = 6 from by omega] at this
  exact this

set_option maxRecDepth 20000 in
set_option maxHeartbeats 4000000 in
/-- ref.Text: no fraction. -/
theorem rtext_whole (z : Int) (hz : I64 z) (m : Bool) (n : Nat) (hm : decide (z < 0) = m) (hn : z.natAbs = n) (h0 : n % 1000000 = 0) (w : World) :
    Calls Tryd.prog 34 #[.int .i64 z] w fun e w' => e = .returned (.string ⟨((if m then [45] else []) ++ Lib.decDigits (n / 1000000)).toArray⟩) ∧ Below w.heap.size w w' := by
  have la := len_int z hz
  have lm := mil_len
  have fa := fun w => from_any z hz.1 hz.2 w
  have hof := fun w => of_z (1000000 : Int) 1000000 rfl (by decide) w
  rw [hm, hn] at fa
  rw [hn] at la
  have lq := Nat.le_trans (Num.digs_length_mono (Nat.div_le_self n 1000000)) la
  have hql := dec_len (u := n / 1000000) (by unfold I64 at hz; omega)
  obtain ⟨q, hq0⟩ : ∃ q, n / 1000000 = q := ⟨_, rfl⟩
  rw [hq0] at lq hql ⊢
  have HQ := Lib.hid hq0
  clear hq0
  have H0 := Lib.hid h0; clear h0 hm hn
  go_enter Tryd.func34, Tryd.ntmps34
  go_wp2_with fail
  go_must (refine (fa _).mono ?_); rintro e w1 ⟨v1, rfl, hown1, hbel1⟩
  obtain ⟨p1, c1, rfl⟩ := hown1.lens rfl
  go_wp2
  go_region_held3 (fun w' => w'.cell? ⟨w1.heap.size, 0, none⟩ = some (.bool m) ∧ w'.cell? ⟨w1.heap.size, 1, none⟩ = some (.slice p1 (digs n).length c1))
    (first | exact S4 | exact S3 | go_keep)
    (first
      | (go_at_call 19; refine (hof _).mono ?_; rintro e w3 ⟨v3, rfl, hown3, hbel3⟩; have S3 := two_cellsD hbel3; have HB3 := belowA hbel1 hbel3; have ra3 := rdA hown1 hbel3)
      | (go_at_call 51; refine (over_any _ _ _ n 1000000 ra3 hown3.rd ?_ ?_ ?_).mono ?_; omega; omega; omega; rintro e w4 ⟨v4, v5, rfl, hq, hr, hbel4⟩; rw [H0.out, Num.digs_zero] at hr; rw [HQ.out] at hq; obtain ⟨p4, c4, rfl⟩ := hq.lens rfl; obtain ⟨p5, c5, rfl⟩ := hr.lens rfl; have S4 := And.intro (cellB S3.1 hbel4) (cellB S3.2 hbel4); have HB4 := HB3.trans (hbel4.mono HB3.size)))
  go_wp2_with fail
  go_must (refine (digits_one _ _ q hq.rd (by omega)).mono ?_); rintro e w5 ⟨rfl, hbel5⟩
  have S5 := And.intro (cellB S4.1 hbel5) (cellB S4.2 hbel5)
  have HB5 := HB4.trans (hbel5.mono HB4.size)
  obtain ⟨S51, S52⟩ := S5
  go_wp2
  all_goals go_ret
  all_goals refine ⟨ret_str ?_, HB5⟩
  all_goals first | exact ba_app [45] _ | rfl
set_option maxRecDepth 20000 in
set_option maxHeartbeats 4000000 in
/-- ref.Text: a fraction. -/
theorem rtext_frac (z : Int) (hz : I64 z) (m : Bool) (n : Nat) (hm : decide (z < 0) = m) (hn : z.natAbs = n) (h0 : n % 1000000 ≠ 0) (w : World) :
    Calls Tryd.prog 34 #[.int .i64 z] w fun e w' => e = .returned (.string ⟨((if m then [45] else []) ++ (Lib.decDigits (n / 1000000) ++ 46 :: Lib.trimRightB (strD (digs (n % 1000000)) 6) 48)).toArray⟩) ∧ Below w.heap.size w w' := by
  have la := len_int z hz
  have lm := mil_len
  have fa := fun w => from_any z hz.1 hz.2 w
  have hof := fun w => of_z (1000000 : Int) 1000000 rfl (by decide) w
  rw [hm, hn] at fa
  rw [hn] at la
  have lq := Nat.le_trans (Num.digs_length_mono (Nat.div_le_self n 1000000)) la
  have hql := dec_len (u := n / 1000000) (by unfold I64 at hz; omega)
  obtain ⟨q, hq0⟩ : ∃ q, n / 1000000 = q := ⟨_, rfl⟩
  rw [hq0] at lq hql ⊢
  have HQ := Lib.hid hq0
  clear hq0
  obtain ⟨r, hr0⟩ : ∃ r, n % 1000000 = r := ⟨_, rfl⟩
  have hr6 : r < 1000000 := by omega
  rw [hr0] at h0 ⊢
  have HR := Lib.hid hr0; clear hr0
  have lr : (digs r).length ≤ 6 := Num.digs_length_le (by omega)
  obtain ⟨i0, hi0, hne0⟩ := strD_some 6 r hr6 h0
  obtain ⟨b0, hb0, hb48⟩ : ∃ b, (strD (digs r) 6)[i0]? = some b ∧ b ≠ 48 := ⟨_, List.getElem?_eq_getElem hi0, hne0⟩
  clear hne0
  have h1r : 1 ≤ (digs r).length := by rw [Num.digs_pos h0]; simp
  obtain ⟨l, hl⟩ : ∃ l, strD (digs r) 6 = l := ⟨_, rfl⟩
  have hl6 : l.length = 6 := by rw [← hl]; exact strD_length _ _
  rw [hl] at hi0 hb0 ⊢
  have HL := Lib.hid hl; clear hl hm hn h0
  go_enter Tryd.func34, Tryd.ntmps34
  go_wp2_with fail
  go_must (refine (fa _).mono ?_); rintro e w1 ⟨v1, rfl, hown1, hbel1⟩
  obtain ⟨p1, c1, rfl⟩ := hown1.lens rfl
  go_wp2
  go_region_held3 (fun w' => w'.cell? ⟨w1.heap.size, 0, none⟩ = some (.bool m) ∧ w'.cell? ⟨w1.heap.size, 1, none⟩ = some (.slice p1 (digs n).length c1))
    (first | exact S4 | exact S3 | go_keep)
    (first
      | (go_at_call 19; refine (hof _).mono ?_; rintro e w3 ⟨v3, rfl, hown3, hbel3⟩; have S3 := two_cellsD hbel3; have HB3 := belowA hbel1 hbel3; have ra3 := rdA hown1 hbel3)
      | (go_at_call 51; refine (over_any _ _ _ n 1000000 ra3 hown3.rd ?_ ?_ ?_).mono ?_; omega; omega; omega; rintro e w4 ⟨v4, v5, rfl, hq, hr, hbel4⟩; rw [HR.out] at hr; rw [HQ.out] at hq; obtain ⟨p4, c4, rfl⟩ := hq.lens rfl; obtain ⟨p5, c5, rfl⟩ := hr.lens rfl; have S4 := And.intro (cellB S3.1 hbel4) (cellB S3.2 hbel4); have HB4 := HB3.trans (hbel4.mono HB3.size)))
  go_wp2_with fail
  go_must (refine (digits_one _ _ q hq.rd (by omega)).mono ?_); rintro e w5 ⟨rfl, hbel5⟩
  have S5 := And.intro (cellB S4.1 hbel5) (cellB S4.2 hbel5)
  have HB5 := HB4.trans (hbel5.mono HB4.size)
  obtain ⟨S51, S52⟩ := S5
  go_wp2_with fail
  all_goals
    go_must (refine (digits_six _ _ (digs r) (hr.below hbel5).rd (Num.digs_ten _) lr).mono ?_); rintro e w6 ⟨rfl, hbel6⟩
    rw [HL.out]
    have HB6 := HB5.trans (hbel6.mono HB5.size)
    clear S4 S51 S52 hown1 hown3 hq hr
    go_wp2
    go_loop [7] (fun tv => ∃ (k : Nat) (s : ByteArray), tv = .string s ∧ k < 6 ∧ i0 ≤ k ∧ s.size = k + 1 ∧ Hid (s.data.toList = l.take (k + 1)) ∧ Hid (∀ (j : Nat) b, k + 1 ≤ j → l[j]? = some b → b = 48)) (fun tv => szOf tv)
    case atStart =>
      exact ⟨5, ⟨l.toArray⟩, rfl, by omega, by omega, by show l.toArray.size = 6; simp [hl6], by show l.toArray.toList = _; rw [List.take_of_length_le (by omega)], fun j b hj hb => by rw [List.getElem?_eq_none (by omega)] at hb; cases hb⟩
    case round =>
      obtain ⟨k, s, rfl, hk, hik, hsz, hsl, hzs⟩ := hrel
      have hkk : k < s.size := by omega
      rcases Bool.eq_false_or_eq_true (((s[k]'hkk).toNat : Int) == 48) with hT | hF
      · have hmore := trim_more hb0 hb48 hik hsz hsl.out hzs.out hkk hT
        have HMO := Lib.hid hmore; clear hmore
        go_wp2
        go_round
        case rel =>
          obtain ⟨k', rfl, h1, h2, h3, h4⟩ := HMO.out
          exact ⟨k', _, rfl, by omega, h1, h2, h3, h4⟩
        case measure =>
          obtain ⟨k', rfl, h1, h2, h3, h4⟩ := HMO.out
          show (s.extract 0 (k' + 1)).size < s.size
          omega
      · have hdone := trim_done (by omega) hsl.out hzs.out hkk hF
        have HDO := Lib.hid hdone; clear hdone
        go_wp2
        all_goals go_ret
        all_goals refine ⟨ret_str ?_, HB6⟩
        all_goals rw [HDO.out]
        all_goals first | exact cat_b _ _ | exact cat_a _ _

/-- ref.Text. -/
theorem rtext_any (z : Int) (hz : I64 z) (w : World) :
    Calls Tryd.prog 34 #[.int .i64 z] w fun e w' => e = .returned (.string ⟨(textL z).toArray⟩) ∧ Below w.heap.size w w' := by
  by_cases h : z.natAbs % 1000000 = 0
  · have e : textL z = (if decide (z < 0) then [45] else []) ++ Lib.decDigits (z.natAbs / 1000000) := by
      unfold textL
      simp only [if_pos h]
      by_cases hz : z < 0 <;> simp [hz]
    rw [e]
    exact rtext_whole z hz _ _ rfl rfl h w
  · have e : textL z = (if decide (z < 0) then [45] else []) ++ (Lib.decDigits (z.natAbs / 1000000) ++ 46 :: Lib.trimRightB (strD (digs (z.natAbs % 1000000)) 6) 48) := by
      unfold textL
      simp only [if_neg h]
      rw [pad6 (Nat.mod_lt _ (by decide))]
      by_cases hz : z < 0 <;> simp [hz]
    rw [e]
    exact rtext_frac z hz _ _ rfl rfl h w
end Go.Proofs.YthfgpmiammfcaaaDoor
