/-
A number's text is read back as the number. No program in it.
-/
import Derived.Test.YthfgpmiammfcaaaDoorParM
import Derived.Test.YthfgpmiammfcaaaDoorRefI
namespace Go.Proofs.YthfgpmiammfcaaaDoor
open Go.RowKit
open Num (digs valD cutL Ten)

theorem digit_byte {d : Nat} (h : d < 10) : (UInt8.ofNat (48 + d)).toNat = 48 + d := by simp; omega
theorem dF_one {d : Nat} (h : d < 10) (v : Nat) : dF [UInt8.ofNat (48 + d)] v = some (v * 10 + d) := by
  rw [dF_good _ _ (by rw [digit_byte h]; omega), dF_nil, digit_byte h, Nat.add_sub_cancel_left]
theorem dF_dec (q : Nat) : dF (Lib.decDigits q) 0 = some q := by
  induction q using Nat.strongRecOn with
  | ind q ih =>
    by_cases h : q < 10
    · rw [Lib.decDigits_one h, dF_one h, Nat.zero_mul, Nat.zero_add]
    · rw [dec_step (by omega), dF_append, ih (q / 10) (by omega)]
      show dF _ (q / 10) = _
      rw [dF_one (by omega)]
      congr 1; omega
theorem dF_str (k : Nat) : ∀ (r v : Nat), r < 10 ^ k → dF (strD (digs r) k) v = some (v * 10 ^ k + r) := by
  induction k with
  | zero => intro r v h; simp at h; subst h; show some v = _; simp
  | succ k ih =>
    intro r v h
    rw [Nat.pow_succ] at h ⊢
    rw [strD_digs, dF_append, ih (r / 10) v (by omega)]
    show dF _ (v * 10 ^ k + r / 10) = _
    rw [dF_one (by omega), ← Nat.mul_assoc]
    congr 1; omega
theorem dF_no46 {l : List UInt8} {v x : Nat} (h : dF l v = some x) : 46 ∉ l := by
  induction l generalizing v with
  | nil => simp
  | cons c l ih =>
    by_cases hc : c.toNat < 48 ∨ 57 < c.toNat
    · rw [dF_bad l v hc] at h; cases h
    · rw [dF_good l v hc] at h
      intro hm
      rcases List.mem_cons.1 hm with e | e
      · rw [← e] at hc; exact hc (.inl (by decide))
      · exact ih h e
theorem dF_no45 {l : List UInt8} {v x : Nat} (h : dF l v = some x) : ∀ t : List UInt8, Lib.hasPrefix (l ++ t) [45] = false ∨ l = [] := by
  intro t
  cases l with
  | nil => exact .inr rfl
  | cons c l =>
    left
    by_cases hc : c.toNat < 48 ∨ 57 < c.toNat
    · rw [dF_bad l v hc] at h; cases h
    · unfold Lib.hasPrefix
      simp [List.isPrefixOf]
      intro e
      rw [← e] at hc
      exact hc (.inl (by decide))
theorem trim_split (l : List UInt8) : ∃ k, l = Lib.trimRightB l 48 ++ List.replicate k 48 := by
  refine ⟨(l.reverse.takeWhile (· == 48)).length, ?_⟩
  have h1 : l.reverse.takeWhile (· == 48) ++ l.reverse.dropWhile (· == 48) = l.reverse := List.takeWhile_append_dropWhile
  have h2 := congrArg List.reverse h1
  rw [List.reverse_append, List.reverse_reverse] at h2
  have h3 : (l.reverse.takeWhile (· == 48)).reverse = List.replicate (l.reverse.takeWhile (· == 48)).length 48 := by
    rw [List.eq_replicate_iff]
    refine ⟨by simp, fun b hb => ?_⟩
    have := List.all_eq_true.1 (List.all_takeWhile (p := (· == (48 : UInt8))) (l := l.reverse)) b (List.mem_reverse.1 hb)
    exact eq_of_beq this
  rw [h3] at h2
  exact h2.symm

theorem ans_whole {z : Int} (hz : I64 z) {h : Nat} (hh : h ≠ 0) {q : Nat} (hq : z.natAbs = q * 1000000) : rAns (decide (z < 0)) (some (-1, h, q)) = (z, true) := by
  have e : q * 10 ^ (6 - (-1 : Int).toNat) = z.natAbs := by rw [hq]; rfl
  simp only [rAns, e, sgn_int, toI_in hz]
  rw [if_neg (by omega)]
  rfl
theorem ans_frac {z : Int} (hz : I64 z) {h : Nat} (hh : h ≠ 0) {v p : Nat} (hp : p ≠ 0) (hp6 : p ≤ 6) (hv : v * 10 ^ (6 - p) = z.natAbs) : rAns (decide (z < 0)) (some ((p : Int), h, v)) = (z, true) := by
  have e : v * 10 ^ (6 - (p : Int).toNat) = z.natAbs := by rw [← hv]; rfl
  simp only [rAns, e, sgn_int, toI_in hz]
  rw [if_neg (by omega)]
  rfl

/-- What is ahead of the point, and behind it. -/
theorem body_back {z : Int} (hz : I64 z) (body : List UInt8) (hb : Lib.hasPrefix body [45] = false) (ht : textL z = if z < 0 then 45 :: body else body)
    (hr : rAns (decide (z < 0)) (rF body) = (z, true)) : parseL (textL z) = (z, true) := by
  unfold parseL
  by_cases h : z < 0
  · rw [ht, if_pos h]
    have e1 : Lib.hasPrefix (45 :: body) [45] = true := by unfold Lib.hasPrefix; simp [List.isPrefixOf]
    have e2 : Lib.trimPrefix (45 :: body) [45] = body := by unfold Lib.trimPrefix; rw [if_pos e1]; rfl
    rw [decide_eq_true h] at hr
    rw [e1, e2]
    show parseOf true (Lib.cut body [46]).1 (Lib.cut body [46]).2.1 (Lib.cut body [46]).2.2 = _
    rw [parse_same]; exact hr
  · rw [ht, if_neg h]
    have e2 : Lib.trimPrefix body [45] = body := by unfold Lib.trimPrefix; rw [if_neg (by rw [hb]; decide)]
    rw [decide_eq_false h] at hr
    rw [hb, e2]
    show parseOf false (Lib.cut body [46]).1 (Lib.cut body [46]).2.1 (Lib.cut body [46]).2.2 = _
    rw [parse_same]; exact hr

theorem dec_ne (q : Nat) : (Lib.decDigits q).length ≠ 0 := by
  rw [Lib.decDigits_length]; have := Lib.nDigits_pos q; omega

/-- Back again. -/
theorem text_back (z : Int) (hz : I64 z) : parseL (textL z) = (z, true) := by
  have hd := dF_dec (z.natAbs / 1000000)
  have hpre := fun t => (dF_no45 hd t).resolve_right (fun e => dec_ne _ (by rw [e]; rfl))
  by_cases h : z.natAbs % 1000000 = 0
  · refine body_back hz (Lib.decDigits (z.natAbs / 1000000)) ?_ ?_ ?_
    · have := hpre []
      rw [List.append_nil] at this; exact this
    · unfold textL
      simp only [if_pos h]
    · rw [rF, rF_ahead _ 0 0 (dF_no46 hd), hd]
      exact ans_whole hz (by rw [Nat.zero_add]; exact dec_ne _) (by omega)
  · obtain ⟨r, hr⟩ : ∃ r, z.natAbs % 1000000 = r := ⟨_, rfl⟩
    have hr6 : r < 10 ^ 6 := by rw [← hr]; exact Nat.mod_lt _ (by decide)
    rw [hr] at h
    obtain ⟨l, hl⟩ : ∃ l, strD (digs r) 6 = l := ⟨_, rfl⟩
    have hl6 : l.length = 6 := by rw [← hl]; exact strD_length _ _
    obtain ⟨k, hk⟩ := trim_split l
    obtain ⟨tr, htr⟩ : ∃ tr, Lib.trimRightB l 48 = tr := ⟨_, rfl⟩
    rw [htr] at hk
    have hlen : tr.length + k = 6 := by rw [← hl6, hk]; simp
    have hne : tr.length ≠ 0 := by
      intro e
      obtain ⟨i, hi, hne⟩ := strD_some 6 r hr6 h
      have h2 : l[i]? = some ((strD (digs r) 6)[i]) := by rw [← hl]; exact List.getElem?_eq_getElem hi
      rw [hk, List.length_eq_zero_iff.1 e, List.nil_append, List.getElem?_replicate] at h2
      split at h2
      · exact hne (Option.some.inj h2).symm
      · cases h2
    have hds := dF_str 6 r (z.natAbs / 1000000) hr6
    rw [hl, hk, dF_append] at hds
    cases hv : dF tr (z.natAbs / 1000000) with
    | none => rw [hv] at hds; cases hds
    | some v =>
      rw [hv] at hds
      have hds2 : dF (List.replicate k 48) v = some (z.natAbs / 1000000 * 10 ^ 6 + r) := hds
      rw [dF_zeros] at hds2
      have hval := Option.some.inj hds2
      refine body_back hz (Lib.decDigits (z.natAbs / 1000000) ++ 46 :: tr) (hpre _) ?_ ?_
      · unfold textL
        simp only [hr, if_neg h]
        rw [pad6 (by omega), hl, htr]
      · rw [rF, List.foldl_append, rF_ahead _ 0 0 (dF_no46 hd), hd, List.foldl_cons]
        rw [show rStep (Option.map (fun v => ((-1 : Int), 0 + (Lib.decDigits (z.natAbs / 1000000)).length, v)) (some (z.natAbs / 1000000))) 46 = some (((0 : Nat) : Int), 0 + (Lib.decDigits (z.natAbs / 1000000)).length, z.natAbs / 1000000) from rfl, rF_behind, hv, Nat.zero_add, Nat.zero_add]
        refine ans_frac hz (dec_ne _) hne (by omega) ?_
        rw [show 6 - tr.length = k from by omega, hval]
        omega
end Go.Proofs.YthfgpmiammfcaaaDoor
