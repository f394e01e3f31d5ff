/-
Stamps' texts: what Atoi and Cut read. Of no function of the program.
-/
import Derived.Test.YtfgopiopeidfmaaDoorSRText
import Derived.Lib.AtoiTie
import Derived.Lib.IndexMore
import Derived.Lib.ItoaMem
namespace Go.Proofs.YtfgopiopeidfmaaDoor
open Go.RowKit Go.Proofs.YtfgopiopeidfmaaDoor.Dig

theorem dec_len : ∀ (k n : Nat), n < 10 ^ (k + 1) → (Lib.decDigits n).length ≤ k + 1 := by
  intro k
  induction k with
  | zero => intro n h; rw [Lib.decDigits_one (by omega)]; simp
  | succ k ih =>
    intro n h
    by_cases h10 : n < 10
    · rw [Lib.decDigits_one h10]; simp
    · have e : Lib.decDigits n = Lib.decDigits (n / 10) ++ [UInt8.ofNat (48 + n % 10)] := by rw [Lib.decDigits, dif_neg h10]
      rw [e, List.length_append]
      have := ih (n / 10) (by rw [Nat.pow_succ] at h; omega)
      simp; omega
theorem dec_hd (n : Nat) : ∃ c r, Lib.decDigits n = c :: r ∧ isDig c = true := by
  obtain ⟨h1, _, h3⟩ := dec_all n
  cases h : Lib.decDigits n with
  | nil => exact absurd h h3
  | cons c r => exact ⟨c, r, rfl, h1 c (by rw [h]; exact List.mem_cons_self)⟩
theorem no_sign {c : UInt8} (h : isDig c = true) : c ≠ 45 ∧ c ≠ 43 := by
  refine ⟨?_, ?_⟩ <;> rintro rfl <;> exact absurd h (by decide)
theorem atoi_dec (n : Nat) (h : n ≤ 1125899906842624) : Lib.atoiAll (Lib.decDigits n) = .ok (n : Int) := by
  have := dec_len 15 n (by omega)
  obtain ⟨c, r, he, hc⟩ := dec_hd n
  obtain ⟨s1, s2⟩ := no_sign hc
  have hd := decNat_dec n
  rw [Lib.atoiAll_short _ (by omega)]
  rw [he] at hd ⊢
  simp [Lib.atoi, s1, s2, hd, Lib.NumEnd.ofOption]
theorem number_none {l : List UInt8} {most : Int} (hm : most ≤ 1125899906842624) (h : ∀ v, Lib.atoiAll l ≠ .ok v) : numV l most = none := by
  refine numV_none (fun m hl hle => ?_)
  exact h m (hl ▸ atoi_dec m (by omega))
theorem number_some {l : List UInt8} {most v : Int} (hm : most ≤ 1125899906842624) (h : Lib.atoiAll l = .ok v) :
    numV l most = if 0 ≤ v ∧ v ≤ most ∧ Lib.itoa v = l then some v.toNat else none := by
  by_cases hc : 0 ≤ v ∧ v ≤ most ∧ Lib.itoa v = l
  · rw [if_pos hc]
    obtain ⟨h0, h1, h2⟩ := hc
    refine numV_iff.2 ⟨?_, by omega⟩
    have e : v = ((v.toNat : Nat) : Int) := by omega
    rw [e, Lib.itoa_nonneg] at h2
    exact h2
  · rw [if_neg hc]
    refine numV_none (fun m hl hle => hc ?_)
    have := atoi_dec m (by omega)
    rw [hl, h] at this
    injection this with this
    subst this
    exact ⟨by omega, hle, by rw [Lib.itoa_nonneg]; exact hl⟩
theorem numV_nil (most : Int) : numV [] most = none := by
  refine numV_none (fun m hl _ => ?_)
  exact absurd hl (dec_all m).2.2
theorem index64_none : ∀ u : List UInt8, 64 ∉ u → Lib.index u [64] = -1
  | [], _ => rfl
  | c :: l, h => by
    have hc : c ≠ 64 := fun e => h (by rw [e]; exact List.mem_cons_self)
    have hl : 64 ∉ l := fun e => h (List.mem_cons_of_mem _ e)
    unfold Lib.index
    rw [index64_none l hl, if_neg (by simp [List.isPrefixOf]; exact fun e => hc e.symm)]
    rfl
theorem index64_some : ∀ a b : List UInt8, 64 ∉ a → Lib.index (a ++ 64 :: b) [64] = (a.length : Int)
  | [], b, _ => by
    show Lib.index (64 :: b) [64] = 0
    unfold Lib.index
    rw [if_pos (by simp [List.isPrefixOf])]
  | c :: l, b, h => by
    have hc : c ≠ 64 := fun e => h (by rw [e]; exact List.mem_cons_self)
    have hl : 64 ∉ l := fun e => h (List.mem_cons_of_mem _ e)
    rw [List.cons_append]
    unfold Lib.index
    rw [index64_some l b hl, if_neg (by simp [List.isPrefixOf]; exact fun e => hc e.symm), if_neg (by simp)]
    simp
theorem split64 (u : List UInt8) : 64 ∉ u ∨ ∃ a b, u = a ++ 64 :: b ∧ 64 ∉ a := by
  induction u with
  | nil => exact .inl (by simp)
  | cons c l ih =>
    by_cases hc : c = 64
    · subst hc; exact .inr ⟨[], l, rfl, by simp⟩
    · rcases ih with h | ⟨a, b, rfl, ha⟩
      · exact .inl (by simp [h]; exact fun e => hc e.symm)
      · exact .inr ⟨c :: a, b, rfl, by simp [ha]; exact fun e => hc e.symm⟩
/-- The two parts, and what they are. -/
theorem parse_cut (l : List UInt8) : ∃ a b f, Lib.cut l [64] = (a, b, f) ∧ a.length ≤ l.length ∧ b.length ≤ l.length ∧
    parseV l = match numV a 1099511627776, numV b 64 with
      | some t, some r => if rightB t r then some (t, r) else none
      | _, _ => none := by
  rcases split64 l with h | ⟨a, b, rfl, ha⟩
  · refine ⟨l, [], false, by unfold Lib.cut; rw [index64_none l h]; rfl, Nat.le_refl _, by simp, ?_⟩
    rw [parseV_none (fun c hc e => h (e ▸ hc)), numV_nil]
    split <;> simp_all
  · refine ⟨a, b, true, ?_, by simp, by simp; omega, ?_⟩
    · unfold Lib.cut; rw [index64_some a b ha, if_pos (by omega)]
      simp
    · rw [parseV_at (i := a.length) (fun j c hj hc e => ?_) (by simp)]
      · rw [List.take_left]
        have : (a ++ 64 :: b).drop (a.length + 1) = b := by rw [← List.drop_drop, List.drop_left]; rfl
        rw [this]
        rfl
      · rw [List.getElem?_append_left hj] at hc
        exact ha (e ▸ List.mem_of_getElem? hc)
end Go.Proofs.YtfgopiopeidfmaaDoor
