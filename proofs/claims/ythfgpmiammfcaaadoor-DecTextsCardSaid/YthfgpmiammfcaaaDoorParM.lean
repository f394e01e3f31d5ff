/-
Texts read as numbers: what the two sides of the law on texts read. No program in it.
-/
import Derived.Test.YthfgpmiammfcaaaDoorStrM
import Derived.Test.YthfgpmiammfcaaaDoorDecP
namespace Go.Proofs.YthfgpmiammfcaaaDoor
open Go.RowKit
open Num (digs valD cutL Ten)

/-- Digits read, without a bound. -/
def dStep (o : Option Nat) (c : UInt8) : Option Nat :=
  match o with
  | none => none
  | some v => if c.toNat < 48 ∨ 57 < c.toNat then none else some (v * 10 + (c.toNat - 48))
def dF (l : List UInt8) (v : Nat) : Option Nat := l.foldl dStep (some v)
theorem foldl_none {α β : Type} {f : Option β → α → Option β} (h : ∀ c, f none c = none) (l : List α) : l.foldl f none = none := by
  induction l with
  | nil => rfl
  | cons c l ih => rw [List.foldl_cons, h, ih]
theorem dF_nil (v : Nat) : dF [] v = some v := rfl
theorem dF_bad {c : UInt8} (l : List UInt8) (v : Nat) (h : c.toNat < 48 ∨ 57 < c.toNat) : dF (c :: l) v = none := by
  unfold dF
  rw [List.foldl_cons]
  simp only [dStep, if_pos h]
  exact foldl_none (fun _ => rfl) l
theorem dF_good {c : UInt8} (l : List UInt8) (v : Nat) (h : ¬ (c.toNat < 48 ∨ 57 < c.toNat)) : dF (c :: l) v = dF l (v * 10 + (c.toNat - 48)) := by
  unfold dF
  rw [List.foldl_cons]
  simp only [dStep, if_neg h]
theorem dF_le : ∀ (l : List UInt8) (v x : Nat), dF l v = some x → v ≤ x
  | [], v, x, h => by rw [dF_nil] at h; exact Nat.le_of_eq (Option.some.inj h)
  | c :: l, v, x, h => by
    by_cases hc : c.toNat < 48 ∨ 57 < c.toNat
    · rw [dF_bad l v hc] at h; cases h
    · rw [dF_good l v hc] at h
      have := dF_le l _ x h
      omega
theorem dF_append (a b : List UInt8) (v : Nat) : dF (a ++ b) v = (dF a v).bind (dF b) := by
  induction a generalizing v with
  | nil => rfl
  | cons c a ih =>
    by_cases hc : c.toNat < 48 ∨ 57 < c.toNat
    · rw [List.cons_append, dF_bad _ v hc, dF_bad _ v hc]; rfl
    · rw [List.cons_append, dF_good _ v hc, dF_good _ v hc, ih]
theorem dF_zeros (k v : Nat) : dF (List.replicate k 48) v = some (v * 10 ^ k) := by
  induction k generalizing v with
  | zero => simp [dF_nil]
  | succ k ih =>
    rw [List.replicate_succ, dF_good _ _ (by decide), ih, Nat.pow_succ]
    congr 1
    show (v * 10 + (48 - 48)) * 10 ^ k = _
    rw [Nat.sub_self, Nat.add_zero, Nat.mul_assoc, Nat.mul_comm 10]

/-- Bounded and unbounded. -/
theorem mil_d : ∀ (l : List UInt8) (v : Nat), l.foldl milStep (some v) = dF l v ∨ (l.foldl milStep (some v) = none ∧ ∃ x, dF l v = some x ∧ 9223372036854775808 < x)
  | [], v => .inl rfl
  | c :: l, v => by
    rw [List.foldl_cons]
    by_cases hc : c.toNat < 48 ∨ 57 < c.toNat
    · left
      rw [dF_bad l v hc]
      simp only [milStep, if_pos (show c.toNat < 48 ∨ 57 < c.toNat ∨ 922337203685477580 < v from hc.elim .inl (fun h => .inr (.inl h)))]
      exact foldl_none (fun _ => rfl) l
    · by_cases hv : 922337203685477580 < v
      · rw [dF_good l v hc]
        simp only [milStep, if_pos (show c.toNat < 48 ∨ 57 < c.toNat ∨ 922337203685477580 < v from .inr (.inr hv))]
        rw [foldl_none (fun _ => rfl) l]
        cases hd : dF l (v * 10 + (c.toNat - 48)) with
        | none => exact .inl rfl
        | some x => exact .inr ⟨rfl, x, rfl, by have := dF_le _ _ _ hd; omega⟩
      · rw [dF_good l v hc]
        simp only [milStep, if_neg (show ¬ (c.toNat < 48 ∨ 57 < c.toNat ∨ 922337203685477580 < v) from by omega)]
        exact mil_d l _

theorem milF_d (l : List UInt8) : milF l = dF l 0 ∨ (milF l = none ∧ ∃ x, dF l 0 = some x ∧ 9223372036854775808 < x) := mil_d l 0

theorem index46_none : ∀ u : List UInt8, 46 ∉ u → Lib.index u [46] = -1
  | [], _ => rfl
  | c :: l, h => by
    have hc : c ≠ 46 := fun e => h (by rw [e]; exact List.mem_cons_self)
    have hl : 46 ∉ l := fun e => h (List.mem_cons_of_mem _ e)
    unfold Lib.index
    rw [index46_none l hl, if_neg (by simp [List.isPrefixOf]; exact fun e => hc e.symm)]
    rfl
theorem index46_some : ∀ a b : List UInt8, 46 ∉ a → Lib.index (a ++ 46 :: b) [46] = (a.length : Int)
  | [], b, _ => by
    show Lib.index (46 :: b) [46] = 0
    unfold Lib.index
    rw [if_pos (by simp [List.isPrefixOf])]
  | c :: l, b, h => by
    have hc : c ≠ 46 := fun e => h (by rw [e]; exact List.mem_cons_self)
    have hl : 46 ∉ l := fun e => h (List.mem_cons_of_mem _ e)
    rw [List.cons_append]
    unfold Lib.index
    rw [index46_some l b hl, if_neg (by simp [List.isPrefixOf]; exact fun e => hc e.symm), if_neg (by simp)]
    simp
theorem cut46_none {u : List UInt8} (h : 46 ∉ u) : Lib.cut u [46] = (u, [], false) := by
  unfold Lib.cut; rw [index46_none u h]; rfl
theorem cut46_some {a b : List UInt8} (h : 46 ∉ a) : Lib.cut (a ++ 46 :: b) [46] = (a, b, true) := by
  unfold Lib.cut; rw [index46_some a b h, if_pos (by omega)]
  simp
theorem split46 (u : List UInt8) : 46 ∉ u ∨ ∃ a b, u = a ++ 46 :: b ∧ 46 ∉ a := by
  induction u with
  | nil => exact .inl (by simp)
  | cons c l ih =>
    by_cases hc : c = 46
    · exact .inr ⟨[], l, by rw [hc]; rfl, by simp⟩
    · rcases ih with h | ⟨a, b, h, h'⟩
      · exact .inl (by simp; exact ⟨fun e => hc e.symm, h⟩)
      · exact .inr ⟨c :: a, b, by rw [h]; rfl, by simp; exact ⟨fun e => hc e.symm, h'⟩⟩

/-- One byte more: how many places (-1: no point yet), how many digits ahead of the point, the number. -/
def rStep (o : Option (Int × Nat × Nat)) (c : UInt8) : Option (Int × Nat × Nat) :=
  match o with
  | none => none
  | some (p, h, n) => if c.toNat = 46 ∧ p < 0 then some (0, h, n)
    else if c.toNat < 48 ∨ 57 < c.toNat then none
    else if p < 0 then some (p, h + 1, n * 10 + (c.toNat - 48)) else some (p + 1, h, n * 10 + (c.toNat - 48))
def rF (l : List UInt8) : Option (Int × Nat × Nat) := l.foldl rStep (some (-1, 0, 0))
/-- What it answers behind its loop. -/
def rAns (neg : Bool) (o : Option (Int × Nat × Nat)) : Int × Bool :=
  match o with
  | none => (0, false)
  | some (p, h, n) => if h = 0 ∨ p = 0 ∨ 6 < p then (0, false) else ((toI (sgn neg (n * 10 ^ (6 - p.toNat)))).1, (toI (sgn neg (n * 10 ^ (6 - p.toNat)))).2 == 0)

theorem rF_ahead : ∀ (l : List UInt8) (h n : Nat), 46 ∉ l → l.foldl rStep (some (-1, h, n)) = (dF l n).map (fun v => (-1, h + l.length, v))
  | [], h, n, _ => rfl
  | c :: l, h, n, hn => by
    have hc : c.toNat ≠ 46 := fun e => hn (by rw [show c = 46 from UInt8.toNat_inj.1 e]; exact List.mem_cons_self)
    have hl : 46 ∉ l := fun e => hn (List.mem_cons_of_mem _ e)
    rw [List.foldl_cons]
    simp only [rStep, if_neg (show ¬ (c.toNat = 46 ∧ (-1 : Int) < 0) from fun e => hc e.1)]
    by_cases hd : c.toNat < 48 ∨ 57 < c.toNat
    · rw [dF_bad l n hd, if_pos hd, foldl_none (fun _ => rfl) l]; rfl
    · rw [dF_good l n hd, if_neg hd, if_pos (by decide), rF_ahead l _ _ hl, List.length_cons]
      congr 1; funext v; congr 2; omega
theorem rF_behind : ∀ (l : List UInt8) (p : Nat) (h n : Nat), l.foldl rStep (some ((p : Int), h, n)) = (dF l n).map (fun v => (((p + l.length : Nat) : Int), h, v))
  | [], p, h, n => rfl
  | c :: l, p, h, n => by
    rw [List.foldl_cons]
    simp only [rStep, if_neg (show ¬ (c.toNat = 46 ∧ (p : Int) < 0) from by omega), if_neg (show ¬ ((p : Int) < 0) from by omega)]
    by_cases hd : c.toNat < 48 ∨ 57 < c.toNat
    · rw [dF_bad l n hd, if_pos hd, foldl_none (fun _ => rfl) l]; rfl
    · rw [dF_good l n hd, if_neg hd]
      have := rF_behind l (p + 1) h (n * 10 + (c.toNat - 48))
      rw [show ((p + 1 : Nat) : Int) = (p : Int) + 1 from by omega] at this
      rw [this, List.length_cons]
      congr 1; funext v; congr 2; omega

theorem far_val {neg : Bool} {x : Nat} (h : 9223372036854775808 < x) : toI (sgn neg x) = (0, 31) := toI_of (.inr (by unfold I64 sgn; cases neg <;> simp <;> omega))

theorem parse_core (neg : Bool) (wh fr : List UInt8) (pt : Bool) (p : Int) (hf : pt = false → fr = []) (hp : p = if pt = true then (fr.length : Int) else -1) :
    parseOf neg wh fr pt = rAns neg ((dF (wh ++ fr) 0).map (fun v => (p, wh.length, v))) := by
  have hmc : milChars wh fr = (wh ++ fr) ++ List.replicate (6 - fr.length) 48 := rfl
  have hz : dF (milChars wh fr) 0 = (dF (wh ++ fr) 0).map (fun v => v * 10 ^ (6 - fr.length)) := by
    rw [hmc, dF_append]
    cases dF (wh ++ fr) 0 with
    | none => rfl
    | some v => exact dF_zeros _ v
  have hp0 : (wh.length = 0 ∨ p = 0 ∨ 6 < p) ↔ (wh = [] ∨ 6 < fr.length ∨ (pt = true ∧ fr = [])) := by
    cases pt with
    | false => have := hf rfl; subst this; subst hp; simp
    | true =>
      subst hp
      simp only [if_true, List.length_eq_zero_iff, true_and]
      constructor
      · rintro (h | h | h)
        · exact .inl h
        · exact .inr (.inr (List.length_eq_zero_iff.1 (by omega)))
        · exact .inr (.inl (by omega))
      · rintro (h | h | h)
        · exact .inl h
        · exact .inr (.inr (by omega))
        · exact .inr (.inl (by rw [h]; rfl))
  have hpn : 6 - p.toNat = 6 - fr.length := by
    cases pt with
    | false => have := hf rfl; subst this; subst hp; rfl
    | true => subst hp; rfl
  unfold parseOf
  by_cases hbad : wh = [] ∨ 6 < fr.length ∨ (pt = true ∧ fr = [])
  · rw [if_pos hbad]
    cases dF (wh ++ fr) 0 with
    | none => rfl
    | some v => simp only [Option.map_some, rAns, if_pos (hp0.2 hbad)]
  · rw [if_neg hbad]
    rcases milF_d (milChars wh fr) with h | ⟨h, x, hx, hbig⟩
    · rw [h, hz]
      cases dF (wh ++ fr) 0 with
      | none => rfl
      | some v => simp only [Option.map_some, rAns, if_neg (fun e => hbad (hp0.1 e)), hpn]
    · rw [h]
      rw [hz] at hx
      cases hd : dF (wh ++ fr) 0 with
      | none => rw [hd] at hx; cases hx
      | some v =>
        rw [hd] at hx
        have hxe : v * 10 ^ (6 - fr.length) = x := Option.some.inj hx
        simp only [Option.map_some, rAns, if_neg (fun e => hbad (hp0.1 e)), hpn, hxe, far_val hbig]
        rfl

/-- What the program reads is what the reference reads. -/
theorem parse_same (neg : Bool) (u : List UInt8) : parseOf neg (Lib.cut u [46]).1 (Lib.cut u [46]).2.1 (Lib.cut u [46]).2.2 = rAns neg (rF u) := by
  rcases split46 u with h | ⟨a, b, rfl, h⟩
  · rw [cut46_none h, rF, rF_ahead u 0 0 h]
    have := parse_core neg u [] false (-1) (fun _ => rfl) rfl
    rw [List.append_nil] at this
    rw [this, Nat.zero_add]
  · rw [cut46_some h, rF, List.foldl_append, rF_ahead a 0 0 h, List.foldl_cons]
    rw [parse_core neg a b true b.length (fun h => by cases h) rfl, dF_append]
    cases dF a 0 with
    | none =>
      rw [show Option.map (fun v => ((-1 : Int), 0 + a.length, v)) (none : Option Nat) = none from rfl]
      rw [show rStep none 46 = none from rfl, foldl_none (fun _ => rfl) b]; rfl
    | some v =>
      rw [show rStep (Option.map (fun v => ((-1 : Int), 0 + a.length, v)) (some v)) 46 = some (((0 : Nat) : Int), 0 + a.length, v) from rfl, rF_behind, Nat.zero_add, Nat.zero_add]
      rfl
end Go.Proofs.YthfgpmiammfcaaaDoor
