/-
Cells' names, plain maths: which strings are columns, which are cells. Of no function of the program.
-/
import Derived.Test.YtggdpnkfambmfaaDoorNumM
namespace Go.Proofs.YtggdpnkfambmfaaDoor
open Go.RowKit Go.Proofs.YtggdpnkfambmfaaDoor.Dig

/-- A column's name. -/
def colL (n : Int) : List UInt8 :=
  if n < 1 ∨ 702 < n then [] else if n < 27 then [UInt8.ofNat (64 + n.toNat)] else [UInt8.ofNat (65 + (n.toNat - 27) / 26), UInt8.ofNat (65 + (n.toNat - 27) % 26)]
/-- What the letters say. -/
def colN (l : List UInt8) : Int := match l with
  | [c] => (c.toNat : Int) - 64
  | [c, d] => 27 + ((c.toNat : Int) - 65) * 26 + (d.toNat : Int) - 65
  | _ => 0
/-- The column whose name this is; 0: none. -/
def colV (l : List UInt8) : Nat := if colL (colN l) = l then (colN l).toNat else 0
theorem colL_zero {n : Int} (h : n < 1 ∨ 702 < n) : colL n = [] := if_pos h
theorem colV_colL : ∀ n : Nat, n ≤ 702 → colV (colL (n : Int)) = n := by decide +kernel
theorem colV_of {n : Nat} (h : n ≤ 702) {l : List UInt8} (hl : colL (n : Int) = l) : colV l = n := hl ▸ colV_colL n h
theorem colV_le (l : List UInt8) : colV l ≤ 702 := by
  unfold colV
  split
  · rename_i h
    by_cases hn : colN l < 1 ∨ 702 < colN l
    · rw [colL_zero hn] at h
      subst h
      decide
    · omega
  · omega
theorem colV_name {l : List UInt8} (h : colV l ≠ 0) : colL (colV l : Int) = l := by
  unfold colV at h ⊢
  split at h
  · rename_i hc
    rw [if_pos hc]
    rw [show (((colN l).toNat : Nat) : Int) = colN l from by omega]
    exact hc
  · exact absurd rfl h
theorem colL_len (n : Int) : (colL n).length ≤ 2 := by
  unfold colL; split
  · simp
  · split <;> simp
theorem colL_pos {n : Int} (h : 1 ≤ n ∧ n ≤ 702) : 1 ≤ (colL n).length := by
  unfold colL; rw [if_neg (by omega)]; split <;> simp
/-- A letter from A to Z. -/
def isUp (c : UInt8) : Bool := decide (65 ≤ c.toNat ∧ c.toNat ≤ 90)
theorem colL_up_all : ∀ n : Nat, n ≤ 702 → (colL (n : Int)).all isUp = true := by decide +kernel
theorem colL_up {n : Int} (h : 1 ≤ n ∧ n ≤ 702) : ∀ c ∈ colL n, isUp c = true := by
  have := colL_up_all n.toNat (by omega)
  rw [show ((n.toNat : Nat) : Int) = n from by omega] at this
  exact List.all_eq_true.1 this
theorem dig_not_up {c : UInt8} (h : isDig c = true) : isUp c = false := by
  unfold isDig at h
  have := of_decide_eq_true h
  unfold isUp
  exact decide_eq_false (by omega)

def rightC (c r : Int) : Bool := decide (1 ≤ c ∧ c ≤ 702 ∧ 1 ≤ r ∧ r ≤ 9999)
theorem rightC_iff {c r : Int} : rightC c r = true ↔ 1 ≤ c ∧ c ≤ 702 ∧ 1 ≤ r ∧ r ≤ 9999 := by simp [rightC]
/-- A cell's name. -/
def textC (c r : Int) : List UInt8 := if rightC c r = true then colL c ++ Lib.decDigits r.toNat else []
theorem textC_of {c r : Nat} (h : rightC c r = true) : textC c r = colL c ++ Lib.decDigits r := if_pos h
/-- The cell whose name this is. -/
def parseC (l : List UInt8) : Option (Nat × Nat) :=
  match numV (l.dropWhile isUp) 9999 with
  | some r => if colV (l.takeWhile isUp) ≠ 0 ∧ 1 ≤ r then some (colV (l.takeWhile isUp), r) else none
  | none => none
theorem split_name {u : List UInt8} (hu : ∀ c ∈ u, isUp c = true) (n : Nat) : (u ++ Lib.decDigits n).takeWhile isUp = u ∧ (u ++ Lib.decDigits n).dropWhile isUp = Lib.decDigits n := by
  obtain ⟨c, r, he, hc⟩ := dec_hd n
  have h0 : (Lib.decDigits n).takeWhile isUp = [] := by rw [he, List.takeWhile_cons, if_neg (by rw [dig_not_up hc]; simp)]
  have h1 : (Lib.decDigits n).dropWhile isUp = Lib.decDigits n := by rw [he, List.dropWhile_cons, if_neg (by rw [dig_not_up hc]; simp)]
  rw [List.takeWhile_append_of_pos hu, List.dropWhile_append_of_pos hu, h0, h1]
  exact ⟨by simp, rfl⟩
theorem parseC_iff {l : List UInt8} {c r : Nat} : parseC l = some (c, r) ↔ rightC c r = true ∧ textC c r = l := by
  constructor
  · intro h
    unfold parseC at h
    split at h
    · rename_i m hm
      obtain ⟨h1, h2⟩ := numV_iff.1 hm
      split at h
      · rename_i hc
        injection h with h
        injection h with e1 e2
        subst e1 e2
        have hr : rightC (colV (l.takeWhile isUp) : Nat) (m : Nat) = true := by
          rw [rightC_iff]
          have := colV_le (l.takeWhile isUp)
          omega
        refine ⟨hr, ?_⟩
        rw [textC_of hr, colV_name hc.1, h1]
        exact List.takeWhile_append_dropWhile
      · cases h
    · cases h
  · rintro ⟨hr, ht⟩
    rw [textC_of hr] at ht
    rw [rightC_iff] at hr
    have hu := colL_up (n := (c : Int)) (by omega)
    obtain ⟨e1, e2⟩ := split_name hu r
    rw [ht] at e1 e2
    unfold parseC
    rw [e1, e2, numV_iff.2 ⟨rfl, by omega⟩, colV_colL c (by omega)]
    simp only
    rw [if_pos (by omega)]
theorem parseC_none {l : List UInt8} (h : ∀ c r : Nat, rightC c r = true → textC c r ≠ l) : parseC l = none := by
  cases hp : parseC l with
  | none => rfl
  | some x =>
    obtain ⟨c, r⟩ := x
    exact absurd (parseC_iff.1 hp).2 (h c r (parseC_iff.1 hp).1)
theorem parse_textC {c r : Nat} (h : rightC c r = true) : parseC (textC c r) = some (c, r) := parseC_iff.2 ⟨h, rfl⟩
theorem parseC_nil : parseC [] = none := by
  refine parseC_none (fun c r h e => ?_)
  rw [textC_of h] at e
  have := (rightC_iff.1 h)
  have := colL_pos (n := (c : Int)) (by omega)
  have e2 := congrArg List.length e
  rw [List.length_append, List.length_nil] at e2
  omega
/-- Unlike cells have unlike names. -/
theorem textC_inj {c r c' r' : Nat} (h : rightC c r = true) (h' : rightC c' r' = true) (e : textC c r = textC c' r') : c = c' ∧ r = r' := by
  have h1 := parse_textC h
  rw [e, parse_textC h'] at h1
  injection h1 with h1
  injection h1 with a b
  exact ⟨a.symm, b.symm⟩
theorem textC_len (c r : Nat) (h : rightC c r = true) : (textC c r).length ≤ 20 := by
  rw [textC_of h, List.length_append]
  have := colL_len (c : Int)
  have := dec_len 3 r (by have := rightC_iff.1 h; omega)
  omega

/-- What the reference's Parse reckons of the row's bytes. -/
def rowF (l : List UInt8) : Int := val 0 (l.take 5)
/-- What the reference's Parse answers. -/
def rparseC (l : List UInt8) : Option (Nat × Int) :=
  if (l.takeWhile isUp).length = 0 ∨ 2 < (l.takeWhile isUp).length ∨ textC (colV (l.takeWhile isUp) : Nat) (rowF (l.dropWhile isUp)) ≠ l then none
  else some (colV (l.takeWhile isUp), rowF (l.dropWhile isUp))
theorem dec_len5 {r : Nat} (h : r ≤ 9999) : (Lib.decDigits r).length ≤ 5 := by
  have := dec_len 3 r (by omega)
  omega
theorem rparse_eq (l : List UInt8) : rparseC l = (parseC l).map (fun x => (x.1, (x.2 : Int))) := by
  unfold rparseC
  by_cases h : (l.takeWhile isUp).length = 0 ∨ 2 < (l.takeWhile isUp).length ∨ textC (colV (l.takeWhile isUp) : Nat) (rowF (l.dropWhile isUp)) ≠ l
  · rw [if_pos h]
    rw [parseC_none]
    · rfl
    · intro c r hr ht
      rw [textC_of hr] at ht
      have hr' := rightC_iff.1 hr
      have hu := colL_up (n := (c : Int)) (by omega)
      obtain ⟨e1, e2⟩ := split_name hu r
      rw [ht] at e1 e2
      have hlen := colL_len (c : Int)
      have hpos := colL_pos (n := (c : Int)) (by omega)
      have hrow : rowF (l.dropWhile isUp) = (r : Int) := by
        unfold rowF
        rw [e2, List.take_of_length_le (dec_len5 (by omega))]
        exact (dec_all r).2.1
      rw [e1, hrow, colV_colL c (by omega), textC_of hr, ht] at h
      rcases h with h | h | h
      · omega
      · omega
      · exact h rfl
  · rw [if_neg h]
    have h1 : (l.takeWhile isUp).length ≠ 0 := fun e => h (.inl e)
    have h2 : textC (colV (l.takeWhile isUp) : Nat) (rowF (l.dropWhile isUp)) = l := Classical.byContradiction fun e => h (.inr (.inr e))
    have hr : rightC (colV (l.takeWhile isUp) : Nat) (rowF (l.dropWhile isUp)) = true := by
      cases hc : rightC (colV (l.takeWhile isUp) : Nat) (rowF (l.dropWhile isUp)) with
      | true => rfl
      | false =>
        unfold textC at h2
        rw [hc] at h2
        simp at h2
        subst h2
        exact absurd rfl h1
    have hr' := rightC_iff.1 hr
    obtain ⟨m, hm⟩ : ∃ m : Nat, rowF (l.dropWhile isUp) = (m : Int) := ⟨(rowF (l.dropWhile isUp)).toNat, by omega⟩
    rw [hm] at hr h2 ⊢
    rw [parseC_iff.2 ⟨hr, h2⟩]
    rfl
end Go.Proofs.YtggdpnkfambmfaaDoor
