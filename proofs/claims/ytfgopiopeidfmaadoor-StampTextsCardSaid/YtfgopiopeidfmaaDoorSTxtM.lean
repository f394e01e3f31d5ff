/-
Stamps' texts, plain maths: which strings are numbers, which are stamps. Of no function of the program.
-/
import Derived.Test.YtfgopiopeidfmaaDoorDigM
import Derived.Test.YtfgopiopeidfmaaDoorSRef
namespace Go.Proofs.YtfgopiopeidfmaaDoor
open Go.RowKit Go.Proofs.YtfgopiopeidfmaaDoor.Dig

/-- The number from 0 to most whose digits these are. -/
def numV (l : List UInt8) (most : Int) : Option Nat :=
  match Lib.decNat l with
  | some m => if Lib.decDigits m = l ∧ (m : Int) ≤ most then some m else none
  | none => none
theorem numV_iff {l : List UInt8} {most : Int} {m : Nat} : numV l most = some m ↔ Lib.decDigits m = l ∧ (m : Int) ≤ most := by
  unfold numV
  constructor
  · intro h
    split at h
    · rename_i k hk
      split at h
      · rename_i h2
        injection h with h
        subst h; exact h2
      · cases h
    · cases h
  · rintro ⟨h1, h2⟩
    rw [show Lib.decNat l = some m from h1 ▸ decNat_dec m]
    simp only
    rw [if_pos ⟨h1, h2⟩]
theorem numV_none {l : List UInt8} {most : Int} (h : ∀ m : Nat, Lib.decDigits m = l → ¬ (m : Int) ≤ most) : numV l most = none := by
  cases hn : numV l most with
  | none => rfl
  | some m => exact absurd (numV_iff.1 hn).2 (h m (numV_iff.1 hn).1)
/-- The stamp whose text this is. -/
def parseV (l : List UInt8) : Option (Nat × Nat) :=
  match l.dropWhile (fun c => c != 64) with
  | [] => none
  | _ :: rest =>
    match numV (l.takeWhile (fun c => c != 64)) 1099511627776, numV rest 64 with
    | some t, some r => if rightB t r then some (t, r) else none
    | _, _ => none
def textI (t r : Nat) : List UInt8 := Lib.decDigits t ++ 64 :: Lib.decDigits r
theorem split_at : ∀ {l : List UInt8} {i : Nat}, (∀ j c, j < i → l[j]? = some c → c ≠ 64) → l[i]? = some 64 →
    l.takeWhile (fun c => c != 64) = l.take i ∧ l.dropWhile (fun c => c != 64) = 64 :: l.drop (i + 1)
  | [], i, _, h => by simp at h
  | c :: t, 0, _, h => by
    simp at h; subst h
    exact ⟨by simp, by simp⟩
  | c :: t, i + 1, hj, h => by
    have h0 := hj 0 c (by omega) rfl
    obtain ⟨e1, e2⟩ := split_at (l := t) (i := i) (fun j d hd hx => hj (j + 1) d (by omega) (by simpa using hx)) (by simpa using h)
    constructor
    · rw [List.takeWhile_cons, if_pos (by simpa using h0), e1]; rfl
    · rw [List.dropWhile_cons, if_pos (by simpa using h0), e2]; rfl
theorem split_none : ∀ {l : List UInt8}, (∀ c ∈ l, c ≠ 64) → l.dropWhile (fun c => c != 64) = []
  | [], _ => rfl
  | c :: t, h => by
    rw [List.dropWhile_cons, if_pos (by simpa using h c List.mem_cons_self)]
    exact split_none (fun d hd => h d (List.mem_cons_of_mem _ hd))
theorem parseV_at {l : List UInt8} {i : Nat} (hj : ∀ j c, j < i → l[j]? = some c → c ≠ 64) (h : l[i]? = some 64) :
    parseV l = match numV (l.take i) 1099511627776, numV (l.drop (i + 1)) 64 with
      | some t, some r => if rightB t r then some (t, r) else none
      | _, _ => none := by
  obtain ⟨e1, e2⟩ := split_at hj h
  unfold parseV
  rw [e2, e1]
theorem parseV_none {l : List UInt8} (h : ∀ c ∈ l, c ≠ 64) : parseV l = none := by
  unfold parseV
  rw [split_none h]
theorem dig_ne {c : UInt8} (h : isDig c = true) : c ≠ 64 := by
  intro e; subst e; exact absurd h (by decide)
theorem parse_text {t r : Nat} (h : rightB t r = true) : parseV (textI t r) = some (t, r) := by
  have hd := (dec_all t).1
  have hlen : (textI t r)[(Lib.decDigits t).length]? = some 64 := by
    unfold textI
    rw [List.getElem?_append_right (Nat.le_refl _), Nat.sub_self]; rfl
  have hr : t ≤ 1099511627776 ∧ r ≤ 64 := by
    unfold rightB at h
    simp only [Bool.and_eq_true, decide_eq_true_eq] at h
    omega
  rw [parseV_at (fun j c hj hc => by
    unfold textI at hc
    rw [List.getElem?_append_left hj] at hc
    exact dig_ne (hd c (List.mem_of_getElem? hc))) hlen]
  have e1 : (textI t r).take (Lib.decDigits t).length = Lib.decDigits t := by unfold textI; rw [List.take_left]
  have e2 : (textI t r).drop ((Lib.decDigits t).length + 1) = Lib.decDigits r := by
    unfold textI
    rw [← List.drop_drop, List.drop_left]; rfl
  rw [e1, e2, numV_iff.2 ⟨rfl, by omega⟩, numV_iff.2 ⟨rfl, by omega⟩]
  simp only
  rw [if_pos h]

/-- The reference's reckoning, byte by byte, with int's wrap. -/
def stepW (n : Int) (c : UInt8) : Int := wrap64 (wrap64 (wrap64 (n * 10) + (c.toNat : Int)) - 48)
def foldW (l : List UInt8) : Int := l.foldl stepW 0
theorem foldW_snoc {l : List UInt8} {k : Nat} {c : UInt8} (h : l[k]? = some c) : foldW (l.take (k + 1)) = stepW (foldW (l.take k)) c := by
  unfold foldW
  rw [List.take_add_one, h, List.foldl_append]
  rfl
theorem stepW_dig {n : Int} {c : UInt8} (h : isDig c = true) (h0 : 0 ≤ n) (h1 : n ≤ 100000000000000000) : stepW n c = n * 10 + ((c.toNat : Int) - 48) := by
  have hc : 48 ≤ c.toNat ∧ c.toNat ≤ 57 := of_decide_eq_true h
  unfold stepW wrap64
  omega
theorem foldW_dig : ∀ (l : List UInt8) (n : Int) (k : Nat), (∀ c ∈ l, isDig c = true) → 0 ≤ n → n < 10 ^ k → k + l.length ≤ 18 → l.foldl stepW n = val n l
  | [], n, _, _, _, _, _ => rfl
  | c :: t, n, k, h, h0, hk, hl => by
    have hc := h c List.mem_cons_self
    have hd : 48 ≤ c.toNat ∧ c.toNat ≤ 57 := of_decide_eq_true hc
    simp only [List.length_cons] at hl
    have hp : (10 : Int) ^ k ≤ 10 ^ 17 := by exact_mod_cast Nat.pow_le_pow_right (by decide) (show k ≤ 17 by omega)
    have hs := stepW_dig hc h0 (by
      have e : (10 : Int) ^ 17 = 100000000000000000 := by decide
      omega)
    show t.foldl stepW (stepW n c) = val (n * 10 + ((c.toNat : Int) - 48)) t
    rw [hs]
    refine foldW_dig t _ (k + 1) (fun d hd' => h d (List.mem_cons_of_mem _ hd')) (by omega) ?_ (by omega)
    rw [Int.pow_succ]
    generalize (10 : Int) ^ k = p at hk
    omega
theorem foldW_dec {m : Nat} (h : (Lib.decDigits m).length ≤ 18) : foldW (Lib.decDigits m) = (m : Int) := by
  obtain ⟨h1, h2, _⟩ := dec_all m
  unfold foldW
  rw [foldW_dig _ 0 0 h1 (by omega) (by decide) (by omega)]
  exact h2
theorem dec_len_le : ∀ (k u : Nat), u < 10 ^ (k + 1) → (Lib.decDigits u).length ≤ k + 1
  | 0, u, h => by rw [Lib.decDigits_one (by simpa using h)]; simp
  | k + 1, u, h => by
    by_cases h0 : u < 10
    · rw [Lib.decDigits_one h0]; simp
    · rw [dec_step (by omega), List.length_append]
      have := dec_len_le k (u / 10) (by rw [Nat.pow_succ] at h; omega)
      simp only [List.length_cons, List.length_nil]; omega
theorem dec_len18 {m : Nat} (h : m ≤ 1125899906842624) : (Lib.decDigits m).length ≤ 18 :=
  Nat.le_trans (dec_len_le 15 m (by omega)) (by decide)
end Go.Proofs.YtfgopiopeidfmaaDoor
