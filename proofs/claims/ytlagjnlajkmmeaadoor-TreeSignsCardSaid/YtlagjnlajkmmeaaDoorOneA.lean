/-
Plain mathematics: decimal digits, the least one first. No program in it.
The reference's digit numbers: Cut and Of, by contracts.
The reference's sum of two numbers of digits, by its contract.
The reference's difference and order of two numbers of digits, by contracts.
The reference's product of two numbers of digits, by its contract.
The reference's division of two numbers of digits, by its contract.
The reference's numbers with a sign: From, by its contract; Rounded.
The reference's sum of two numbers with a sign, by its contract.
The reference's To, by its contract.
The program's decimal numbers: size, signed, Add, Sub, Neg, Of, by contracts.
The reference's Add, by its contract.
-/
import Derived.Test.YtlagjnlajkmmeaaDoorRows
import Derived.WalkKit
import Derived.WalkSpells
import Derived.WalkLawsBesides
import Derived.Outline
import Derived.Lib.Hide
import Derived.Deep.RegionWith
import Derived.Deep.QuietTactic
import Derived.BigQuiet
import Derived.Laws.AppendOwnNone
import Derived.Deep.RegionHeld3
import Derived.StillTactics
import Derived.Laws.Pointers
namespace Go.Proofs.YtlagjnlajkmmeaaDoor.One.Num

def valD : List Nat → Nat
  | [] => 0
  | d :: r => d + 10 * valD r

def digs (n : Nat) : List Nat := if n = 0 then [] else n % 10 :: digs (n / 10)
termination_by n
decreasing_by omega

theorem digs_zero : digs 0 = [] := by rw [digs]; simp
theorem digs_pos {n : Nat} (h : n ≠ 0) : digs n = n % 10 :: digs (n / 10) := by rw [digs, if_neg h]

/-- All are decimal digits. -/
def Ten (xs : List Nat) : Prop := ∀ d ∈ xs, d < 10
theorem Ten.nil : Ten [] := by simp [Ten]
theorem Ten.cons {d : Nat} {r : List Nat} (h : d < 10) (k : Ten r) : Ten (d :: r) := by
  intro x hx; rcases List.mem_cons.1 hx with rfl | hx
  · exact h
  · exact k _ hx
theorem Ten.tail {d : Nat} {r : List Nat} (h : Ten (d :: r)) : Ten r := fun x hx => h x (List.mem_cons_of_mem _ hx)
theorem Ten.head {d : Nat} {r : List Nat} (h : Ten (d :: r)) : d < 10 := h d (List.mem_cons_self)
theorem Ten.append {xs ys : List Nat} (h : Ten xs) (k : Ten ys) : Ten (xs ++ ys) := by
  intro d hd; rcases List.mem_append.1 hd with h' | h'
  · exact h d h'
  · exact k d h'
theorem Ten.take {xs : List Nat} (h : Ten xs) (k : Nat) : Ten (xs.take k) := fun d hd => h d (List.mem_of_mem_take hd)
theorem Ten.drop {xs : List Nat} (h : Ten xs) (k : Nat) : Ten (xs.drop k) := fun d hd => h d (List.mem_of_mem_drop hd)
theorem Ten.getD {xs : List Nat} (h : Ten xs) (k : Nat) : xs[k]?.getD 0 < 10 := by
  cases hx : xs[k]? with
  | none => simp
  | some d => simpa using h d (List.mem_of_getElem? hx)
theorem Ten.replicate (n : Nat) : Ten (List.replicate n 0) := by
  intro d hd; have := (List.mem_replicate.1 hd).2; omega

theorem digs_ten (n : Nat) : Ten (digs n) := by
  induction n using Nat.strongRecOn with
  | _ n ih =>
    by_cases h : n = 0
    · subst h; rw [digs_zero]; exact Ten.nil
    · rw [digs_pos h]; exact Ten.cons (by omega) (ih _ (by omega))

theorem valD_digs (n : Nat) : valD (digs n) = n := by
  induction n using Nat.strongRecOn with
  | _ n ih =>
    by_cases h : n = 0
    · subst h; rw [digs_zero]; rfl
    · rw [digs_pos h, valD, ih _ (by omega)]; omega

theorem valD_append (xs ys : List Nat) : valD (xs ++ ys) = valD xs + 10 ^ xs.length * valD ys := by
  induction xs with
  | nil => simp [valD]
  | cons d r ih =>
    rw [List.cons_append, valD, ih, valD, List.length_cons, Nat.pow_succ, Nat.mul_add, ← Nat.mul_assoc, Nat.mul_comm 10 (10 ^ r.length)]; omega

theorem valD_replicate (n : Nat) : valD (List.replicate n 0) = 0 := by
  induction n with
  | zero => rfl
  | succ n ih => rw [List.replicate_succ, valD, ih]

/-- The noughts behind are cut off. -/
def cutL : List Nat → List Nat
  | [] => []
  | d :: r => match cutL r with
    | [] => if d = 0 then [] else [d]
    | e :: s => d :: e :: s

theorem valD_eq_zero {xs : List Nat} (h : valD xs = 0) : cutL xs = [] := by
  induction xs with
  | nil => rfl
  | cons d r ih =>
    rw [valD] at h
    rw [cutL, ih (by omega)]
    simp; omega

theorem cutL_digs {xs : List Nat} (h : Ten xs) : cutL xs = digs (valD xs) := by
  induction xs with
  | nil => rw [valD, digs_zero]; rfl
  | cons d r ih =>
    have hd := h.head
    have ih := ih h.tail
    rw [cutL, ih, valD]
    by_cases hv : valD r = 0
    · rw [hv, digs_zero]
      by_cases h0 : d = 0
      · subst h0; simp [digs_zero]
      · simp only [h0, if_false]
        rw [digs_pos (by omega)]
        have e1 : (d + 10 * 0) % 10 = d := by omega
        have e2 : (d + 10 * 0) / 10 = 0 := by omega
        rw [e1, e2, digs_zero]
    · have e1 : (d + 10 * valD r) % 10 = d := by omega
      have e2 : (d + 10 * valD r) / 10 = valD r := by omega
      rw [digs_pos (n := d + 10 * valD r) (by omega), e1, e2]
      rw [digs_pos hv]

theorem cutL_snoc_zero (xs : List Nat) : cutL (xs ++ [0]) = cutL xs := by
  induction xs with
  | nil => rfl
  | cons d r ih => rw [List.cons_append, cutL, ih, cutL]

theorem cutL_snoc_pos (xs : List Nat) {d : Nat} (h : d ≠ 0) : cutL (xs ++ [d]) = xs ++ [d] := by
  induction xs with
  | nil => simp [cutL, h]
  | cons c r ih =>
    rw [List.cons_append, cutL, ih]
    cases r <;> rfl

theorem take_succ_getD {xs : List Nat} {k : Nat} (h : k < xs.length) : xs.take (k + 1) = xs.take k ++ [xs[k]?.getD 0] := by
  rw [List.take_succ_eq_append_getElem h]; simp [h]

theorem digs_length_le {n k : Nat} (h : n < 10 ^ k) : (digs n).length ≤ k := by
  induction k generalizing n with
  | zero => have : n = 0 := by simpa using h
            subst this; rw [digs_zero]; simp
  | succ k ih =>
    by_cases h0 : n = 0
    · subst h0; rw [digs_zero]; simp
    · rw [digs_pos h0]
      have : (digs (n / 10)).length ≤ k := ih (by rw [Nat.pow_succ] at h; omega)
      simp; omega

theorem valD_lt {xs : List Nat} (h : Ten xs) : valD xs < 10 ^ xs.length := by
  induction xs with
  | nil => simp [valD]
  | cons d r ih =>
    have := ih h.tail
    have := h.head
    rw [valD, List.length_cons, Nat.pow_succ]; omega

theorem digs_length_gt {n k : Nat} (h : 10 ^ k ≤ n) : k < (digs n).length := by
  have := valD_lt (digs_ten n)
  rw [valD_digs] at this
  exact (Nat.pow_lt_pow_iff_right (by decide : 1 < 10)).1 (Nat.lt_of_le_of_lt h this)

/-- A number with fewer digits is less. -/
theorem lt_of_length {a b : Nat} (h : (digs a).length < (digs b).length) : a < b := by
  rcases Nat.lt_or_ge a b with h' | h'
  · exact h'
  · exfalso
    by_cases hb : b = 0
    · subst hb; simp [digs_zero] at h
    · have h1 : a < 10 ^ (digs a).length := by have := valD_lt (digs_ten a); rwa [valD_digs] at this
      have h2 : b < 10 ^ (digs a).length := Nat.lt_of_le_of_lt h' h1
      have := digs_length_le h2
      omega

theorem valD_take_drop (xs : List Nat) (k : Nat) (h : k ≤ xs.length) : valD xs = valD (xs.take k) + 10 ^ k * valD (xs.drop k) := by
  have := valD_append (xs.take k) (xs.drop k)
  rw [List.take_append_drop] at this
  rw [this]
  congr 2
  simp [Nat.min_eq_left h]

theorem valD_drop_getD (xs : List Nat) (k : Nat) (h : k < xs.length) : valD (xs.drop k) = xs[k]?.getD 0 + 10 * valD (xs.drop (k + 1)) := by
  rw [List.drop_eq_getElem_cons h, valD]
  simp [h]

theorem valD_take_succ (xs : List Nat) (k : Nat) : valD (xs.take (k + 1)) = valD (xs.take k) + 10 ^ k * xs[k]?.getD 0 := by
  by_cases h : k < xs.length
  · rw [take_succ_getD h, valD_append]
    simp [valD, Nat.min_eq_left (Nat.le_of_lt h)]
  · have e1 : xs.take (k + 1) = xs := List.take_of_length_le (by omega)
    have e2 : xs.take k = xs := List.take_of_length_le (by omega)
    rw [e1, e2]
    simp [List.getElem?_eq_none (by omega : xs.length ≤ k)]

theorem getD_of_le {xs : List Nat} {k : Nat} (h : xs.length ≤ k) : xs[k]?.getD 0 = 0 := by
  simp [List.getElem?_eq_none h]

theorem lt_of_digit {a b p dx dy t : Nat} (ha : a < p) (h : dx < dy) : a + p * (dx + 10 * t) < b + p * (dy + 10 * t) := by
  have h1 : p * ((dx + 10 * t) + 1) ≤ p * (dy + 10 * t) := Nat.mul_le_mul_left _ (by omega)
  rw [Nat.mul_add, Nat.mul_one] at h1
  omega
theorem lt_iff_digit {a b p dx dy t : Nat} (ha : a < p) (hb : b < p) (hne : dx ≠ dy) : a + p * (dx + 10 * t) < b + p * (dy + 10 * t) ↔ dx < dy := by
  constructor
  · intro h
    rcases Nat.lt_or_ge dx dy with h' | h'
    · exact h'
    · have := lt_of_digit (b := a) (t := t) hb (show dy < dx by omega); omega
  · exact fun h => lt_of_digit ha h

theorem over_step {a b q r t j r' : Nat} (h : a = b * q + r) (hr : r' + j * b = t + 10 * r) : t + 10 * a = b * (j + 10 * q) + r' := by
  rw [Nat.mul_add, Nat.mul_left_comm b 10 q, h, Nat.mul_comm b j]
  omega
theorem over_end {a b q r : Nat} (h : a = b * q + r) (hr : r < b) : q = a / b ∧ r = a % b := by
  subst h
  constructor
  · rw [Nat.mul_add_div (by omega), Nat.div_eq_of_lt hr, Nat.add_zero]
  · rw [Nat.mul_add_mod, Nat.mod_eq_of_lt hr]
theorem set_mid (i j u : Nat) (zs : List Nat) : (List.replicate i 0 ++ j :: zs).set i u = List.replicate i 0 ++ u :: zs := by
  rw [List.set_append_right _ _ (by simp)]
  simp
theorem mid_getD (i j : Nat) (zs : List Nat) : (List.replicate i 0 ++ j :: zs)[i]?.getD 0 = j := by
  rw [List.getElem?_append_right (by simp)]
  simp
theorem rep_succ (i : Nat) (zs : List Nat) : List.replicate (i + 1) 0 ++ zs = List.replicate i 0 ++ 0 :: zs := by
  rw [List.replicate_succ', List.append_assoc]; rfl
theorem digs_snoc {t r : Nat} (ht : t < 10) : cutL (t :: digs r) = digs (t + 10 * r) := by
  rw [cutL_digs (Ten.cons ht (digs_ten r)), valD, valD_digs]

theorem digs_length_mono {a b : Nat} (h : b ≤ a) : (digs b).length ≤ (digs a).length := by
  rcases Nat.lt_or_ge (digs a).length (digs b).length with h' | h'
  · have := lt_of_length h'; omega
  · exact h'

theorem Nat.pos_pow_of_pos' (k : Nat) : 1 ≤ 10 ^ k := Nat.one_le_pow _ _ (by decide)
theorem valD_drop_le (xs : List Nat) (k : Nat) : valD (xs.drop k) ≤ valD xs := by
  by_cases h : k ≤ xs.length
  · rw [valD_take_drop xs k h]
    have : 1 ≤ 10 ^ k := Nat.pos_pow_of_pos' k
    have := Nat.mul_le_mul_right (valD (xs.drop k)) this
    omega
  · rw [List.drop_of_length_le (by omega)]; simp [valD]

end Go.Proofs.YtlagjnlajkmmeaaDoor.One.Num

namespace Go.Proofs.YtlagjnlajkmmeaaDoor.One
open Go.RowKit
open Num (digs valD cutL Ten)

def nv (d : Nat) : Value := .int .u8 (d : Int)
/-- The slice value v is nil, or heads a row from block B on; it reads as the digits xs. -/
def Own (B : Nat) (w : World) (v : Value) (xs : List Nat) : Prop := w.ownsRow B 5 1 v xs.length (xs.map nv)
/-- The slice value v reads as the digits xs in the world w. -/
abbrev Rd (w : World) (v : Value) (xs : List Nat) : Prop := Own 0 w v xs

theorem ownsRow_base {w : World} {B B' e s n : Nat} {v : Value} {xs : List Value} (h : w.ownsRow B e s v n xs) (hB : B' ≤ B) : w.ownsRow B' e s v n xs := by
  refine ⟨h.1, ?_⟩
  rcases h.2 with h2 | ⟨g, cap, cur, hv, hg, r⟩
  · exact .inl h2
  · exact .inr ⟨g, cap, cur, hv, Nat.le_trans hB hg, r⟩
theorem ownsRow_below {w w' : World} {K B e s n : Nat} {v : Value} {xs : List Value} (h : w.ownsRow B e s v n xs) (hb : Below K w w') (hK : w.heap.size ≤ K) : w'.ownsRow B e s v n xs := by
  refine ⟨h.1, ?_⟩
  rcases h.2 with h2 | ⟨g, cap, cur, hv, hg, hh, r⟩
  · exact .inl h2
  · have hlt := (Array.getElem?_eq_some_iff.1 hh).1
    exact .inr ⟨g, cap, cur, hv, hg, by rw [hb.block g (by omega)]; exact hh, r⟩

theorem Own.base {B B' : Nat} {w : World} {v : Value} {xs : List Nat} (h : Own B w v xs) (hB : B' ≤ B) : Own B' w v xs := ownsRow_base h hB
theorem Own.rd {B : Nat} {w : World} {v : Value} {xs : List Nat} (h : Own B w v xs) : Rd w v xs := ownsRow_base h (Nat.zero_le _)
theorem Own.below {B : Nat} {w w' : World} {v : Value} {xs : List Nat} (h : Own B w v xs) (hb : Below w.heap.size w w') : Own B w' v xs := ownsRow_below h hb (Nat.le_refl _)
theorem Own.alloc {B : Nat} {w : World} {v : Value} {xs : List Nat} (h : Own B w v xs) (o : Obj) : Own B (w.alloc o) v xs := World.ownsRow.alloc h o
theorem Own.drew {B : Nat} {w : World} {v : Value} {xs : List Nat} (h : Own B w v xs) : Own B w.drew v xs := World.ownsRow.drew h
theorem Own.nil (B : Nat) (w : World) : Own B w (.slice none 0 0) [] := World.ownsRow_nil _ _ _ _

theorem Own.cases {B : Nat} {w : World} {v : Value} {xs : List Nat} (h : Own B w v xs) :
    (v = .slice none 0 0 ∧ xs = []) ∨ ∃ g cap, v = .slice (some ⟨g, 0, none⟩) xs.length cap ∧ xs.length ≤ cap ∧ cap ≤ maxLen ∧ g < w.heap.size ∧ ∀ j, j < xs.length → w.cell? ⟨g, j, none⟩ = some (.int .u8 ((xs[j]?.getD 0 : Nat) : Int)) := by
  rcases h.2 with ⟨hv, hn⟩ | ⟨g, cap, cur, hv, _, hh, hnc, hm, hs, ht⟩
  · exact .inl ⟨hv, List.eq_nil_of_length_eq_zero hn⟩
  · refine .inr ⟨g, cap, hv, hnc, hm, (Array.getElem?_eq_some_iff.1 hh).1, fun j hj => ?_⟩
    have hx : (xs.map nv)[j]? = some (nv (xs[j]?.getD 0)) := by simp [hj]
    rw [cell_of_row w g j cur 5 (0, 0) hh]
    rw [← ht, List.getElem?_take] at hx
    split at hx
    · simpa [nv] using hx
    · cases hx

theorem Own.take {B : Nat} {w : World} {g n cap : Nat} {xs : List Nat} (h : Own B w (.slice (some ⟨g, 0, none⟩) n cap) xs) (k : Nat) (hk : k ≤ xs.length) : Own B w (.slice (some ⟨g, 0, none⟩) k cap) (xs.take k) := by
  rcases h.2 with ⟨hv, hn⟩ | ⟨g', cap', cur, hv, hb, hh, hnc, hm, hs, ht⟩
  · simp at hv
  · simp only [Value.slice.injEq, Option.some.injEq, Addr.mk.injEq, and_true] at hv
    obtain ⟨rfl, hn, rfl⟩ := hv
    refine ⟨by simp, .inr ⟨g, cap, cur, by simp [Nat.min_eq_left hk], hb, hh, by simp; omega, hm, hs, ?_⟩⟩
    rw [List.map_take, ← ht, List.take_take]
    congr 1
    simp

/-- The element type's row. -/
theorem info_u8 : (Tryd.prog.info? 5).map (fun i => (i.zero, i.size, i.bytes)) = some (some (.int .u8 0), 1, 1) := by kernel_rfl

theorem rem10 (m : Nat) : (m : Int) % 10 = ((m % 10 : Nat) : Int) := by omega

end Go.Proofs.YtlagjnlajkmmeaaDoor.One

namespace Go.Proofs.YtlagjnlajkmmeaaDoor.One
open Go.RowKit
open Num (digs valD cutL Ten)

theorem plus_step {k c d dx dy a b s x y : Nat} (h : s + 10 ^ k * c = x + y) (hd : dx + dy + c = d) (ha : d % 10 = a) (hb : d / 10 = b) :
    (s + 10 ^ k * a) + 10 ^ (k + 1) * b = (x + 10 ^ k * dx) + (y + 10 ^ k * dy) := by
  have e : d = a + 10 * b := by omega
  have : 10 ^ k * (dx + dy + c) = 10 ^ k * (a + 10 * b) := by rw [hd, e]
  simp only [Nat.mul_add] at this
  rw [Nat.pow_succ, Nat.mul_assoc]
  omega

end Go.Proofs.YtlagjnlajkmmeaaDoor.One

namespace Go.Proofs.YtlagjnlajkmmeaaDoor.One
open Go.RowKit
open Num (digs valD cutL Ten)

theorem Own.lens {B : Nat} {w : World} {v : Value} {xs : List Nat} (h : Own B w v xs) {n : Nat} (hn : n = xs.length) : ∃ p c, v = .slice p n c := by
  subst hn
  rcases h.cases with ⟨rfl, rfl⟩ | ⟨g, cap, rfl, _⟩
  · exact ⟨none, 0, rfl⟩
  · exact ⟨_, _, rfl⟩

theorem minus_step {k c dx dy a q s x y : Nat} (h : x + 10 ^ k * c = s + y) (hd : dx + 10 * (1 - q) = a + dy + c) :
    (x + 10 ^ k * dx) + 10 ^ (k + 1) * (1 - q) = (s + 10 ^ k * a) + (y + 10 ^ k * dy) := by
  have : 10 ^ k * (dx + 10 * (1 - q)) = 10 ^ k * (a + dy + c) := by rw [hd]
  simp only [Nat.mul_add] at this
  rw [Nat.pow_succ, Nat.mul_assoc]
  omega

theorem ret_bool {a b : Bool} (h : a = b) : Ending.returned (.bool a) = .returned (.bool b) := by rw [h]

end Go.Proofs.YtlagjnlajkmmeaaDoor.One

namespace Go.Proofs.YtlagjnlajkmmeaaDoor.One
open Go.RowKit
open Num (digs valD cutL Ten)

theorem times_step {a s p d : Nat} : a * (s + p * d) + (p * a) = a * (s + p * (d + 1)) := by
  rw [Nat.mul_add p, Nat.mul_one, ← Nat.add_assoc, Nat.mul_add a (s + p * d) p, Nat.mul_comm p a]

end Go.Proofs.YtlagjnlajkmmeaaDoor.One

namespace Go.Proofs.YtlagjnlajkmmeaaDoor.One
open Go.RowKit
open Num (digs valD cutL Ten)

/-- A literal of one digit. -/
theorem own_lit1 (w : World) (t : Nat) : Own w.heap.size (w.alloc (.cells #[.int .u8 (t : Int)] 5)) (.slice (some ⟨w.heap.size, 0, none⟩) 1 1) [t] := by
  refine ⟨by simp, .inr ⟨w.heap.size, 1, #[.int .u8 (t : Int)], rfl, Nat.le_refl _, heap_alloc_new w _, by simp, by decide, by simp, by simp [nv]⟩⟩

/-- The cell of a row of digits, and its store. -/
theorem Own.cellAt {B g n cap : Nat} {w : World} {xs : List Nat} (h : Own B w (.slice (some ⟨g, 0, none⟩) n cap) xs) (j : Nat) (hj : j < xs.length) : w.cell? ⟨g, j, none⟩ = some (.int .u8 ((xs[j]?.getD 0 : Nat) : Int)) := by
  rcases h.cases with ⟨h, _⟩ | ⟨g', cap', h, _, _, _, hc⟩
  · simp at h
  · simp at h; rw [h.1]; exact hc j hj
theorem Own.lenEq {B g n cap : Nat} {w : World} {xs : List Nat} (h : Own B w (.slice (some ⟨g, 0, none⟩) n cap) xs) : n = xs.length := by
  rcases h.cases with ⟨h, _⟩ | ⟨g', cap', h, _⟩
  · simp at h
  · simp at h; exact h.2.1
theorem Own.frozenAt {B g n cap : Nat} {w : World} {xs : List Nat} (h : Own B w (.slice (some ⟨g, 0, none⟩) n cap) xs) (j : Nat) : w.frozen? ⟨g, j, none⟩ = false := by
  have hn := h.lenEq; subst hn
  exact World.ownsRow.frozenAt h j
theorem Own.stored {B g n cap : Nat} {w : World} {xs : List Nat} (h : Own B w (.slice (some ⟨g, 0, none⟩) n cap) xs) (j u : Nat) : Own B (w.setCell ⟨g, j, none⟩ (.int .u8 (u : Int))) (.slice (some ⟨g, 0, none⟩) n cap) (xs.set j u) := by
  have hn := h.lenEq; subst hn
  have := (World.ownsRow.stored h j (.int .u8 (u : Int))).1
  unfold Own
  simpa [List.map_set, nv] using this
theorem Own.setBelow {B : Nat} {w : World} {v : Value} {xs : List Nat} (h : Own B w v xs) {a : Addr} (ha : a.block < B) (u : Value) : Own B (w.setCell a u) v xs := ownsRow_setCell_below h ha u

theorem cellB {w w' : World} {p : Addr} {v : Value} (h : w.cell? p = some v) (hb : Below w.heap.size w w') : w'.cell? p = some v := by
  rw [hb.cell (World.block_lt_of_cell? w p h)]; exact h
theorem frozB {w w' : World} {p : Addr} {v : Value} {f : Bool} (h : w.cell? p = some v) (hf : w.frozen? p = f) (hb : Below w.heap.size w w') : w'.frozen? p = f := by
  rw [hb.frozen (World.block_lt_of_cell? w p h)]; exact hf

end Go.Proofs.YtlagjnlajkmmeaaDoor.One

namespace Go.Proofs.YtlagjnlajkmmeaaDoor.One
open Go.RowKit
open Num (digs valD cutL Ten)

/-- The cells that a call keeps. -/
theorem bcell {W w1 : World} {B : Nat} (hb : Below B W w1) (b o : Nat) (h : b < B) : w1.cell? ⟨b, o, none⟩ = W.cell? ⟨b, o, none⟩ := hb.cell (p := ⟨b, o, none⟩) h
theorem bfroz {W w1 : World} {B : Nat} (hb : Below B W w1) (b o : Nat) (h : b < B) : w1.frozen? ⟨b, o, none⟩ = W.frozen? ⟨b, o, none⟩ := hb.frozen (p := ⟨b, o, none⟩) h

/-- A new block of two cells, behind a call. -/
theorem two_cells {w w1 : World} {x y : Value} {T : TypeId} (hb : Below (w.alloc (.cells #[x, y] T)).heap.size (w.alloc (.cells #[x, y] T)) w1) :
    w1.cell? ⟨w.heap.size, 0, none⟩ = some x ∧ w1.cell? ⟨w.heap.size, 1, none⟩ = some y ∧ w1.frozen? ⟨w.heap.size, 0, none⟩ = false ∧ w1.frozen? ⟨w.heap.size, 1, none⟩ = false ∧ w.heap.size < w1.heap.size := by
  have h0 : (w.alloc (.cells #[x, y] T)).heap[w.heap.size]? = some (.cells #[x, y] T (0, 0)) := heap_alloc_new w _
  have hs := hb.size
  simp at hs
  refine ⟨?_, ?_, ?_, ?_, by omega⟩
  · rw [bcell hb _ _ (by simp), cell_of_row _ _ 0 _ _ _ h0]; rfl
  · rw [bcell hb _ _ (by simp), cell_of_row _ _ 1 _ _ _ h0]; rfl
  · rw [bfroz hb _ _ (by simp)]; exact frozen_of_row _ _ 0 _ _ h0
  · rw [bfroz hb _ _ (by simp)]; exact frozen_of_row _ _ 1 _ _ h0

/-- A struct of two cells that is stored behind the calls: what the calls made stays. -/
theorem box_end {w w1 : World} {o : Obj} {v : Value} {xs : List Nat} (hb : Below (w.alloc o).heap.size (w.alloc o) w1) (ho : Own (w.alloc o).heap.size w1 v xs) (x y : Value) :
    Own w.heap.size ((w1.setCell ⟨w.heap.size, 0, none⟩ x).setCell ⟨w.heap.size, 1, none⟩ y) v xs ∧ Below w.heap.size w ((w1.setCell ⟨w.heap.size, 0, none⟩ x).setCell ⟨w.heap.size, 1, none⟩ y) :=
  ⟨((ho.setBelow (a := ⟨w.heap.size, 0, none⟩) (by simp) x).setBelow (a := ⟨w.heap.size, 1, none⟩) (by simp) y).base (by simp),
   ((((Below.refl _ w).alloc (Nat.le_refl _) o).trans (hb.mono (by simp))).setCell (Nat.le_refl _) _).setCell (Nat.le_refl _) _⟩

end Go.Proofs.YtlagjnlajkmmeaaDoor.One

namespace Go.Proofs.YtlagjnlajkmmeaaDoor.One
open Go.RowKit
open Num (digs valD cutL Ten)

/-- Three new blocks of two cells each, behind a call. -/
theorem box3 {w W w4 : World} {a0 a1 b0 b1 c0 c1 : Value} {T : TypeId} (hW : W.heap = (((w.alloc (.cells #[a0, a1] T)).alloc (.cells #[b0, b1] T)).alloc (.cells #[c0, c1] T)).heap) (hb : Below W.heap.size W w4) :
    (w4.cell? ⟨w.heap.size, 0, none⟩ = some a0 ∧ w4.cell? ⟨w.heap.size, 1, none⟩ = some a1 ∧ w4.cell? ⟨w.heap.size + 1, 0, none⟩ = some b0 ∧ w4.cell? ⟨w.heap.size + 1, 1, none⟩ = some b1) ∧
    (w4.cell? ⟨w.heap.size + 1 + 1, 0, none⟩ = some c0 ∧ w4.cell? ⟨w.heap.size + 1 + 1, 1, none⟩ = some c1 ∧ w4.frozen? ⟨w.heap.size + 1 + 1, 0, none⟩ = false ∧ w4.frozen? ⟨w.heap.size + 1 + 1, 1, none⟩ = false) ∧
    w.heap.size + 1 + 1 < w4.heap.size := by
  have hsz : W.heap.size = w.heap.size + 3 := by rw [hW]; simp
  have h0 : W.heap[w.heap.size]? = some (.cells #[a0, a1] T (0, 0)) := by
    rw [hW, Below.heap_alloc _ _ _ (by simp; omega), Below.heap_alloc _ _ _ (by simp)]; exact heap_alloc_new w _
  have h1 : W.heap[w.heap.size + 1]? = some (.cells #[b0, b1] T (0, 0)) := by
    rw [hW, Below.heap_alloc _ _ _ (by simp)]
    have := heap_alloc_new (w.alloc (.cells #[a0, a1] T)) (.cells #[b0, b1] T)
    simpa using this
  have h2 : W.heap[w.heap.size + 1 + 1]? = some (.cells #[c0, c1] T (0, 0)) := by
    rw [hW]
    have := heap_alloc_new ((w.alloc (.cells #[a0, a1] T)).alloc (.cells #[b0, b1] T)) (.cells #[c0, c1] T)
    simpa using this
  have hs := hb.size
  refine ⟨⟨?_, ?_, ?_, ?_⟩, ⟨?_, ?_, ?_, ?_⟩, by omega⟩
  · rw [bcell hb _ _ (by omega), cell_of_row _ _ 0 _ _ _ h0]; rfl
  · rw [bcell hb _ _ (by omega), cell_of_row _ _ 1 _ _ _ h0]; rfl
  · rw [bcell hb _ _ (by omega), cell_of_row _ _ 0 _ _ _ h1]; rfl
  · rw [bcell hb _ _ (by omega), cell_of_row _ _ 1 _ _ _ h1]; rfl
  · rw [bcell hb _ _ (by omega), cell_of_row _ _ 0 _ _ _ h2]; rfl
  · rw [bcell hb _ _ (by omega), cell_of_row _ _ 1 _ _ _ h2]; rfl
  · rw [bfroz hb _ _ (by omega)]; exact frozen_of_row _ _ 0 _ _ h2
  · rw [bfroz hb _ _ (by omega)]; exact frozen_of_row _ _ 1 _ _ h2

/-- Behind the store into the third of three new blocks. -/
theorem keep3 {B : Nat} {w4 : World} {a0 a1 b0 b1 : Value} (h : w4.cell? ⟨B, 0, none⟩ = some a0 ∧ w4.cell? ⟨B, 1, none⟩ = some a1 ∧ w4.cell? ⟨B + 1, 0, none⟩ = some b0 ∧ w4.cell? ⟨B + 1, 1, none⟩ = some b1) (x y : Value) :
    ((w4.setCell ⟨B + 1 + 1, 0, none⟩ x).setCell ⟨B + 1 + 1, 1, none⟩ y).cell? ⟨B, 0, none⟩ = some a0 ∧ ((w4.setCell ⟨B + 1 + 1, 0, none⟩ x).setCell ⟨B + 1 + 1, 1, none⟩ y).cell? ⟨B, 1, none⟩ = some a1 ∧
    ((w4.setCell ⟨B + 1 + 1, 0, none⟩ x).setCell ⟨B + 1 + 1, 1, none⟩ y).cell? ⟨B + 1, 0, none⟩ = some b0 ∧ ((w4.setCell ⟨B + 1 + 1, 0, none⟩ x).setCell ⟨B + 1 + 1, 1, none⟩ y).cell? ⟨B + 1, 1, none⟩ = some b1 := by
  have hb : Below (B + 1 + 1) w4 ((w4.setCell ⟨B + 1 + 1, 0, none⟩ x).setCell ⟨B + 1 + 1, 1, none⟩ y) := ((Below.refl (B + 1 + 1) w4).setCell (p := ⟨B + 1 + 1, 0, none⟩) (Nat.le_refl _) _).setCell (p := ⟨B + 1 + 1, 1, none⟩) (Nat.le_refl _) _
  rw [bcell hb B 0 (by omega), bcell hb B 1 (by omega), bcell hb (B + 1) 0 (by omega), bcell hb (B + 1) 1 (by omega)]
  exact h

/-- The end of Sum: what the call made is there behind the store; nothing old has turned. -/
theorem end3 {w W w4 : World} {o1 o2 o3 : Obj} (hW : W.heap = (((w.alloc o1).alloc o2).alloc o3).heap) (hos : W.os = w.os) (htape : W.tape = w.tape) (hout : W.output = w.output) (hb : Below W.heap.size W w4) {v : Value} {xs : List Nat} (ho : Own W.heap.size w4 v xs) (x y : Value) :
    Rd ((w4.setCell ⟨w.heap.size + 1 + 1, 0, none⟩ x).setCell ⟨w.heap.size + 1 + 1, 1, none⟩ y) v xs ∧ Below w.heap.size w ((w4.setCell ⟨w.heap.size + 1 + 1, 0, none⟩ x).setCell ⟨w.heap.size + 1 + 1, 1, none⟩ y) := by
  have hsz : W.heap.size = w.heap.size + 3 := by rw [hW]; simp
  have h0 : Below w.heap.size w W := by
    refine ⟨hos, htape, hout, by omega, fun k hk => ?_⟩
    rw [hW, Below.heap_alloc _ _ _ (by simp; omega), Below.heap_alloc _ _ _ (by simp; omega), Below.heap_alloc _ _ _ hk]
  exact ⟨((ho.setBelow (by simp; omega) x).setBelow (by simp; omega) y).rd, ((h0.trans (hb.mono (by omega))).setCell (by simp; omega) _).setCell (by simp; omega) _⟩

/-- What was there is there in the world of the three new blocks. -/
theorem rd3 {w W : World} {o1 o2 o3 : Obj} (hW : W.heap = (((w.alloc o1).alloc o2).alloc o3).heap) {v : Value} {xs : List Nat} (h : Rd w v xs) : Rd W v xs := by
  have := ((h.alloc o1).alloc o2).alloc o3
  unfold Rd Own World.ownsRow at *
  rw [hW]; exact this

end Go.Proofs.YtlagjnlajkmmeaaDoor.One

namespace Go.Proofs.YtlagjnlajkmmeaaDoor.One
open Go.RowKit
open Num (digs valD cutL Ten)

/-- 2^63. -/
def P63 : Nat := 9223372036854775808
theorem p63_len : (digs P63).length ≤ 20 := Num.digs_length_le (by unfold P63; decide)

theorem ret_ii {k l : IntKind} {a b c d : Int} (h : a = c) (h' : b = d) : Ending.returned (.tuple #[.int k a, .int l b]) = .returned (.tuple #[.int k c, .int l d]) := by rw [h, h']

/-- What To answers. -/
def toI (z : Int) : Int × Int := if -9223372036854775808 ≤ z ∧ z ≤ 9223372036854775807 then (z, 0) else (0, 31)
def sgn (m : Bool) (n : Nat) : Int := if m then -(n : Int) else (n : Int)

end Go.Proofs.YtlagjnlajkmmeaaDoor.One

namespace Go.Proofs.YtlagjnlajkmmeaaDoor.One
open Go.RowKit

/-- An int64. -/
def I64 (z : Int) : Prop := -9223372036854775808 ≤ z ∧ z ≤ 9223372036854775807

theorem toI_of {z r e : Int} (h : I64 z ∧ r = z ∧ e = 0 ∨ ¬ I64 z ∧ r = 0 ∧ e = 31) : toI z = (r, e) := by
  unfold toI
  rcases h with ⟨h, rfl, rfl⟩ | ⟨h, rfl, rfl⟩
  · unfold I64 at h; rw [if_pos h]
  · unfold I64 at h; rw [if_neg h]

theorem u64wrap (x : Int) : IntKind.u64.wrap x = x % 18446744073709551616 := by simp [IntKind.wrap, IntKind.bits, IntKind.signed]

theorem add_ok {a b : Int} (ha : I64 a) (hb : I64 b) (h : (!decide (a < wrap64 (a + b)) == decide (0 < b)) = false) : toI (a + b) = (wrap64 (a + b), 0) := by
  have h' : (a < wrap64 (a + b)) ↔ (0 < b) := by
    by_cases h1 : a < wrap64 (a + b) <;> by_cases h2 : 0 < b <;> simp [h1, h2] at h ⊢
  refine toI_of (.inl ?_)
  unfold wrap64 I64 at *
  omega
theorem add_no {a b : Int} (ha : I64 a) (hb : I64 b) (h : (!decide (a < wrap64 (a + b)) == decide (0 < b)) = true) : toI (a + b) = (0, 31) := by
  have h' : ¬ ((a < wrap64 (a + b)) ↔ (0 < b)) := by
    by_cases h1 : a < wrap64 (a + b) <;> by_cases h2 : 0 < b <;> simp [h1, h2] at h ⊢
  refine toI_of (.inr ?_)
  unfold wrap64 I64 at *
  omega
theorem sub_ok {a b : Int} (ha : I64 a) (hb : I64 b) (h : (!decide (wrap64 (a - b) < a) == decide (0 < b)) = false) : toI (a - b) = (wrap64 (a - b), 0) := by
  have h' : (wrap64 (a - b) < a) ↔ (0 < b) := by
    by_cases h1 : wrap64 (a - b) < a <;> by_cases h2 : 0 < b <;> simp [h1, h2] at h ⊢
  refine toI_of (.inl ?_)
  unfold wrap64 I64 at *
  omega
theorem sub_no {a b : Int} (ha : I64 a) (hb : I64 b) (h : (!decide (wrap64 (a - b) < a) == decide (0 < b)) = true) : toI (a - b) = (0, 31) := by
  have h' : ¬ ((wrap64 (a - b) < a) ↔ (0 < b)) := by
    by_cases h1 : wrap64 (a - b) < a <;> by_cases h2 : 0 < b <;> simp [h1, h2] at h ⊢
  refine toI_of (.inr ?_)
  unfold wrap64 I64 at *
  omega

/-- dec.size. -/
theorem size_any (z : Int) (hz : I64 z) (w : World) :
    Calls Tryd.prog 52 #[.int .i64 z] w fun e w' => e = .returned (.int .u64 ((z.natAbs : Nat) : Int)) ∧ w = w' := by
  obtain ⟨h1, h2⟩ := hz
  rcases Int.lt_or_le z 0 with h | h
  · have e : IntKind.u64.wrap (-IntKind.u64.wrap z) = ((z.natAbs : Nat) : Int) := by
      rw [u64wrap, u64wrap]; omega
    have E := Lib.hid e; clear e
    go_enter Tryd.func52, Tryd.ntmps52
    go_wp2
    go_ret
    exact ⟨by rw [← E.out]; rfl, rfl⟩
  · have e : z = ((z.natAbs : Nat) : Int) := by omega
    have E := Lib.hid e; clear e
    go_enter Tryd.func52, Tryd.ntmps52
    go_wp2
    go_ret
    exact ⟨by rw [← E.out]; rfl, rfl⟩

theorem i64_zero : I64 0 := by unfold I64; omega

end Go.Proofs.YtlagjnlajkmmeaaDoor.One

namespace Go.Proofs.YtlagjnlajkmmeaaDoor.One
open Go.RowKit
open Num (digs valD cutL Ten)

theorem digs_len_add {a b k : Nat} (ha : (digs a).length ≤ k) (hb : (digs b).length ≤ k) : (digs (a + b)).length ≤ k + 1 := by
  refine Num.digs_length_le ?_
  have h1 := Num.valD_lt (Num.digs_ten a); rw [Num.valD_digs] at h1
  have h2 := Num.valD_lt (Num.digs_ten b); rw [Num.valD_digs] at h2
  have h3 := Nat.pow_le_pow_right (show 0 < 10 by decide) ha
  have h4 := Nat.pow_le_pow_right (show 0 < 10 by decide) hb
  rw [Nat.pow_succ]; omega

theorem sgn_int (z : Int) : sgn (decide (z < 0)) z.natAbs = z := by
  unfold sgn
  by_cases h : z < 0 <;> simp [h] <;> omega
theorem sgn_neg (m : Bool) (n : Nat) : sgn (!m) n = -(sgn m n) := by unfold sgn; cases m <;> simp
theorem len_int (z : Int) (hz : I64 z) : (digs z.natAbs).length ≤ 20 := Num.digs_length_le (by unfold I64 at hz; omega)

theorem cellBd {w w' : World} {p : Addr} {v : Value} (h : w.cell? p = some v) (hb : Below w.drew.heap.size w.drew w') : w'.cell? p = some v := cellB (w := w.drew) h hb
theorem frozBd {w w' : World} {p : Addr} {v : Value} {f : Bool} (h : w.cell? p = some v) (hf : w.frozen? p = f) (hb : Below w.drew.heap.size w.drew w') : w'.frozen? p = f := frozB (w := w.drew) h hf hb

/-- A new block of two cells, behind a draw and a call. -/
theorem two_cellsD {w w1 : World} {x y : Value} {T : TypeId} (hb : Below (w.alloc (.cells #[x, y] T)).drew.heap.size (w.alloc (.cells #[x, y] T)).drew w1) :
    w1.cell? ⟨w.heap.size, 0, none⟩ = some x ∧ w1.cell? ⟨w.heap.size, 1, none⟩ = some y := by
  have h := two_cells (w := w) (w1 := w1) (x := x) (y := y) (T := T) ⟨hb.os, hb.tape, hb.output, hb.size, hb.block⟩
  exact ⟨h.1, h.2.1⟩
theorem belowA {w w1 w2 : World} {o : Obj} (h1 : Below w.heap.size w w1) (h2 : Below (w1.alloc o).drew.heap.size (w1.alloc o).drew w2) : Below w.heap.size w w2 := by
  have h3 : Below w.heap.size w (w1.alloc o).drew := (h1.alloc h1.size o).drew
  exact h3.trans (h2.mono h3.size)
theorem rdA {w1 w2 : World} {B : Nat} {o : Obj} {v : Value} {xs : List Nat} (h : Own B w1 v xs) (h2 : Below (w1.alloc o).drew.heap.size (w1.alloc o).drew w2) : Rd w2 v xs :=
  ((h.alloc o).drew.below h2).rd

end Go.Proofs.YtlagjnlajkmmeaaDoor.One
