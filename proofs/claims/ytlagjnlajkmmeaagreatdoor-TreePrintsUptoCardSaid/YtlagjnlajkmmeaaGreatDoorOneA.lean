/-
Plain mathematics: decimal digits, the least one first. No program in it.
The reference's digit numbers: Cut and Of, by contracts.
The reference's sum of two numbers of digits, by its contract.
The reference's difference and order of two numbers of digits, by contracts.
The reference's product of two numbers of digits, by its contract.
The reference's division of two numbers of digits, by its contract.
The reference's numbers with a sign: From, by its contract; Rounded.
The reference's sum of two numbers with a sign, by its contract.
The reference's To, by its contract.
The program's decimal numbers: size, signed, Add, Sub, Neg, Of, by contracts.
The reference's Add, by its contract.
-/
import Derived.Test.YtlagjnlajkmmeaaGreatDoorRows
import Derived.WalkKit
import Derived.WalkSpells
import Derived.WalkLawsBesides
import Derived.Outline
import Derived.Lib.Hide
import Derived.Deep.RegionWith
import Derived.Deep.QuietTactic
import Derived.BigQuiet
import Derived.Laws.AppendOwnNone
import Derived.Deep.RegionHeld3
import Derived.StillTactics
import Derived.Laws.Pointers
namespace Go.Proofs.YtlagjnlajkmmeaaGreatDoor.One.Num

def valD : List Nat → Nat
  | [] => 0
  | d :: r => d + 10 * valD r

def digs (n : Nat) : List Nat := if n = 0 then [] else n % 10 :: digs (n / 10)
termination_by n
decreasing_by omega

theorem digs_zero : digs 0 = [] := by rw [digs]; simp
theorem digs_pos {n : Nat} (h : n ≠ 0) : digs n = n % 10 :: digs (n / 10) := by rw [digs, if_neg h]

/-- All are decimal digits. -/
def Ten (xs : List Nat) : Prop := ∀ d ∈ xs, d < 10
theorem Ten.nil : Ten [] := by simp [Ten]
theorem Ten.cons {d : Nat} {r : List Nat} (h : d < 10) (k : Ten r) : Ten (d :: r) := by
  intro x hx; rcases List.mem_cons.1 hx with rfl | hx
  · exact h
  · exact k _ hx
theorem Ten.tail {d : Nat} {r : List Nat} (h : Ten (d :: r)) : Ten r := fun x hx => h x (List.mem_cons_of_mem _ hx)
theorem Ten.head {d : Nat} {r : List Nat} (h : Ten (d :: r)) : d < 10 := h d (List.mem_cons_self)
theorem Ten.append {xs ys : List Nat} (h : Ten xs) (k : Ten ys) : Ten (xs ++ ys) := by
  intro d hd; rcases List.mem_append.1 hd with h' | h'
  · exact h d h'
  · exact k d h'
theorem Ten.take {xs : List Nat} (h : Ten xs) (k : Nat) : Ten (xs.take k) := fun d hd => h d (List.mem_of_mem_take hd)
theorem Ten.drop {xs : List Nat} (h : Ten xs) (k : Nat) : Ten (xs.drop k) := fun d hd => h d (List.mem_of_mem_drop hd)
theorem Ten.getD {xs : List Nat} (h : Ten xs) (k : Nat) : xs[k]?.getD 0 < 10 := by
  cases hx : xs[k]? with
  | none => simp
  | some d => simpa using h d (List.mem_of_getElem? hx)
theorem Ten.replicate (n : Nat) : Ten (List.replicate n 0) := by
  intro d hd; have := (List.mem_replicate.1 hd).2; omega

theorem digs_ten (n : Nat) : Ten (digs n) := by
  induction n using Nat.strongRecOn with
  | _ n ih =>
    by_cases h : n = 0
    · subst h; rw [digs_zero]; exact Ten.nil
    · rw [digs_pos h]; exact Ten.cons (by omega) (ih _ (by omega))

theorem valD_digs (n : Nat) : valD (digs n) = n := by
  induction n using Nat.strongRecOn with
  | _ n ih =>
    by_cases h : n = 0
    · subst h; rw [digs_zero]; rfl
    · rw [digs_pos h, valD, ih _ (by omega)]; omega

theorem valD_append (xs ys : List Nat) : valD (xs ++ ys) = valD xs + 10 ^ xs.length * valD ys := by
  induction xs with
  | nil => simp [valD]
  | cons d r ih =>
    rw [List.cons_append, valD, ih, valD, List.length_cons, Nat.pow_succ, Nat.mul_add, ← Nat.mul_assoc, Nat.mul_comm 10 (10 ^ r.length)]; omega

theorem valD_replicate (n : Nat) : valD (List.replicate n 0) = 0 := by
  induction n with
  | zero => rfl
  | succ n ih => rw [List.replicate_succ, valD, ih]

/-- The noughts behind are cut off. -/
def cutL : List Nat → List Nat
  | [] => []
  | d :: r => match cutL r with
    | [] => if d = 0 then [] else [d]
    | e :: s => d :: e :: s

theorem valD_eq_zero {xs : List Nat} (h : valD xs = 0) : cutL xs = [] := by
  induction xs with
  | nil => rfl
  | cons d r ih =>
    rw [valD] at h
    rw [cutL, ih (by omega)]
    simp; omega

theorem cutL_digs {xs : List Nat} (h : Ten xs) : cutL xs = digs (valD xs) := by
  induction xs with
  | nil => rw [valD, digs_zero]; rfl
  | cons d r ih =>
    have hd := h.head
    have ih := ih h.tail
    rw [cutL, ih, valD]
    by_cases hv : valD r = 0
    · rw [hv, digs_zero]
      by_cases h0 : d = 0
      · subst h0; simp [digs_zero]
      · simp only [h0, if_false]
        rw [digs_pos (by omega)]
        have e1 : (d + 10 * 0) % 10 = d := by omega
        have e2 : (d + 10 * 0) / 10 = 0 := by omega
        rw [e1, e2, digs_zero]
    · have e1 : (d + 10 * valD r) % 10 = d := by omega
      have e2 : (d + 10 * valD r) / 10 = valD r := by omega
      rw [digs_pos (n := d + 10 * valD r) (by omega), e1, e2]
      rw [digs_pos hv]

theorem cutL_snoc_zero (xs : List Nat) : cutL (xs ++ [0]) = cutL xs := by
  induction xs with
  | nil => rfl
  | cons d r ih => rw [List.cons_append, cutL, ih, cutL]

theorem cutL_snoc_pos (xs : List Nat) {d : Nat} (h : d ≠ 0) : cutL (xs ++ [d]) = xs ++ [d] := by
  induction xs with
  | nil => simp [cutL, h]
  | cons c r ih =>
    rw [List.cons_append, cutL, ih]
    cases r <;> rfl

theorem take_succ_getD {xs : List Nat} {k : Nat} (h : k < xs.length) : xs.take (k + 1) = xs.take k ++ [xs[k]?.getD 0] := by
  rw [List.take_succ_eq_append_getElem h]; simp [h]

theorem digs_length_le {n k : Nat} (h : n < 10 ^ k) : (digs n).length ≤ k := by
  induction k generalizing n with
  | zero => have : n = 0 := by simpa using h
            subst this; rw [digs_zero]; simp
  | succ k ih =>
    by_cases h0 : n = 0
    · subst h0; rw [digs_zero]; simp
    · rw [digs_pos h0]
      have : (digs (n / 10)).length ≤ k := ih (by rw [Nat.pow_succ] at h; omega)
      simp; omega

theorem valD_lt {xs : List Nat} (h : Ten xs) : valD xs < 10 ^ xs.length := by
  induction xs with
  | nil => simp [valD]
  | cons d r ih =>
    have := ih h.tail
    have := h.head
    rw [valD, List.length_cons, Nat.pow_succ]; omega

theorem digs_length_gt {n k : Nat} (h : 10 ^ k ≤ n) : k < (digs n).length := by
  have := valD_lt (digs_ten n)
  rw [valD_digs] at this
  exact (Nat.pow_lt_pow_iff_right (by decide : 1 < 10)).1 (Nat.lt_of_le_of_lt h this)

/-- A number with fewer digits is less. -/
theorem lt_of_length {a b : Nat} (h : (digs a).length < (digs b).length) : a < b := by
  rcases Nat.lt_or_ge a b with h' | h'
  · exact h'
  · exfalso
    by_cases hb : b = 0
    · subst hb; simp [digs_zero] at h
    · have h1 : a < 10 ^ (digs a).length := by have := valD_lt (digs_ten a); rwa [valD_digs] at this
      have h2 : b < 10 ^ (digs a).length := Nat.lt_of_le_of_lt h' h1
      have := digs_length_le h2
      omega

theorem valD_take_drop (xs : List Nat) (k : Nat) (h : k ≤ xs.length) : valD xs = valD (xs.take k) + 10 ^ k * valD (xs.drop k) := by
  have := valD_append (xs.take k) (xs.drop k)
  rw [List.take_append_drop] at this
  rw [this]
  congr 2
  simp [Nat.min_eq_left h]

theorem valD_drop_getD (xs : List Nat) (k : Nat) (h : k < xs.length) : valD (xs.drop k) = xs[k]?.getD 0 + 10 * valD (xs.drop (k + 1)) := by
  rw [List.drop_eq_getElem_cons h, valD]
  simp [h]

theorem valD_take_succ (xs : List Nat) (k : Nat) : valD (xs.take (k + 1)) = valD (xs.take k) + 10 ^ k * xs[k]?.getD 0 := by
  by_cases h : k < xs.length
  · rw [take_succ_getD h, valD_append]
    simp [valD, Nat.min_eq_left (Nat.le_of_lt h)]
  · have e1 : xs.take (k + 1) = xs := List.take_of_length_le (by omega)
    have e2 : xs.take k = xs := List.take_of_length_le (by omega)
    rw [e1, e2]
    simp [List.getElem?_eq_none (by omega : xs.length ≤ k)]

theorem getD_of_le {xs : List Nat} {k : Nat} (h : xs.length ≤ k) : xs[k]?.getD 0 = 0 := by
  simp [List.getElem?_eq_none h]

theorem lt_of_digit {a b p dx dy t : Nat} (ha : a < p) (h : dx < dy) : a + p * (dx + 10 * t) < b + p * (dy + 10 * t) := by
  have h1 : p * ((dx + 10 * t) + 1) ≤ p * (dy + 10 * t) := Nat.mul_le_mul_left _ (by omega)
  rw [Nat.mul_add, Nat.mul_one] at h1
  omega
theorem lt_iff_digit {a b p dx dy t : Nat} (ha : a < p) (hb : b < p) (hne : dx ≠ dy) : a + p * (dx + 10 * t) < b + p * (dy + 10 * t) ↔ dx < dy := by
  constructor
  · intro h
    rcases Nat.lt_or_ge dx dy with h' | h'
    · exact h'
    · have := lt_of_digit (b := a) (t := t) hb (show dy < dx by omega); omega
  · exact fun h => lt_of_digit ha h

theorem over_step {a b q r t j r' : Nat} (h : a = b * q + r) (hr : r' + j * b = t + 10 * r) : t + 10 * a = b * (j + 10 * q) + r' := by
  rw [Nat.mul_add, Nat.mul_left_comm b 10 q, h, Nat.mul_comm b j]
  omega
theorem over_end {a b q r : Nat} (h : a = b * q + r) (hr : r < b) : q = a / b ∧ r = a % b := by
  subst h
  constructor
  · rw [Nat.mul_add_div (by omega), Nat.div_eq_of_lt hr, Nat.add_zero]
  · rw [Nat.mul_add_mod, Nat.mod_eq_of_lt hr]
theorem set_mid (i j u : Nat) (zs : List Nat) : (List.replicate i 0 ++ j :: zs).set i u = List.replicate i 0 ++ u :: zs := by
  rw [List.set_append_right _ _ (by simp)]
  simp
theorem mid_getD (i j : Nat) (zs : List Nat) : (List.replicate i 0 ++ j :: zs)[i]?.getD 0 = j := by
  rw [List.getElem?_append_right (by simp)]
  simp
theorem rep_succ (i : Nat) (zs : List Nat) : List.replicate (i + 1) 0 ++ zs = List.replicate i 0 ++ 0 :: zs := by
  rw [List.replicate_succ', List.append_assoc]; rfl
theorem digs_snoc {t r : Nat} (ht : t < 10) : cutL (t :: digs r) = digs (t + 10 * r) := by
  rw [cutL_digs (Ten.cons ht (digs_ten r)), valD, valD_digs]

theorem digs_length_mono {a b : Nat} (h : b ≤ a) : (digs b).length ≤ (digs a).length := by
  rcases Nat.lt_or_ge (digs a).length (digs b).length with h' | h'
  · have := lt_of_length h'; omega
  · exact h'

theorem Nat.pos_pow_of_pos' (k : Nat) : 1 ≤ 10 ^ k := Nat.one_le_pow _ _ (by decide)
theorem valD_drop_le (xs : List Nat) (k : Nat) : valD (xs.drop k) ≤ valD xs := by
  by_cases h : k ≤ xs.length
  · rw [valD_take_drop xs k h]
    have : 1 ≤ 10 ^ k := Nat.pos_pow_of_pos' k
    have := Nat.mul_le_mul_right (valD (xs.drop k)) this
    omega
  · rw [List.drop_of_length_le (by omega)]; simp [valD]

end Go.Proofs.YtlagjnlajkmmeaaGreatDoor.One.Num

namespace Go.Proofs.YtlagjnlajkmmeaaGreatDoor.One
open Go.RowKit
open Num (digs valD cutL Ten)

def nv (d : Nat) : Value := .int .u8 (d : Int)
/-- The slice value v is nil, or heads a row from block B on; it reads as the digits xs. -/
def Own (B : Nat) (w : World) (v : Value) (xs : List Nat) : Prop := w.ownsRow B 5 1 v xs.length (xs.map nv)
/-- The slice value v reads as the digits xs in the world w. -/
abbrev Rd (w : World) (v : Value) (xs : List Nat) : Prop := Own 0 w v xs

theorem ownsRow_base {w : World} {B B' e s n : Nat} {v : Value} {xs : List Value} (h : w.ownsRow B e s v n xs) (hB : B' ≤ B) : w.ownsRow B' e s v n xs := by
  refine ⟨h.1, ?_⟩
  rcases h.2 with h2 | ⟨g, cap, cur, hv, hg, r⟩
  · exact .inl h2
  · exact .inr ⟨g, cap, cur, hv, Nat.le_trans hB hg, r⟩
theorem ownsRow_below {w w' : World} {K B e s n : Nat} {v : Value} {xs : List Value} (h : w.ownsRow B e s v n xs) (hb : Below K w w') (hK : w.heap.size ≤ K) : w'.ownsRow B e s v n xs := by
  refine ⟨h.1, ?_⟩
  rcases h.2 with h2 | ⟨g, cap, cur, hv, hg, hh, r⟩
  · exact .inl h2
  · have hlt := (Array.getElem?_eq_some_iff.1 hh).1
    exact .inr ⟨g, cap, cur, hv, hg, by rw [hb.block g (by omega)]; exact hh, r⟩

theorem Own.base {B B' : Nat} {w : World} {v : Value} {xs : List Nat} (h : Own B w v xs) (hB : B' ≤ B) : Own B' w v xs := ownsRow_base h hB
theorem Own.rd {B : Nat} {w : World} {v : Value} {xs : List Nat} (h : Own B w v xs) : Rd w v xs := ownsRow_base h (Nat.zero_le _)
theorem Own.below {B : Nat} {w w' : World} {v : Value} {xs : List Nat} (h : Own B w v xs) (hb : Below w.heap.size w w') : Own B w' v xs := ownsRow_below h hb (Nat.le_refl _)
theorem Own.alloc {B : Nat} {w : World} {v : Value} {xs : List Nat} (h : Own B w v xs) (o : Obj) : Own B (w.alloc o) v xs := World.ownsRow.alloc h o
theorem Own.drew {B : Nat} {w : World} {v : Value} {xs : List Nat} (h : Own B w v xs) : Own B w.drew v xs := World.ownsRow.drew h
theorem Own.nil (B : Nat) (w : World) : Own B w (.slice none 0 0) [] := World.ownsRow_nil _ _ _ _

theorem Own.cases {B : Nat} {w : World} {v : Value} {xs : List Nat} (h : Own B w v xs) :
    (v = .slice none 0 0 ∧ xs = []) ∨ ∃ g cap, v = .slice (some ⟨g, 0, none⟩) xs.length cap ∧ xs.length ≤ cap ∧ cap ≤ maxLen ∧ g < w.heap.size ∧ ∀ j, j < xs.length → w.cell? ⟨g, j, none⟩ = some (.int .u8 ((xs[j]?.getD 0 : Nat) : Int)) := by
  rcases h.2 with ⟨hv, hn⟩ | ⟨g, cap, cur, hv, _, hh, hnc, hm, hs, ht⟩
  · exact .inl ⟨hv, List.eq_nil_of_length_eq_zero hn⟩
  · refine .inr ⟨g, cap, hv, hnc, hm, (Array.getElem?_eq_some_iff.1 hh).1, fun j hj => ?_⟩
    have hx : (xs.map nv)[j]? = some (nv (xs[j]?.getD 0)) := by simp [hj]
    rw [cell_of_row w g j cur 5 (0, 0) hh]
    rw [← ht, List.getElem?_take] at hx
    split at hx
    · simpa [nv] using hx
    · cases hx

theorem Own.take {B : Nat} {w : World} {g n cap : Nat} {xs : List Nat} (h : Own B w (.slice (some ⟨g, 0, none⟩) n cap) xs) (k : Nat) (hk : k ≤ xs.length) : Own B w (.slice (some ⟨g, 0, none⟩) k cap) (xs.take k) := by
  rcases h.2 with ⟨hv, hn⟩ | ⟨g', cap', cur, hv, hb, hh, hnc, hm, hs, ht⟩
  · simp at hv
  · simp only [Value.slice.injEq, Option.some.injEq, Addr.mk.injEq, and_true] at hv
    obtain ⟨rfl, hn, rfl⟩ := hv
    refine ⟨by simp, .inr ⟨g, cap, cur, by simp [Nat.min_eq_left hk], hb, hh, by simp; omega, hm, hs, ?_⟩⟩
    rw [List.map_take, ← ht, List.take_take]
    congr 1
    simp

/-- The element type's row. -/
theorem info_u8 : (Tryz.prog.info? 5).map (fun i => (i.zero, i.size, i.bytes)) = some (some (.int .u8 0), 1, 1) := by kernel_rfl

theorem cut_some (w : World) (g cap n : Nat) (xs : List Nat) (hn : n = xs.length) (hb : xs.length ≤ 1000)
    (hc : ∀ j, j < n → w.cell? ⟨g, j, none⟩ = some (.int .u8 ((xs[j]?.getD 0 : Nat) : Int))) (hcap : n ≤ cap) :
    Calls Tryz.prog 46 #[.slice (some ⟨g, 0, none⟩) n cap] w fun e w' => ∃ k : Nat, k ≤ n ∧ cutL xs = xs.take k ∧ e = .returned (.slice (some ⟨g, 0, none⟩) k cap) ∧ w = w' := by
  have hNM : n ≤ 1000 := by omega
  have hN := Lib.hid hn; clear hn
  go_enter Tryz.func46, Tryz.ntmps46
  go_wp2
  go_loop [0] (fun v => ∃ k : Nat, k ≤ n ∧ v = .slice (some ⟨g, 0, none⟩) k cap ∧ Hid (cutL xs = cutL (xs.take k))) (fun v => match v with | .slice _ k _ => k | _ => 0)
  case atStart => exact ⟨n, Nat.le_refl _, rfl, by rw [List.take_of_length_le (by rw [hN.out]; exact Nat.le_refl _)]; rfl⟩
  case round =>
    obtain ⟨k, hk, rfl, he⟩ := hrel
    have hcell : 0 < k → w.cell? ⟨g, k - 1, none⟩ = some (.int .u8 ((xs[k-1]?.getD 0 : Nat) : Int)) := fun _ => hc _ (by omega)
    go_wp2
    · have hk0 : 0 < k := by assumption
      have hz : (((xs[k - 1]?.getD 0 : Nat) : Int) == 0) = true := by assumption
      have hz' : xs[k - 1]?.getD 0 = 0 := by simpa using hz
      have hlt : k - 1 < xs.length := by have := hN.out; omega
      have hs := Num.take_succ_getD hlt
      rw [show k - 1 + 1 = k from by omega, hz'] at hs
      go_round
      case rel => exact ⟨k - 1, by omega, rfl, by show cutL xs = _; rw [he.out, hs, Num.cutL_snoc_zero]⟩
      case measure => simp; omega
    · have hk0 : 0 < k := by assumption
      have hz : (((xs[k - 1]?.getD 0 : Nat) : Int) == 0) = false := by assumption
      have hz' : xs[k - 1]?.getD 0 ≠ 0 := by intro h; rw [h] at hz; simp at hz
      have hlt : k - 1 < xs.length := by have := hN.out; omega
      have hs := Num.take_succ_getD hlt
      rw [show k - 1 + 1 = k from by omega] at hs
      go_ret
      exact ⟨k, hk, by rw [he.out, hs, Num.cutL_snoc_pos _ hz'], rfl, rfl⟩
    · have hk0 : k = 0 := by omega
      subst hk0
      go_ret
      exact ⟨0, hk, by rw [he.out]; simp [cutL], rfl, rfl⟩

theorem cut_none (w : World) :
    Calls Tryz.prog 46 #[.slice none 0 0] w fun e w' => e = .returned (.slice none 0 0) ∧ w = w' := by
  go_enter Tryz.func46, Tryz.ntmps46
  go_wp2
  refine wp_loop_rounds 1 ?_; rw [rounds_succ]
  go_wp2
  go_ret
  exact ⟨rfl, rfl⟩

/-- ref.Cut. -/
theorem cut_any (B : Nat) (w : World) (v : Value) (xs : List Nat) (h : Own B w v xs) (hb : xs.length ≤ 1000) :
    Calls Tryz.prog 46 #[v] w fun e w' => ∃ v', e = .returned v' ∧ Own B w v' (cutL xs) ∧ w = w' := by
  rcases h.cases with ⟨rfl, rfl⟩ | ⟨g, cap, rfl, hcap, hm, hg, hc⟩
  · exact (cut_none w).mono fun e w' ⟨he, hw⟩ => ⟨_, he, Own.nil B w, hw⟩
  · exact (cut_some w g cap xs.length xs rfl hb hc hcap).mono fun e w' ⟨k, hk, hq, he, hw⟩ => ⟨_, he, by rw [hq]; exact h.take k hk, hw⟩

/-- One digit more, behind a slice that is the call's own. -/
theorem wp_app1 {ops : Array Oper} {rest : List Oper} {o : Oper} {a : Act} {Q : Exit → Act → World → Prop} {w : World} (hgd : o.guard = none) (s x : Operand)
    (ho : o.op = Op.call { callee := Callee.builtin Builtin.append, args := #[s, x], argTypes := #[62, 62] }) (B : Nat) (v : Value) (xs : List Nat) (hs : a.eval s = v) (hown : Own B w v xs)
    (z : Int) (d : Nat) (hz : z = (d : Int)) (hx : a.eval x = .slice (some ⟨w.heap.size, 0, none⟩) 1 1) (hl : xs.length + 1 ≤ 1000000) (hB : B ≤ w.heap.size)
    (h : ∀ v' w', Own B w' v' (xs ++ [d]) → Below B w w' → w.heap.size < w'.heap.size → wpList Tryz.prog ops Q rest (a.put o.dst v') w') :
    wpList Tryz.prog ops Q (o :: rest) a (w.alloc (.cells #[.int .u8 z] 5)) := by
  obtain ⟨i0, hi, hz0, hz1, hz2⟩ := info_parts info_u8
  subst hz
  refine wpList_append_own _ hgd s x _ ho B 5 i0 (.int .u8 0) 1 1 Tryz.underlying62 hi hz0 hz1 hz2 rfl (by decide) v _ _ hs (World.ownsRow.alloc hown _) ⟨w.heap.size, 0, none⟩ 1 1 [nv d] hx rfl (cell_one_new _ _ _) ?_ ?_ ?_ ?_ ?_
  · intro u hu; simp at hu; subst hu; rfl
  · unfold maxLen; omega
  · omega
  · simp; omega
  · intro v' w' ho' hg' _
    have hbel : Below B w w' := ((Below.refl B w).alloc hB _).grown hg' (by simp; omega) (fun k hk => (World.ownsRow.lt hown k hk).1)
    have hsz := hg'.size
    refine h v' w' ?_ hbel (by simp at hsz; omega)
    unfold Own
    simpa using ho'

theorem rem10 (m : Nat) : (m : Int) % 10 = ((m % 10 : Nat) : Int) := by omega

set_option maxRecDepth 20000 in
set_option maxHeartbeats 400000 in
/-- ref.Of. -/
theorem of_any (n : Nat) (hn : n < 18446744073709551616) (w : World) :
    Calls Tryz.prog 36 #[.int .u64 (n : Int)] w fun e w' => ∃ v', e = .returned v' ∧ Own w.heap.size w' v' (digs n) ∧ Below w.heap.size w w' := by
  have hlen : (digs n).length ≤ 20 := Num.digs_length_le (by omega)
  go_enter Tryz.func36, Tryz.ntmps36
  go_wp2
  go_loopw [0, 3] (fun a v wr => ∃ (m : Nat) (ds : List Nat), m ≤ n ∧ a = .int .u64 (m : Int) ∧ Own w.heap.size wr v ds ∧ Below w.heap.size w wr ∧ Hid (ds ++ digs m = digs n))
    (fun a _ _ => (intOf a).toNat)
  case atStart => exact ⟨n, [], Nat.le_refl _, rfl, World.ownsRow_nil _ _ _ _, Below.refl _ _, rfl⟩
  case round =>
    obtain ⟨m, ds, hm, rfl, hown, hbel, hds⟩ := hrel
    have hsz := hbel.size
    have hm64 : (m : Int) ≤ 18446744073709551615 := by omega
    by_cases hm0 : 0 < m
    · have hd := Num.digs_pos (n := m) (by omega)
      have hl : ds.length + 1 ≤ 20 := by
        have := congrArg List.length hds.out
        rw [hd] at this
        simp at this; omega
      have HD := Lib.hid hd; clear hd
      go_wp2_with (at_builtin; refine wp_app1 rfl _ _ rfl w.heap.size _ ds rfl hown _ (m % 10) (rem10 m) rfl (by omega) (by omega) ?_; intro v' w1 hown1 hbel1 hsz1)
      go_roundw
      case rel => exact ⟨m / 10, ds ++ [m % 10], by omega, by go_num, hown1, hbel.trans hbel1, by show _ = _; rw [← hds.out, HD.out]; simp⟩
      case measure => simp [intOf]; omega
    · obtain rfl : m = 0 := by omega
      go_wp2
      go_ret
      refine ⟨_, rfl, ?_, hbel⟩
      have := hds.out
      rw [Num.digs_zero, List.append_nil] at this
      rw [← this]
      exact hown

theorem digit_some (w : World) (g cap n : Nat) (xs : List Nat) (hn : n = xs.length) (hb : xs.length ≤ 1000) (i d : Nat) (hd : xs[i]?.getD 0 = d) (hi : i ≤ 100000)
    (hc : i < n → w.cell? ⟨g, i, none⟩ = some (.int .u8 (d : Int))) (_hcap : n ≤ cap) :
    Calls Tryz.prog 49 #[.slice (some ⟨g, 0, none⟩) n cap, .int .i64 (i : Int)] w fun e w' => e = .returned (.int .u8 (d : Int)) ∧ w = w' := by
  have HN := Lib.hid hn; clear hn
  have HD := Lib.hid hd; clear hd
  by_cases hin : i < n
  · go_enter Tryz.func49, Tryz.ntmps49
    go_wp2
    go_ret
    exact ⟨rfl, rfl⟩
  · have hd0 : d = 0 := by rw [← HD.out]; exact Num.getD_of_le (by have := HN.out; omega)
    subst hd0
    go_enter Tryz.func49, Tryz.ntmps49
    go_wp2
    go_ret
    exact ⟨rfl, rfl⟩
theorem digit_none (w : World) (i : Nat) :
    Calls Tryz.prog 49 #[.slice none 0 0, .int .i64 (i : Int)] w fun e w' => e = .returned (.int .u8 0) ∧ w = w' := by
  go_enter Tryz.func49, Tryz.ntmps49
  go_wp2
  go_ret
  exact ⟨rfl, rfl⟩
/-- ref.digit. -/
theorem digit_any (w : World) (v : Value) (xs : List Nat) (h : Rd w v xs) (hb : xs.length ≤ 1000) (i d : Nat) (hd : xs[i]?.getD 0 = d) (hi : i ≤ 100000) :
    Calls Tryz.prog 49 #[v, .int .i64 (i : Int)] w fun e w' => e = .returned (.int .u8 (d : Int)) ∧ w = w' := by
  rcases h.cases with ⟨rfl, rfl⟩ | ⟨g, cap, rfl, hcap, hm, hg, hc⟩
  · simp at hd; subst hd; exact digit_none w i
  · exact digit_some w g cap xs.length xs rfl hb i d hd hi (fun hin => by rw [hc i hin, hd]) hcap

end Go.Proofs.YtlagjnlajkmmeaaGreatDoor.One

namespace Go.Proofs.YtlagjnlajkmmeaaGreatDoor.One
open Go.RowKit
open Num (digs valD cutL Ten)

theorem plus_step {k c d dx dy a b s x y : Nat} (h : s + 10 ^ k * c = x + y) (hd : dx + dy + c = d) (ha : d % 10 = a) (hb : d / 10 = b) :
    (s + 10 ^ k * a) + 10 ^ (k + 1) * b = (x + 10 ^ k * dx) + (y + 10 ^ k * dy) := by
  have e : d = a + 10 * b := by omega
  have : 10 ^ k * (dx + dy + c) = 10 ^ k * (a + 10 * b) := by rw [hd, e]
  simp only [Nat.mul_add] at this
  rw [Nat.pow_succ, Nat.mul_assoc]
  omega

set_option maxRecDepth 20000 in
set_option maxHeartbeats 800000 in
/-- ref.Plus. -/
theorem plus_any (w : World) (va vb : Value) (xs ys : List Nat) (ha : Rd w va xs) (hb : Rd w vb ys) (tx : Ten xs) (ty : Ten ys) (hx : xs.length ≤ 400) (hy : ys.length ≤ 400) :
    Calls Tryz.prog 45 #[va, vb] w fun e w' => ∃ v', e = .returned v' ∧ Own w.heap.size w' v' (digs (valD xs + valD ys)) ∧ Below w.heap.size w w' := by
  obtain ⟨lx, hlx⟩ : ∃ lx, lx = xs.length := ⟨_, rfl⟩
  obtain ⟨ly, hly⟩ : ∃ ly, ly = ys.length := ⟨_, rfl⟩
  have hx' : lx ≤ 400 := by omega
  have hy' : ly ≤ 400 := by omega
  have lenA : ∃ pa ca, va = .slice pa lx ca := by
    rcases ha.cases with ⟨rfl, rfl⟩ | ⟨g, cap, rfl, _⟩
    · exact ⟨none, 0, by rw [hlx]; rfl⟩
    · exact ⟨_, _, by rw [hlx]⟩
  have lenB : ∃ pa ca, vb = .slice pa ly ca := by
    rcases hb.cases with ⟨rfl, rfl⟩ | ⟨g, cap, rfl, _⟩
    · exact ⟨none, 0, by rw [hly]; rfl⟩
    · exact ⟨_, _, by rw [hly]⟩
  obtain ⟨pa, ca, rfl⟩ := lenA
  obtain ⟨pb, cb, rfl⟩ := lenB
  have HLX := Lib.hid hlx; clear hlx
  have HLY := Lib.hid hly; clear hly
  go_enter Tryz.func45, Tryz.ntmps45
  go_wp2
  go_loopw [5, 6, 7] (fun v cv iv wr => ∃ (k c : Nat) (ds : List Nat), cv = .int .u8 (c : Int) ∧ iv = .int .i64 (k : Int) ∧ c ≤ 1 ∧ k ≤ max lx ly + 1 ∧ (max lx ly < k → c = 0) ∧ Hid (ds.length = k) ∧ Ten ds ∧ Own w.heap.size wr v ds ∧ Below w.heap.size w wr
      ∧ Hid (valD ds + 10 ^ k * c = valD (xs.take k) + valD (ys.take k)))
    (fun _ _ i _ => max lx ly + 1 - (intOf i).toNat)
  case atStart => exact ⟨0, 0, [], rfl, rfl, by omega, by omega, by omega, rfl, Ten.nil, Own.nil _ _, Below.refl _ _, by simp [Hid, valD]⟩
  case round =>
    obtain ⟨k, c, ds, rfl, rfl, hc, hk, hkc, hdl, hds, hown, hbel, heq⟩ := hrel
    have hsz := hbel.size
    have hdl' : ds.length ≤ 401 := by have := hdl.out; omega
    obtain ⟨dx, hdx⟩ : ∃ d, xs[k]?.getD 0 = d := ⟨_, rfl⟩
    obtain ⟨dy, hdy⟩ : ∃ d, ys[k]?.getD 0 = d := ⟨_, rfl⟩
    have hdx9 : dx < 10 := by rw [← hdx]; exact tx.getD k
    have hdy9 : dy < 10 := by rw [← hdy]; exact ty.getD k
    have HX := Lib.hid hdx; clear hdx
    have HY := Lib.hid hdy; clear hdy
    have haw : Rd wr _ xs := ha.below hbel
    have hbw : Rd wr _ ys := hb.below hbel
    by_cases hgo : k < lx ∨ k < ly ∨ 0 < c
    · have hkm : k ≤ max lx ly := by rcases Nat.lt_or_ge (max lx ly) k with h | h
                                     · have := hkc h; omega
                                     · exact h
      obtain ⟨d, hd⟩ : ∃ d, dx + dy + c = d := ⟨_, rfl⟩
      obtain ⟨da, hda⟩ : ∃ a, d % 10 = a := ⟨_, rfl⟩
      have stp := plus_step heq.out hd hda rfl
      have hend : max lx ly < k + 1 → d / 10 = 0 := by
        intro h
        have h1 : dx = 0 := by rw [← HX.out]; exact Num.getD_of_le (by rw [← HLX.out]; omega)
        have h2 : dy = 0 := by rw [← HY.out]; exact Num.getD_of_le (by rw [← HLY.out]; omega)
        omega
      have hd10 : d < 20 := by omega
      have hda9 : da < 10 := by omega
      have HE := Lib.hid hend; clear hend
      have HS := Lib.hid stp; clear stp
      have HKC := Lib.hid hkc; clear hkc
      have HD := Lib.hid hd; clear hd
      have HDA := Lib.hid hda; clear hda
      rcases (show k < lx ∨ (lx ≤ k ∧ k < ly) ∨ (lx ≤ k ∧ ly ≤ k ∧ 0 < c) from by omega) with h1 | ⟨h1, h2⟩ | ⟨h1, h2, h3⟩
      all_goals
        clear hgo
        go_wp2_with (first
          | (go_at_call_of 49 (Value.slice pa lx ca); refine (digit_any _ _ xs haw (by omega) k dx HX.out (by omega)).mono ?_; rintro e w' ⟨rfl, rfl⟩)
          | (go_at_call_of 49 (Value.slice pb ly cb); refine (digit_any _ _ ys hbw (by omega) k dy HY.out (by omega)).mono ?_; rintro e w' ⟨rfl, rfl⟩)
          | (at_builtin; go_must (refine wp_app1 rfl _ _ rfl w.heap.size _ ds rfl hown _ da (by have := HD.out; have := HDA.out; omega) rfl (by omega) (by omega) ?_); intro v' w1 hown1 hbel1 hsz1))
        go_roundw
        case rel => exact ⟨k + 1, d / 10, ds ++ [da], by have := HD.out; go_num, by go_num, by omega, by omega, HE.out, by show _ = _; have := hdl.out; simp [this], hds.append (Ten.cons hda9 Ten.nil), hown1, hbel.trans hbel1,
          by show _ = _; rw [Num.valD_append, hdl.out, Num.valD_take_succ, Num.valD_take_succ, HX.out, HY.out, ← HS.out]; simp [valD]⟩
        case measure => simp [intOf]; omega
    · have hc0 : c = 0 := by omega
      subst hc0
      have h1 : xs.take k = xs := List.take_of_length_le (by have := HLX.out; omega)
      have h2 : ys.take k = ys := List.take_of_length_le (by have := HLY.out; omega)
      have h3 := heq.out
      rw [h1, h2, Nat.mul_zero, Nat.add_zero] at h3
      have H3 := Lib.hid h3; clear h3 h1 h2
      have h1 : lx ≤ k := by omega
      have h2 : ly ≤ k := by omega
      clear hgo hkc
      go_wp2_with (go_at_call 46; refine (cut_any w.heap.size _ _ ds hown (by omega)).mono ?_; rintro e w' ⟨v', rfl, hv', rfl⟩)
      go_ret
      exact ⟨_, rfl, by rw [← H3.out, ← Num.cutL_digs hds]; exact hv', hbel⟩
end Go.Proofs.YtlagjnlajkmmeaaGreatDoor.One

namespace Go.Proofs.YtlagjnlajkmmeaaGreatDoor.One
open Go.RowKit
open Num (digs valD cutL Ten)

theorem Own.lens {B : Nat} {w : World} {v : Value} {xs : List Nat} (h : Own B w v xs) {n : Nat} (hn : n = xs.length) : ∃ p c, v = .slice p n c := by
  subst hn
  rcases h.cases with ⟨rfl, rfl⟩ | ⟨g, cap, rfl, _⟩
  · exact ⟨none, 0, rfl⟩
  · exact ⟨_, _, rfl⟩

theorem minus_step {k c dx dy a q s x y : Nat} (h : x + 10 ^ k * c = s + y) (hd : dx + 10 * (1 - q) = a + dy + c) :
    (x + 10 ^ k * dx) + 10 ^ (k + 1) * (1 - q) = (s + 10 ^ k * a) + (y + 10 ^ k * dy) := by
  have : 10 ^ k * (dx + 10 * (1 - q)) = 10 ^ k * (a + dy + c) := by rw [hd]
  simp only [Nat.mul_add] at this
  rw [Nat.pow_succ, Nat.mul_assoc]
  omega

set_option maxRecDepth 20000 in
set_option maxHeartbeats 800000 in
/-- ref.Minus. -/
theorem minus_any (w : World) (va vb : Value) (xs ys : List Nat) (ha : Rd w va xs) (hb : Rd w vb ys) (tx : Ten xs) (ty : Ten ys) (hx : xs.length ≤ 400) (hy : ys.length ≤ xs.length) (hle : valD ys ≤ valD xs) :
    Calls Tryz.prog 48 #[va, vb] w fun e w' => ∃ v', e = .returned v' ∧ Own w.heap.size w' v' (digs (valD xs - valD ys)) ∧ Below w.heap.size w w' := by
  obtain ⟨lx, hlx⟩ : ∃ lx, lx = xs.length := ⟨_, rfl⟩
  obtain ⟨ly, hly⟩ : ∃ ly, ly = ys.length := ⟨_, rfl⟩
  have hx' : lx ≤ 400 := by omega
  obtain ⟨pa, ca, rfl⟩ := ha.lens hlx
  obtain ⟨pb, cb, rfl⟩ := hb.lens hly
  have HLX := Lib.hid hlx; clear hlx
  have HLY := Lib.hid hly; clear hly
  go_enter Tryz.func48, Tryz.ntmps48
  go_wp2
  go_loopw [5, 6, 7] (fun v cv iv wr => ∃ (k c : Nat) (ds : List Nat), cv = .int .u8 (c : Int) ∧ iv = .int .i64 (k : Int) ∧ c ≤ 1 ∧ k ≤ lx ∧ Hid (ds.length = k) ∧ Ten ds ∧ Own w.heap.size wr v ds ∧ Below w.heap.size w wr
      ∧ Hid (valD (xs.take k) + 10 ^ k * c = valD ds + valD (ys.take k)))
    (fun _ _ i _ => lx - (intOf i).toNat)
  case atStart => exact ⟨0, 0, [], rfl, rfl, by omega, by omega, rfl, Ten.nil, Own.nil _ _, Below.refl _ _, by simp [Hid, valD]⟩
  case round =>
    obtain ⟨k, c, ds, rfl, rfl, hc, hk, hdl, hds, hown, hbel, heq⟩ := hrel
    have hsz := hbel.size
    have hdl' : ds.length ≤ 401 := by have := hdl.out; omega
    obtain ⟨dx, hdx⟩ : ∃ d, xs[k]?.getD 0 = d := ⟨_, rfl⟩
    obtain ⟨dy, hdy⟩ : ∃ d, ys[k]?.getD 0 = d := ⟨_, rfl⟩
    have hdx9 : dx < 10 := by rw [← hdx]; exact tx.getD k
    have hdy9 : dy < 10 := by rw [← hdy]; exact ty.getD k
    have HX := Lib.hid hdx; clear hdx
    have HY := Lib.hid hdy; clear hdy
    have haw : Rd wr _ xs := ha.below hbel
    have hbw : Rd wr _ ys := hb.below hbel
    by_cases hgo : k < lx
    · obtain ⟨s, hs⟩ : ∃ s, 10 + dx - dy - c = s := ⟨_, rfl⟩
      obtain ⟨da, hda⟩ : ∃ a, s % 10 = a := ⟨_, rfl⟩
      have stp := minus_step (q := s / 10) (dx := dx) (dy := dy) (a := da) heq.out (by omega)
      have hs20 : s < 20 := by omega
      have hda9 : da < 10 := by omega
      have HS := Lib.hid stp; clear stp
      have HD := Lib.hid hs; clear hs
      have HDA := Lib.hid hda; clear hda
      go_wp2_with (first
          | (go_at_call_of 49 (Value.slice pa lx ca); refine (digit_any _ _ xs haw (by omega) k dx HX.out (by omega)).mono ?_; rintro e w' ⟨rfl, rfl⟩)
          | (go_at_call_of 49 (Value.slice pb ly cb); refine (digit_any _ _ ys hbw (by omega) k dy HY.out (by omega)).mono ?_; rintro e w' ⟨rfl, rfl⟩)
          | (at_builtin; go_must (refine wp_app1 rfl _ _ rfl w.heap.size _ ds rfl hown _ da (by have := HD.out; have := HDA.out; omega) rfl (by omega) (by omega) ?_); intro v' w1 hown1 hbel1 hsz1))
      go_roundw
      case rel => exact ⟨k + 1, 1 - s / 10, ds ++ [da], by have := HD.out; go_num, by go_num, by omega, by omega, by show _ = _; have := hdl.out; simp [this], hds.append (Ten.cons hda9 Ten.nil), hown1, hbel.trans hbel1,
          by show _ = _; rw [Num.valD_append, hdl.out, Num.valD_take_succ, Num.valD_take_succ, HX.out, HY.out, HS.out]; simp [valD]⟩
      case measure => simp [intOf] <;> omega
    · obtain rfl : k = lx := by omega
      have h1 : xs.take k = xs := List.take_of_length_le (by have := HLX.out; omega)
      have h2 : ys.take k = ys := List.take_of_length_le (by have := HLX.out; omega)
      have h3 := heq.out
      rw [h1, h2] at h3
      have h4 := Num.valD_lt hds
      rw [hdl.out] at h4
      have hc0 : c = 0 := by
        rcases (show c = 0 ∨ c = 1 from by omega) with h | h
        · exact h
        · subst h; omega
      subst hc0
      have h5 : valD ds = valD xs - valD ys := by omega
      have H3 := Lib.hid h5; clear h3 h4 h5 h1 h2
      go_wp2_with (go_at_call 46; refine (cut_any w.heap.size _ _ ds hown (by omega)).mono ?_; rintro e w' ⟨v', rfl, hv', rfl⟩)
      go_ret
      exact ⟨_, rfl, by rw [← H3.out, ← Num.cutL_digs hds]; exact hv', hbel⟩

theorem ret_bool {a b : Bool} (h : a = b) : Ending.returned (.bool a) = .returned (.bool b) := by rw [h]

set_option maxRecDepth 20000 in
set_option maxHeartbeats 800000 in
theorem less_same (w : World) (ga gb ca cb n : Nat) (xs ys : List Nat) (hn : n = xs.length) (hn' : n = ys.length) (hx : xs.length ≤ 400) (tx : Ten xs) (ty : Ten ys)
    (ha : ∀ j, j < n → w.cell? ⟨ga, j, none⟩ = some (.int .u8 ((xs[j]?.getD 0 : Nat) : Int))) (hb : ∀ j, j < n → w.cell? ⟨gb, j, none⟩ = some (.int .u8 ((ys[j]?.getD 0 : Nat) : Int)))
    (hga : ga < w.heap.size) (hgb : gb < w.heap.size) (hca : n ≤ ca) (hcb : n ≤ cb) :
    Calls Tryz.prog 47 #[.slice (some ⟨ga, 0, none⟩) n ca, .slice (some ⟨gb, 0, none⟩) n cb] w fun e w' => e = .returned (.bool (decide (valD xs < valD ys))) ∧ Below w.heap.size w w' := by
  have hx' : n ≤ 400 := by omega
  have HN := Lib.hid hn; clear hn
  have HN' := Lib.hid hn'; clear hn'
  go_enter Tryz.func47, Tryz.ntmps47
  go_wp2
  go_loopw [5] (fun iv wr => ∃ k : Nat, k ≤ n ∧ iv = .int .i64 ((k : Int) - 1) ∧ Below w.heap.size w wr ∧ Hid (valD (xs.drop k) = valD (ys.drop k)))
    (fun i _ => (intOf i + 1).toNat)
  case atStart => exact ⟨n, Nat.le_refl _, by go_num, Below.refl _ _, by show _ = _; rw [List.drop_of_length_le (by have := HN.out; omega), List.drop_of_length_le (by have := HN'.out; omega)]⟩
  case round =>
    obtain ⟨k, hk, rfl, hbel, he⟩ := hrel
    cases k with
    | zero =>
      go_wp2
      go_ret
      have := he.out
      simp only [List.drop_zero] at this
      exact ⟨by rw [this]; simp, hbel⟩
    | succ k =>
      have e1 : (((k + 1 : Nat) : Int) - 1) = (k : Int) := by omega
      rw [e1]
      clear e1
      obtain ⟨dx, hdx⟩ : ∃ d, xs[k]?.getD 0 = d := ⟨_, rfl⟩
      obtain ⟨dy, hdy⟩ : ∃ d, ys[k]?.getD 0 = d := ⟨_, rfl⟩
      have cx : wr.cell? ⟨ga, k, none⟩ = some (.int .u8 (dx : Int)) := by rw [hbel.cell (p := ⟨ga, k, none⟩) hga, ha k (by omega), hdx]
      have cy : wr.cell? ⟨gb, k, none⟩ = some (.int .u8 (dy : Int)) := by rw [hbel.cell (p := ⟨gb, k, none⟩) hgb, hb k (by omega), hdy]
      have hxx := Num.valD_drop_getD xs k (by have := HN.out; omega)
      have hyy := Num.valD_drop_getD ys k (by have := HN'.out; omega)
      rw [hdx] at hxx
      rw [hdy] at hyy
      have HX := Lib.hid hxx; clear hxx hdx
      have HY := Lib.hid hyy; clear hyy hdy
      have hk' : (k : Int) < (n : Int) := by omega
      by_cases hne : dx = dy
      · subst hne
        go_wp2
        go_quiet (fail)
        go_wp2
        go_roundw
        case rel => exact ⟨k, by omega, rfl, below_drewN hbel _, (HX.out.trans (by rw [he.out])).trans HY.out.symm⟩
        case measure => simp [intOf] <;> omega
      · have hb1 : ((dx : Int) != (dy : Int)) = true := by rw [bne_iff_ne]; omega
        have hb2 : ((dx : Int) == (dy : Int)) = false := by rw [beq_eq_false_iff_ne]; omega
        go_wp2
        go_quiet (fail)
        go_wp2
        go_quiet (fail)
        go_wp2
        go_ret
        refine ⟨ret_bool ?_, below_drewN (below_drewN hbel _) _⟩
        have t1 := Num.valD_lt (tx.take k)
        have t2 := Num.valD_lt (ty.take k)
        rw [List.length_take, Nat.min_eq_left (by have := HN.out; omega)] at t1
        rw [List.length_take, Nat.min_eq_left (by have := HN'.out; omega)] at t2
        have h1 := Num.valD_take_drop xs k (by have := HN.out; omega)
        have h2 := Num.valD_take_drop ys k (by have := HN'.out; omega)
        rw [HX.out, he.out] at h1
        rw [HY.out] at h2
        have := Num.lt_iff_digit (t := valD (ys.drop (k + 1))) t1 t2 hne
        rw [h1, h2, Bool.eq_iff_iff]
        simp [this]

set_option maxRecDepth 20000 in
/-- ref.Less. -/
theorem less_any (w : World) (va vb : Value) (a b : Nat) (ha : Rd w va (digs a)) (hb : Rd w vb (digs b)) (la : (digs a).length ≤ 400) (lb : (digs b).length ≤ 400) (r : Bool) (hr : decide (a < b) = r) :
    Calls Tryz.prog 47 #[va, vb] w fun e w' => e = .returned (.bool r) ∧ Below w.heap.size w w' := by
  subst hr
  by_cases hl : (digs a).length = (digs b).length
  · by_cases h0 : (digs a).length = 0
    · have hxa := List.eq_nil_of_length_eq_zero h0
      have hxb := List.eq_nil_of_length_eq_zero (hl ▸ h0)
      have hab : a = b := by rw [← Num.valD_digs a, ← Num.valD_digs b, hxa, hxb]
      subst hab
      obtain ⟨pa, ca, rfl⟩ := ha.lens h0.symm
      obtain ⟨pb, cb, rfl⟩ := hb.lens h0.symm
      clear hxa hxb h0 hl
      go_enter Tryz.func47, Tryz.ntmps47
      go_wp2
      refine wp_loop_rounds 1 ?_; rw [rounds_succ]
      go_wp2
      go_ret
      exact ⟨ret_bool (by simp), Below.refl _ _⟩
    · rcases ha.cases with ⟨rfl, hxa⟩ | ⟨g, cap, rfl, hcap, hm, hg, hc⟩
      · rw [hxa] at h0; exact absurd rfl h0
      · rcases hb.cases with ⟨rfl, hxb⟩ | ⟨g', cap', rfl, hcap', hm', hg', hc'⟩
        · rw [hl, hxb] at h0; exact absurd rfl h0
        · have := less_same w g g' cap cap' (digs a).length (digs a) (digs b) rfl hl la (Num.digs_ten a) (Num.digs_ten b) hc (by rw [hl]; exact hc') hg hg' hcap (by rw [hl]; exact hcap')
          rw [Num.valD_digs, Num.valD_digs] at this
          rw [← hl]
          exact this
  · obtain ⟨lx, hlx⟩ : ∃ lx, lx = (digs a).length := ⟨_, rfl⟩
    obtain ⟨ly, hly⟩ : ∃ ly, ly = (digs b).length := ⟨_, rfl⟩
    obtain ⟨pa, ca, rfl⟩ := ha.lens hlx
    obtain ⟨pb, cb, rfl⟩ := hb.lens hly
    have hd : decide (a < b) = decide (lx < ly) := by
      rcases Nat.lt_or_ge lx ly with h | h
      · have := Num.lt_of_length (a := a) (b := b) (by omega); simp [h, this]
      · have := Num.lt_of_length (a := b) (b := a) (by omega)
        rw [decide_eq_false (by omega), decide_eq_false (by omega)]
    have hne : lx ≠ ly := by omega
    rw [hd]
    have hb1 : ((lx : Int) != (ly : Int)) = true := by rw [bne_iff_ne]; omega
    have hb2 : ((lx : Int) == (ly : Int)) = false := by rw [beq_eq_false_iff_ne]; omega
    clear hd hlx hly hl
    go_enter Tryz.func47, Tryz.ntmps47
    go_wp2
    go_ret
    exact ⟨by simp, Below.refl _ _⟩
end Go.Proofs.YtlagjnlajkmmeaaGreatDoor.One

namespace Go.Proofs.YtlagjnlajkmmeaaGreatDoor.One
open Go.RowKit
open Num (digs valD cutL Ten)

/-- Digits, behind a slice that is the call's own. -/
theorem wp_appN {ops : Array Oper} {rest : List Oper} {o : Oper} {a : Act} {Q : Exit → Act → World → Prop} {w : World} (hgd : o.guard = none) (s x : Operand)
    (ho : o.op = Op.call { callee := Callee.builtin Builtin.append, args := #[s, x], argTypes := #[62, 62] }) (B : Nat) (v : Value) (xs : List Nat) (hs : a.eval s = v) (hown : Own B w v xs)
    (vb : Value) (ys : List Nat) (hx : a.eval x = vb) (hb : Rd w vb ys) (hl : xs.length + ys.length ≤ 1000000) (hB : B ≤ w.heap.size)
    (h : ∀ v' w', Own B w' v' (xs ++ ys) → Below B w w' → w.heap.size ≤ w'.heap.size → wpList Tryz.prog ops Q rest (a.put o.dst v') w') :
    wpList Tryz.prog ops Q (o :: rest) a w := by
  obtain ⟨i0, hi, hz0, hz1, hz2⟩ := info_parts info_u8
  rcases hb.cases with ⟨rfl, rfl⟩ | ⟨g, cap, rfl, hcap, hm, hg, hc⟩
  · refine wpList_append_own_none hgd s x _ ho B 5 i0 1 Tryz.underlying62 hi v _ _ hs hown hx ?_
    exact h v w (by simpa using hown) (Below.refl _ _) (Nat.le_refl _)
  · refine wpList_append_own _ hgd s x _ ho B 5 i0 (.int .u8 0) 1 1 Tryz.underlying62 hi hz0 hz1 hz2 rfl (by decide) v _ _ hs hown ⟨g, 0, none⟩ ys.length cap (ys.map nv) hx (by simp) ?_ ?_ ?_ ?_ ?_ ?_
    · intro j u hj
      have hlt : j < ys.length := by
        have := (List.getElem?_eq_some_iff.1 hj).1
        simpa using this
      rw [Addr.add_lit, Nat.zero_add, hc j hlt]
      simpa [hlt, nv] using hj
    · intro u hu; obtain ⟨_, _, rfl⟩ := List.mem_map.1 hu; rfl
    · unfold maxLen; omega
    · omega
    · exact hB
    · intro v' w' ho' hg' _
      have hbel : Below B w w' := (Below.refl B w).grown hg' hB (fun k hk => (World.ownsRow.lt hown k hk).1)
      refine h v' w' ?_ hbel hg'.size
      unfold Own
      simpa using ho'

/-- make(Nat, n). -/
theorem wp_makeN {ops : Array Oper} {rest : List Oper} {o : Oper} {a : Act} {Q : Exit → Act → World → Prop} {w : World} (hgd : o.guard = none) (l c : Operand) (hop : o.op = Op.makeSlice 62 l c)
    (n : Nat) (z : Int) (hz : z = (n : Int)) (hl : a.eval l = .int .i64 z) (hc : a.eval c = .int .i64 z) (hn : n ≤ 1000000)
    (h : ∀ w', Own w.heap.size w' (.slice (some ⟨w.heap.size, 0, none⟩) n n) (List.replicate n 0) → Below w.heap.size w w' → w.heap.size < w'.heap.size → wpList Tryz.prog ops Q rest (a.put o.dst (.slice (some ⟨w.heap.size, 0, none⟩) n n)) w') :
    wpList Tryz.prog ops Q (o :: rest) a w := by
  obtain ⟨i0, hi, hz0, hz1, hz2⟩ := info_parts info_u8
  refine wpList_make_full w hgd l c _ hop w.heap.size 5 i0 (.int .u8 0) 1 Tryz.underlying62 hi hz0 hz1 .i64 .i64 z z n hl hc hz hz (by rw [hz2]; omega) (by unfold maxLen; omega) (Nat.le_refl _) ?_
  intro w' ho' hg'
  have hbel : Below w.heap.size w w' := (Below.refl _ w).grown hg' (Nat.le_refl _) (by simp)
  have e : (madeCells (Value.int .u8 0).cells (n * 1)).toList = (List.replicate n 0).map nv := by
    show (madeCells #[Value.int .u8 0] (n * 1)).toList = _
    rw [toList_madeCells_one]; simp [nv]
  rw [e] at ho'
  have ho2 : Own w.heap.size w' (.slice (some ⟨w.heap.size, 0, none⟩) n n) (List.replicate n 0) := by unfold Own; simpa using ho'
  refine h w' ho2 hbel ?_
  rcases ho2.cases with ⟨h, _⟩ | ⟨g, cap, h, _, _, hg, _⟩
  · simp at h
  · simp at h; omega

theorem times_step {a s p d : Nat} : a * (s + p * d) + (p * a) = a * (s + p * (d + 1)) := by
  rw [Nat.mul_add p, Nat.mul_one, ← Nat.add_assoc, Nat.mul_add a (s + p * d) p, Nat.mul_comm p a]

end Go.Proofs.YtlagjnlajkmmeaaGreatDoor.One

namespace Go.Proofs.YtlagjnlajkmmeaaGreatDoor.One
open Go.RowKit
open Num (digs valD cutL Ten)

/-- A literal of one digit. -/
theorem own_lit1 (w : World) (t : Nat) : Own w.heap.size (w.alloc (.cells #[.int .u8 (t : Int)] 5)) (.slice (some ⟨w.heap.size, 0, none⟩) 1 1) [t] := by
  refine ⟨by simp, .inr ⟨w.heap.size, 1, #[.int .u8 (t : Int)], rfl, Nat.le_refl _, heap_alloc_new w _, by simp, by decide, by simp, by simp [nv]⟩⟩

/-- The cell of a row of digits, and its store. -/
theorem Own.cellAt {B g n cap : Nat} {w : World} {xs : List Nat} (h : Own B w (.slice (some ⟨g, 0, none⟩) n cap) xs) (j : Nat) (hj : j < xs.length) : w.cell? ⟨g, j, none⟩ = some (.int .u8 ((xs[j]?.getD 0 : Nat) : Int)) := by
  rcases h.cases with ⟨h, _⟩ | ⟨g', cap', h, _, _, _, hc⟩
  · simp at h
  · simp at h; rw [h.1]; exact hc j hj
theorem Own.lenEq {B g n cap : Nat} {w : World} {xs : List Nat} (h : Own B w (.slice (some ⟨g, 0, none⟩) n cap) xs) : n = xs.length := by
  rcases h.cases with ⟨h, _⟩ | ⟨g', cap', h, _⟩
  · simp at h
  · simp at h; exact h.2.1
theorem Own.frozenAt {B g n cap : Nat} {w : World} {xs : List Nat} (h : Own B w (.slice (some ⟨g, 0, none⟩) n cap) xs) (j : Nat) : w.frozen? ⟨g, j, none⟩ = false := by
  have hn := h.lenEq; subst hn
  exact World.ownsRow.frozenAt h j
theorem Own.stored {B g n cap : Nat} {w : World} {xs : List Nat} (h : Own B w (.slice (some ⟨g, 0, none⟩) n cap) xs) (j u : Nat) : Own B (w.setCell ⟨g, j, none⟩ (.int .u8 (u : Int))) (.slice (some ⟨g, 0, none⟩) n cap) (xs.set j u) := by
  have hn := h.lenEq; subst hn
  have := (World.ownsRow.stored h j (.int .u8 (u : Int))).1
  unfold Own
  simpa [List.map_set, nv] using this
theorem Own.setBelow {B : Nat} {w : World} {v : Value} {xs : List Nat} (h : Own B w v xs) {a : Addr} (ha : a.block < B) (u : Value) : Own B (w.setCell a u) v xs := ownsRow_setCell_below h ha u

theorem cellB {w w' : World} {p : Addr} {v : Value} (h : w.cell? p = some v) (hb : Below w.heap.size w w') : w'.cell? p = some v := by
  rw [hb.cell (World.block_lt_of_cell? w p h)]; exact h
theorem frozB {w w' : World} {p : Addr} {v : Value} {f : Bool} (h : w.cell? p = some v) (hf : w.frozen? p = f) (hb : Below w.heap.size w w') : w'.frozen? p = f := by
  rw [hb.frozen (World.block_lt_of_cell? w p h)]; exact hf

set_option maxRecDepth 20000 in
set_option maxHeartbeats 1000000 in
/-- ref.Over. -/
theorem over_any (w : World) (va vb : Value) (a b : Nat) (ha : Rd w va (digs a)) (hb : Rd w vb (digs b)) (la : (digs a).length ≤ 90) (lb : (digs b).length ≤ 40) (hb0 : 0 < b) :
    Calls Tryz.prog 35 #[va, vb] w fun e w' => ∃ v1 v2, e = .returned (.tuple #[v1, v2]) ∧ Own w.heap.size w' v1 (digs (a / b)) ∧ Own w.heap.size w' v2 (digs (a % b)) ∧ Below w.heap.size w w' := by
  obtain ⟨xs, hxs⟩ : ∃ xs, xs = digs a := ⟨_, rfl⟩
  have tx : Ten xs := hxs ▸ Num.digs_ten a
  have hva : valD xs = a := by rw [hxs, Num.valD_digs]
  rw [← hxs] at ha la
  obtain ⟨lx, hlx⟩ : ∃ lx, lx = xs.length := ⟨_, rfl⟩
  have hx' : lx ≤ 90 := by omega
  obtain ⟨pa, ca, rfl⟩ := ha.lens hlx
  have hcells : ∀ j, j < lx → ∃ g, pa = some ⟨g, 0, none⟩ ∧ g < w.heap.size ∧ w.cell? ⟨g, j, none⟩ = some (.int .u8 ((xs[j]?.getD 0 : Nat) : Int)) := by
    intro j hj
    rcases ha.cases with ⟨h, h'⟩ | ⟨g, cap, h, hcap, hm, hg, hc⟩
    · rw [h'] at hlx; simp at hlx; omega
    · simp at h; exact ⟨g, h.1, hg, hc j (by omega)⟩
  -- what is left is always short
  have hshort : ∀ r, r < 10 * b → (digs r).length ≤ 41 := by
    intro r hr
    have h2 : b < 10 ^ 40 := by have := Num.valD_lt (Num.digs_ten b); rw [Num.valD_digs] at this; exact Nat.lt_of_lt_of_le this (Nat.pow_le_pow_right (by decide) lb)
    refine Num.digs_length_le ?_
    rw [Nat.pow_succ]; omega
  have HV := Lib.hid hva; clear hva hxs
  have HLX := Lib.hid hlx; clear hlx
  have HS := Lib.hid hshort; clear hshort
  have HC := Lib.hid hcells; clear hcells
  go_enter Tryz.func35, Tryz.ntmps35
  go_wp2_with (at_make; go_must (refine wp_makeN rfl _ _ rfl lx _ rfl rfl rfl (by omega) ?_); intro w1 hown1 hbel1 hsz1)
  go_loopw [7, 8] (fun v iv wr => ∃ (k r : Nat) (zs : List Nat), iv = .int .i64 ((k : Int) - 1) ∧ k ≤ lx ∧ r < b ∧ Own (w.heap.size + 1) wr v (digs r) ∧ Own w.heap.size wr (.slice (some ⟨w.heap.size, 0, none⟩) lx lx) (List.replicate k 0 ++ zs) ∧ w.heap.size < wr.heap.size
      ∧ Ten zs ∧ Below w.heap.size w wr ∧ Hid (valD (xs.drop k) = b * valD zs + r))
    (fun _ i _ => (intOf i + 1).toNat)
  case atStart => exact ⟨lx, 0, [], by go_num, by omega, hb0, by rw [Num.digs_zero]; exact Own.nil _ _, by simpa using hown1, by omega, Ten.nil, hbel1, by show _ = _; rw [List.drop_of_length_le (by rw [← HLX.out]; exact Nat.le_refl _)]; simp [valD]⟩
  case round =>
    obtain ⟨k, r, zs, rfl, hk, hr, hrest, hout, hsz, tz, hbel, heq⟩ := hrel
    cases k with
    | zero =>
      have h0 := heq.out
      rw [List.drop_zero, HV.out] at h0
      have h1 := Num.over_end h0 hr
      rw [List.replicate_zero, List.nil_append] at hout
      have hzl : zs.length ≤ 90 := by have := hout.lenEq; omega
      have H1 := Lib.hid h1; clear h1 h0
      go_wp2_with (go_at_call 46; go_must (refine (cut_any w.heap.size _ _ zs hout (by omega)).mono ?_); rintro e w' ⟨v', rfl, hv', rfl⟩)
      go_ret2
      exact ⟨_, _, rfl, by rw [← H1.out.1, ← Num.cutL_digs tz]; exact hv', by rw [← H1.out.2]; exact hrest.base (by omega), hbel⟩
    | succ i =>
      have e1 : (((i + 1 : Nat) : Int) - 1) = (i : Int) := by omega
      rw [e1]
      clear e1
      obtain ⟨t, ht⟩ : ∃ d, xs[i]?.getD 0 = d := ⟨_, rfl⟩
      have ht9 : t < 10 := by rw [← ht]; exact tx.getD i
      obtain ⟨g, hpa, hgw, hcell⟩ := HC.out i (by omega)
      subst hpa
      have hxx := Num.valD_drop_getD xs i (by rw [← HLX.out]; omega)
      rw [ht] at hxx hcell
      have hcell1 : wr.cell? ⟨g, i, none⟩ = some (.int .u8 (t : Int)) := by rw [hbel.cell (p := ⟨g, i, none⟩) hgw]; exact hcell
      have HX := Lib.hid hxx; clear hxx ht
      have hrl := HS.out r (by omega)
      have hsnoc := Num.digs_snoc (r := r) ht9
      obtain ⟨R, hR⟩ : ∃ R, t + 10 * r = R := ⟨_, rfl⟩
      have hR10 : R < 10 * b := by omega
      rw [hR] at hsnoc
      have HSN := Lib.hid hsnoc; clear hsnoc
      have HR := Lib.hid hR; clear hR
      have hik : (i : Int) < (lx : Int) := by omega
      obtain ⟨wo, hwo⟩ : ∃ wo : World, wo = wr := ⟨_, rfl⟩
      subst hwo
      go_wp2_with (first
        | (at_builtin; go_must (refine wp_appN rfl _ _ rfl _ _ _ rfl (own_lit1 _ t) _ _ rfl (hrest.alloc _).rd (by simp; omega) (by simp) ?_); intro v3 w3 hown3 hbel3 hsz3)
        | (go_at_call 46; go_must (refine (cut_any _ _ _ _ hown3 (by simp; omega)).mono ?_); rintro e w4 ⟨v4, rfl, hown4, rfl⟩))
      have hb3 : Below wo.heap.size wo w3 := ((Below.refl _ wo).alloc (Nat.le_refl _) _).trans hbel3
      have hown5 : Own (w.heap.size + 1) w3 v4 (digs R) := by rw [← HSN.out]; exact hown4.base (by omega)
      have hout3 := hout.below hb3
      rw [Num.rep_succ] at hout3
      have hbel5 : Below w.heap.size w w3 := hbel.trans (hb3.mono (by omega))
      have hsz5 : w.heap.size < w3.heap.size := by have := hb3.size; omega
      have hll : (List.replicate i 0 ++ 0 :: zs).length = lx := hout3.lenEq.symm
      simp only [List.length_append, List.length_replicate, List.length_cons] at hll
      have HLL := Lib.hid hll; clear hll
      clear hown4 hown3 hbel3 hsz3 hb3 hrest hout
      go_loopw [7] (fun v wr => ∃ (j r' : Nat), Hid (r' + j * b = R) ∧ Own (w.heap.size + 1) wr v (digs r') ∧ Own w.heap.size wr (.slice (some ⟨w.heap.size, 0, none⟩) lx lx) (List.replicate i 0 ++ j :: zs) ∧ w.heap.size < wr.heap.size ∧ Below w.heap.size w wr)
        (fun _ wr => 10 - (intOf ((wr.cell? ⟨w.heap.size, i, none⟩).getD undef)).toNat)
      case atStart => exact ⟨0, R, by show _ = _; omega, hown5, hout3, hsz5, hbel5⟩
      case round =>
        obtain ⟨j, r', hj, hrest, hout, hszr, hbelr⟩ := hrel
        have hrl' := HS.out r' (by have := hj.out; omega)
        have hcj : wr.cell? ⟨w.heap.size, i, none⟩ = some (.int .u8 (j : Int)) := by
          rw [hout.cellAt i (by simp), Num.mid_getD]
        have hfz : wr.frozen? ⟨w.heap.size, i, none⟩ = false := hout.frozenAt i
        by_cases hgo : r' < b
        · have hlt := decide_eq_true hgo
          have hq := Num.over_step heq.out (by rw [hj.out, ← HR.out])
          rw [← HX.out] at hq
          have HQ := Lib.hid hq; clear hq
          have hj9 : j < 10 := by
            rcases Nat.lt_or_ge j 10 with h | h
            · exact h
            · have := hj.out; have h2 : 10 * b ≤ j * b := Nat.mul_le_mul_right _ h; omega
          go_wp2_with (go_at_call 47; go_must (refine (less_any _ _ _ _ _ hrest.rd (hb.below hbelr) (by omega) (by omega) true hlt).mono ?_); rintro e w6 ⟨rfl, hbel6⟩)
          go_roundw
          case rel => exact ⟨i, r', j :: zs, by go_num, by omega, hgo, hrest.below hbel6, hout.below hbel6, by have := hbel6.size; omega, Ten.cons hj9 tz, hbelr.trans (hbel6.mono (by omega)), by show _ = _; rw [HQ.out]; rfl⟩
          case measure => simp [intOf] <;> omega
        · have hlt := decide_eq_false hgo
          have hj9 : j < 10 := by
            rcases Nat.lt_or_ge j 10 with h | h
            · exact h
            · have := hj.out; have h2 : 10 * b ≤ j * b := Nat.mul_le_mul_right _ h; omega
          have hji : (j : Int) < 10 := by omega
          go_wp2_with (first
            | (go_at_call 47; go_must (refine (less_any _ _ _ _ _ hrest.rd (hb.below hbelr) (by omega) (by omega) false hlt).mono ?_); rintro e w6 ⟨rfl, hbel6⟩)
            | (go_at_call 48; go_must (refine (minus_any _ _ _ _ _ (hrest.below hbel6).rd (hb.below (hbelr.trans (hbel6.mono (by omega)))) (Num.digs_ten _) (Num.digs_ten _) (by omega) (Num.digs_length_mono (by omega)) (by rw [Num.valD_digs, Num.valD_digs]; omega)).mono ?_); rintro e w7 ⟨v7, rfl, hown7, hbel7⟩; have hb67 := hbel6.trans (hbel7.mono (by have := hbel6.size; omega)); have hc7 := cellB hcj hb67; have hf7 := frozB hcj hfz hb67))
          rw [Num.valD_digs, Num.valD_digs] at hown7
          have hout7 := (hout.below hb67).stored i (j + 1)
          rw [Num.set_mid] at hout7
          have hr7 := (hown7.base (B' := w.heap.size + 1) (by have := hbel6.size; omega)).setBelow (a := ⟨w.heap.size, i, none⟩) (Nat.lt_succ_self _) (.int .u8 ((j + 1 : Nat) : Int))
          have hbx : Below w.heap.size w (w7.setCell ⟨w.heap.size, i, none⟩ (.int .u8 ((j + 1 : Nat) : Int))) := (hbelr.trans (hb67.mono (by omega))).setCell (Nat.le_refl _) _
          have hszx := hb67.size
          have hjj := hj.out
          have hcx : (w7.setCell ⟨w.heap.size, i, none⟩ (.int .u8 ((j + 1 : Nat) : Int))).cell? ⟨w.heap.size, i, none⟩ = some (.int .u8 ((j + 1 : Nat) : Int)) := by
            rw [hout7.cellAt i (by simp), Num.mid_getD]
          have ecast : ((j + 1 : Nat) : Int) = (j : Int) + 1 := by omega
          rw [ecast] at hout7 hr7 hbx hcx
          clear hown7 hc7 hf7 ecast
          go_roundw
          case rel => exact ⟨j + 1, r' - b, by show _ = _; rw [Nat.add_mul]; omega, hr7, hout7, by simp; omega, hbx⟩
          case measure => rw [hcj]; rw [hcx]; simp [intOf]; omega
end Go.Proofs.YtlagjnlajkmmeaaGreatDoor.One

namespace Go.Proofs.YtlagjnlajkmmeaaGreatDoor.One
open Go.RowKit
open Num (digs valD cutL Ten)

/-- ref.Of, at a number that is spelt otherwise. -/
theorem of_z (z : Int) (n : Nat) (hz : z = (n : Int)) (hn : n < 18446744073709551616) (w : World) :
    Calls Tryz.prog 36 #[.int .u64 z] w fun e w' => ∃ v', e = .returned v' ∧ Own w.heap.size w' v' (digs n) ∧ Below w.heap.size w w' := by
  subst hz; exact of_any n hn w

/-- The cells that a call keeps. -/
theorem bcell {W w1 : World} {B : Nat} (hb : Below B W w1) (b o : Nat) (h : b < B) : w1.cell? ⟨b, o, none⟩ = W.cell? ⟨b, o, none⟩ := hb.cell (p := ⟨b, o, none⟩) h
theorem bfroz {W w1 : World} {B : Nat} (hb : Below B W w1) (b o : Nat) (h : b < B) : w1.frozen? ⟨b, o, none⟩ = W.frozen? ⟨b, o, none⟩ := hb.frozen (p := ⟨b, o, none⟩) h

/-- A field of a number that no variable holds. -/
theorem field_n (b : Bool) (p : Option Addr) (n c : Nat) (w : World) : (Instr.field 64 (.agg #[.bool b, .slice p n c]) 1).run Tryz.prog w = .ok (.slice p n c) w := by kernel_rfl
theorem field_m (b : Bool) (p : Option Addr) (n c : Nat) (w : World) : (Instr.field 64 (.agg #[.bool b, .slice p n c]) 0).run Tryz.prog w = .ok (.bool b) w := by kernel_rfl

/-- A new block of two cells, behind a call. -/
theorem two_cells {w w1 : World} {x y : Value} {T : TypeId} (hb : Below (w.alloc (.cells #[x, y] T)).heap.size (w.alloc (.cells #[x, y] T)) w1) :
    w1.cell? ⟨w.heap.size, 0, none⟩ = some x ∧ w1.cell? ⟨w.heap.size, 1, none⟩ = some y ∧ w1.frozen? ⟨w.heap.size, 0, none⟩ = false ∧ w1.frozen? ⟨w.heap.size, 1, none⟩ = false ∧ w.heap.size < w1.heap.size := by
  have h0 : (w.alloc (.cells #[x, y] T)).heap[w.heap.size]? = some (.cells #[x, y] T (0, 0)) := heap_alloc_new w _
  have hs := hb.size
  simp at hs
  refine ⟨?_, ?_, ?_, ?_, by omega⟩
  · rw [bcell hb _ _ (by simp), cell_of_row _ _ 0 _ _ _ h0]; rfl
  · rw [bcell hb _ _ (by simp), cell_of_row _ _ 1 _ _ _ h0]; rfl
  · rw [bfroz hb _ _ (by simp)]; exact frozen_of_row _ _ 0 _ _ h0
  · rw [bfroz hb _ _ (by simp)]; exact frozen_of_row _ _ 1 _ _ h0

/-- A struct of two cells that is stored behind the calls: what the calls made stays. -/
theorem box_end {w w1 : World} {o : Obj} {v : Value} {xs : List Nat} (hb : Below (w.alloc o).heap.size (w.alloc o) w1) (ho : Own (w.alloc o).heap.size w1 v xs) (x y : Value) :
    Own w.heap.size ((w1.setCell ⟨w.heap.size, 0, none⟩ x).setCell ⟨w.heap.size, 1, none⟩ y) v xs ∧ Below w.heap.size w ((w1.setCell ⟨w.heap.size, 0, none⟩ x).setCell ⟨w.heap.size, 1, none⟩ y) :=
  ⟨((ho.setBelow (a := ⟨w.heap.size, 0, none⟩) (by simp) x).setBelow (a := ⟨w.heap.size, 1, none⟩) (by simp) y).base (by simp),
   ((((Below.refl _ w).alloc (Nat.le_refl _) o).trans (hb.mono (by simp))).setCell (Nat.le_refl _) _).setCell (Nat.le_refl _) _⟩

set_option maxRecDepth 20000 in
set_option maxHeartbeats 1000000 in
theorem from_pos (n : Nat) (hn : n ≤ 9223372036854775807) (w : World) :
    Calls Tryz.prog 34 #[.int .i64 (n : Int)] w fun e w' => ∃ v, e = .returned (.agg #[.bool false, v]) ∧ Own w.heap.size w' v (digs n) ∧ Below w.heap.size w w' := by
  have hn0 : ¬ ((n : Int) < 0) := by omega
  go_enter Tryz.func34, Tryz.ntmps34
  go_wp2_with (go_at_call 36; go_must (refine (of_z _ n (by omega) (by omega) _).mono ?_); rintro e w1 ⟨v1, rfl, hown1, hbel1⟩; obtain ⟨p, c, rfl⟩ := hown1.lens rfl; obtain ⟨hc0, hc1, hf0, hf1, hsz⟩ := two_cells hbel1)
  refine bodyPost_ret (v := .agg #[.bool false, .slice p (digs n).length c]) (by simp [results, Tryz.results34, go_sem, hc0, hc1]) rfl ⟨_, rfl, box_end hbel1 hown1 _ _⟩

set_option maxRecDepth 20000 in
set_option maxHeartbeats 1000000 in
theorem from_neg (n : Nat) (hn : n ≤ 9223372036854775808) (hn1 : 1 ≤ n) (w : World) :
    Calls Tryz.prog 34 #[.int .i64 (-(n : Int))] w fun e w' => ∃ v, e = .returned (.agg #[.bool true, v]) ∧ Own w.heap.size w' v (digs n) ∧ Below w.heap.size w w' := by
  have hn0 : (-(n : Int) < 0) := by omega
  have hl1 : (digs (n - 1)).length ≤ 20 := Num.digs_length_le (by omega)
  have hl2 : (digs 1).length ≤ 20 := Num.digs_length_le (by omega)
  have hsum : valD (digs (n - 1)) + valD (digs 1) = n := by rw [Num.valD_digs, Num.valD_digs]; omega
  have HS := Lib.hid hsum; clear hsum
  go_enter Tryz.func34, Tryz.ntmps34
  go_wp2_with fail
  go_must (refine (of_z _ (n - 1) (by omega) (by omega) _).mono ?_); rintro e w1 ⟨v1, rfl, hown1, hbel1⟩
  go_wp2_with fail
  go_must (refine (of_z _ 1 (by omega) (by omega) _).mono ?_); rintro e w2 ⟨v2, rfl, hown2, hbel2⟩
  go_wp2_with fail
  have hbel12 := hbel1.trans (hbel2.mono hbel1.size)
  go_must (refine (plus_any _ _ _ _ _ (hown1.below hbel2).rd hown2.rd (Num.digs_ten _) (Num.digs_ten _) (by omega) (by omega)).mono ?_); rintro e w3 ⟨v3, rfl, hown3, hbel3⟩
  rw [HS.out] at hown3
  obtain ⟨p, c, rfl⟩ := hown3.lens rfl
  have hbel := hbel12.trans (hbel3.mono hbel12.size)
  have hownx := hown3.base (B' := (w.alloc (.cells #[.bool false, .slice none 0 0] 64)).heap.size) hbel12.size
  obtain ⟨hc0, hc1, hf0, hf1, hsz⟩ := two_cells hbel
  clear hbel1 hbel2 hbel3 hbel12 hown1 hown2 hown3
  go_wp2
  refine bodyPost_ret (v := .agg #[.bool true, .slice p (digs n).length c]) (by simp [results, Tryz.results34, go_sem, hc0, hc1]) rfl ⟨_, rfl, box_end hbel hownx _ _⟩

/-- ref.From. -/
theorem from_any (z : Int) (h1 : -9223372036854775808 ≤ z) (h2 : z ≤ 9223372036854775807) (w : World) :
    Calls Tryz.prog 34 #[.int .i64 z] w fun e w' => ∃ v, e = .returned (.agg #[.bool (decide (z < 0)), v]) ∧ Own w.heap.size w' v (digs z.natAbs) ∧ Below w.heap.size w w' := by
  rcases Int.lt_or_le z 0 with h | h
  · have e : z = -((z.natAbs : Nat) : Int) := by omega
    rw [decide_eq_true h]
    have := from_neg z.natAbs (by omega) (by omega) w
    rw [← e] at this
    exact this
  · have e : z = ((z.natAbs : Nat) : Int) := by omega
    rw [decide_eq_false (by omega)]
    have := from_pos z.natAbs (by omega) w
    rw [← e] at this
    exact this

end Go.Proofs.YtlagjnlajkmmeaaGreatDoor.One

namespace Go.Proofs.YtlagjnlajkmmeaaGreatDoor.One
open Go.RowKit
open Num (digs valD cutL Ten)

/-- Three new blocks of two cells each, behind a call. -/
theorem box3 {w W w4 : World} {a0 a1 b0 b1 c0 c1 : Value} {T : TypeId} (hW : W.heap = (((w.alloc (.cells #[a0, a1] T)).alloc (.cells #[b0, b1] T)).alloc (.cells #[c0, c1] T)).heap) (hb : Below W.heap.size W w4) :
    (w4.cell? ⟨w.heap.size, 0, none⟩ = some a0 ∧ w4.cell? ⟨w.heap.size, 1, none⟩ = some a1 ∧ w4.cell? ⟨w.heap.size + 1, 0, none⟩ = some b0 ∧ w4.cell? ⟨w.heap.size + 1, 1, none⟩ = some b1) ∧
    (w4.cell? ⟨w.heap.size + 1 + 1, 0, none⟩ = some c0 ∧ w4.cell? ⟨w.heap.size + 1 + 1, 1, none⟩ = some c1 ∧ w4.frozen? ⟨w.heap.size + 1 + 1, 0, none⟩ = false ∧ w4.frozen? ⟨w.heap.size + 1 + 1, 1, none⟩ = false) ∧
    w.heap.size + 1 + 1 < w4.heap.size := by
  have hsz : W.heap.size = w.heap.size + 3 := by rw [hW]; simp
  have h0 : W.heap[w.heap.size]? = some (.cells #[a0, a1] T (0, 0)) := by
    rw [hW, Below.heap_alloc _ _ _ (by simp; omega), Below.heap_alloc _ _ _ (by simp)]; exact heap_alloc_new w _
  have h1 : W.heap[w.heap.size + 1]? = some (.cells #[b0, b1] T (0, 0)) := by
    rw [hW, Below.heap_alloc _ _ _ (by simp)]
    have := heap_alloc_new (w.alloc (.cells #[a0, a1] T)) (.cells #[b0, b1] T)
    simpa using this
  have h2 : W.heap[w.heap.size + 1 + 1]? = some (.cells #[c0, c1] T (0, 0)) := by
    rw [hW]
    have := heap_alloc_new ((w.alloc (.cells #[a0, a1] T)).alloc (.cells #[b0, b1] T)) (.cells #[c0, c1] T)
    simpa using this
  have hs := hb.size
  refine ⟨⟨?_, ?_, ?_, ?_⟩, ⟨?_, ?_, ?_, ?_⟩, by omega⟩
  · rw [bcell hb _ _ (by omega), cell_of_row _ _ 0 _ _ _ h0]; rfl
  · rw [bcell hb _ _ (by omega), cell_of_row _ _ 1 _ _ _ h0]; rfl
  · rw [bcell hb _ _ (by omega), cell_of_row _ _ 0 _ _ _ h1]; rfl
  · rw [bcell hb _ _ (by omega), cell_of_row _ _ 1 _ _ _ h1]; rfl
  · rw [bcell hb _ _ (by omega), cell_of_row _ _ 0 _ _ _ h2]; rfl
  · rw [bcell hb _ _ (by omega), cell_of_row _ _ 1 _ _ _ h2]; rfl
  · rw [bfroz hb _ _ (by omega)]; exact frozen_of_row _ _ 0 _ _ h2
  · rw [bfroz hb _ _ (by omega)]; exact frozen_of_row _ _ 1 _ _ h2

/-- Behind the store into the third of three new blocks. -/
theorem keep3 {B : Nat} {w4 : World} {a0 a1 b0 b1 : Value} (h : w4.cell? ⟨B, 0, none⟩ = some a0 ∧ w4.cell? ⟨B, 1, none⟩ = some a1 ∧ w4.cell? ⟨B + 1, 0, none⟩ = some b0 ∧ w4.cell? ⟨B + 1, 1, none⟩ = some b1) (x y : Value) :
    ((w4.setCell ⟨B + 1 + 1, 0, none⟩ x).setCell ⟨B + 1 + 1, 1, none⟩ y).cell? ⟨B, 0, none⟩ = some a0 ∧ ((w4.setCell ⟨B + 1 + 1, 0, none⟩ x).setCell ⟨B + 1 + 1, 1, none⟩ y).cell? ⟨B, 1, none⟩ = some a1 ∧
    ((w4.setCell ⟨B + 1 + 1, 0, none⟩ x).setCell ⟨B + 1 + 1, 1, none⟩ y).cell? ⟨B + 1, 0, none⟩ = some b0 ∧ ((w4.setCell ⟨B + 1 + 1, 0, none⟩ x).setCell ⟨B + 1 + 1, 1, none⟩ y).cell? ⟨B + 1, 1, none⟩ = some b1 := by
  have hb : Below (B + 1 + 1) w4 ((w4.setCell ⟨B + 1 + 1, 0, none⟩ x).setCell ⟨B + 1 + 1, 1, none⟩ y) := ((Below.refl (B + 1 + 1) w4).setCell (p := ⟨B + 1 + 1, 0, none⟩) (Nat.le_refl _) _).setCell (p := ⟨B + 1 + 1, 1, none⟩) (Nat.le_refl _) _
  rw [bcell hb B 0 (by omega), bcell hb B 1 (by omega), bcell hb (B + 1) 0 (by omega), bcell hb (B + 1) 1 (by omega)]
  exact h

/-- The end of Sum: what the call made is there behind the store; nothing old has turned. -/
theorem end3 {w W w4 : World} {o1 o2 o3 : Obj} (hW : W.heap = (((w.alloc o1).alloc o2).alloc o3).heap) (hos : W.os = w.os) (htape : W.tape = w.tape) (hout : W.output = w.output) (hb : Below W.heap.size W w4) {v : Value} {xs : List Nat} (ho : Own W.heap.size w4 v xs) (x y : Value) :
    Rd ((w4.setCell ⟨w.heap.size + 1 + 1, 0, none⟩ x).setCell ⟨w.heap.size + 1 + 1, 1, none⟩ y) v xs ∧ Below w.heap.size w ((w4.setCell ⟨w.heap.size + 1 + 1, 0, none⟩ x).setCell ⟨w.heap.size + 1 + 1, 1, none⟩ y) := by
  have hsz : W.heap.size = w.heap.size + 3 := by rw [hW]; simp
  have h0 : Below w.heap.size w W := by
    refine ⟨hos, htape, hout, by omega, fun k hk => ?_⟩
    rw [hW, Below.heap_alloc _ _ _ (by simp; omega), Below.heap_alloc _ _ _ (by simp; omega), Below.heap_alloc _ _ _ hk]
  exact ⟨((ho.setBelow (by simp; omega) x).setBelow (by simp; omega) y).rd, ((h0.trans (hb.mono (by omega))).setCell (by simp; omega) _).setCell (by simp; omega) _⟩

/-- What was there is there in the world of the three new blocks. -/
theorem rd3 {w W : World} {o1 o2 o3 : Obj} (hW : W.heap = (((w.alloc o1).alloc o2).alloc o3).heap) {v : Value} {xs : List Nat} (h : Rd w v xs) : Rd W v xs := by
  have := ((h.alloc o1).alloc o2).alloc o3
  unfold Rd Own World.ownsRow at *
  rw [hW]; exact this

end Go.Proofs.YtlagjnlajkmmeaaGreatDoor.One

namespace Go.Proofs.YtlagjnlajkmmeaaGreatDoor.One
open Go.RowKit
open Num (digs valD cutL Ten)

/-- 2^63. -/
def P63 : Nat := 9223372036854775808
theorem p63_len : (digs P63).length ≤ 20 := Num.digs_length_le (by unfold P63; decide)

theorem ret_ii {k l : IntKind} {a b c d : Int} (h : a = c) (h' : b = d) : Ending.returned (.tuple #[.int k a, .int l b]) = .returned (.tuple #[.int k c, .int l d]) := by rw [h, h']

theorem from_least (w : World) :
    Calls Tryz.prog 34 #[.int .i64 (-9223372036854775808)] w fun e w' => ∃ v, e = .returned (.agg #[.bool true, v]) ∧ Own w.heap.size w' v (digs P63) ∧ Below w.heap.size w w' := from_any (-9223372036854775808) (by decide) (by decide) w

/-- What To answers. -/
def toI (z : Int) : Int × Int := if -9223372036854775808 ≤ z ∧ z ≤ 9223372036854775807 then (z, 0) else (0, 31)
def sgn (m : Bool) (n : Nat) : Int := if m then -(n : Int) else (n : Int)

end Go.Proofs.YtlagjnlajkmmeaaGreatDoor.One

namespace Go.Proofs.YtlagjnlajkmmeaaGreatDoor.One
open Go.RowKit

/-- An int64. -/
def I64 (z : Int) : Prop := -9223372036854775808 ≤ z ∧ z ≤ 9223372036854775807

theorem toI_of {z r e : Int} (h : I64 z ∧ r = z ∧ e = 0 ∨ ¬ I64 z ∧ r = 0 ∧ e = 31) : toI z = (r, e) := by
  unfold toI
  rcases h with ⟨h, rfl, rfl⟩ | ⟨h, rfl, rfl⟩
  · unfold I64 at h; rw [if_pos h]
  · unfold I64 at h; rw [if_neg h]

theorem u64wrap (x : Int) : IntKind.u64.wrap x = x % 18446744073709551616 := by simp [IntKind.wrap, IntKind.bits, IntKind.signed]

theorem add_ok {a b : Int} (ha : I64 a) (hb : I64 b) (h : (!decide (a < wrap64 (a + b)) == decide (0 < b)) = false) : toI (a + b) = (wrap64 (a + b), 0) := by
  have h' : (a < wrap64 (a + b)) ↔ (0 < b) := by
    by_cases h1 : a < wrap64 (a + b) <;> by_cases h2 : 0 < b <;> simp [h1, h2] at h ⊢
  refine toI_of (.inl ?_)
  unfold wrap64 I64 at *
  omega
theorem add_no {a b : Int} (ha : I64 a) (hb : I64 b) (h : (!decide (a < wrap64 (a + b)) == decide (0 < b)) = true) : toI (a + b) = (0, 31) := by
  have h' : ¬ ((a < wrap64 (a + b)) ↔ (0 < b)) := by
    by_cases h1 : a < wrap64 (a + b) <;> by_cases h2 : 0 < b <;> simp [h1, h2] at h ⊢
  refine toI_of (.inr ?_)
  unfold wrap64 I64 at *
  omega
theorem sub_ok {a b : Int} (ha : I64 a) (hb : I64 b) (h : (!decide (wrap64 (a - b) < a) == decide (0 < b)) = false) : toI (a - b) = (wrap64 (a - b), 0) := by
  have h' : (wrap64 (a - b) < a) ↔ (0 < b) := by
    by_cases h1 : wrap64 (a - b) < a <;> by_cases h2 : 0 < b <;> simp [h1, h2] at h ⊢
  refine toI_of (.inl ?_)
  unfold wrap64 I64 at *
  omega
theorem sub_no {a b : Int} (ha : I64 a) (hb : I64 b) (h : (!decide (wrap64 (a - b) < a) == decide (0 < b)) = true) : toI (a - b) = (0, 31) := by
  have h' : ¬ ((wrap64 (a - b) < a) ↔ (0 < b)) := by
    by_cases h1 : wrap64 (a - b) < a <;> by_cases h2 : 0 < b <;> simp [h1, h2] at h ⊢
  refine toI_of (.inr ?_)
  unfold wrap64 I64 at *
  omega

/-- dec.size. -/
theorem size_any (z : Int) (hz : I64 z) (w : World) :
    Calls Tryz.prog 41 #[.int .i64 z] w fun e w' => e = .returned (.int .u64 ((z.natAbs : Nat) : Int)) ∧ w = w' := by
  obtain ⟨h1, h2⟩ := hz
  rcases Int.lt_or_le z 0 with h | h
  · have e : IntKind.u64.wrap (-IntKind.u64.wrap z) = ((z.natAbs : Nat) : Int) := by
      rw [u64wrap, u64wrap]; omega
    have E := Lib.hid e; clear e
    go_enter Tryz.func41, Tryz.ntmps41
    go_wp2
    go_ret
    exact ⟨by rw [← E.out]; rfl, rfl⟩
  · have e : z = ((z.natAbs : Nat) : Int) := by omega
    have E := Lib.hid e; clear e
    go_enter Tryz.func41, Tryz.ntmps41
    go_wp2
    go_ret
    exact ⟨by rw [← E.out]; rfl, rfl⟩

theorem i64_zero : I64 0 := by unfold I64; omega

end Go.Proofs.YtlagjnlajkmmeaaGreatDoor.One

namespace Go.Proofs.YtlagjnlajkmmeaaGreatDoor.One
open Go.RowKit
open Num (digs valD cutL Ten)

theorem digs_len_add {a b k : Nat} (ha : (digs a).length ≤ k) (hb : (digs b).length ≤ k) : (digs (a + b)).length ≤ k + 1 := by
  refine Num.digs_length_le ?_
  have h1 := Num.valD_lt (Num.digs_ten a); rw [Num.valD_digs] at h1
  have h2 := Num.valD_lt (Num.digs_ten b); rw [Num.valD_digs] at h2
  have h3 := Nat.pow_le_pow_right (show 0 < 10 by decide) ha
  have h4 := Nat.pow_le_pow_right (show 0 < 10 by decide) hb
  rw [Nat.pow_succ]; omega

theorem sgn_int (z : Int) : sgn (decide (z < 0)) z.natAbs = z := by
  unfold sgn
  by_cases h : z < 0 <;> simp [h] <;> omega
theorem sgn_neg (m : Bool) (n : Nat) : sgn (!m) n = -(sgn m n) := by unfold sgn; cases m <;> simp
theorem len_int (z : Int) (hz : I64 z) : (digs z.natAbs).length ≤ 20 := Num.digs_length_le (by unfold I64 at hz; omega)

theorem cellBd {w w' : World} {p : Addr} {v : Value} (h : w.cell? p = some v) (hb : Below w.drew.heap.size w.drew w') : w'.cell? p = some v := cellB (w := w.drew) h hb
theorem frozBd {w w' : World} {p : Addr} {v : Value} {f : Bool} (h : w.cell? p = some v) (hf : w.frozen? p = f) (hb : Below w.drew.heap.size w.drew w') : w'.frozen? p = f := frozB (w := w.drew) h hf hb

/-- A new block of two cells, behind a draw and a call. -/
theorem two_cellsD {w w1 : World} {x y : Value} {T : TypeId} (hb : Below (w.alloc (.cells #[x, y] T)).drew.heap.size (w.alloc (.cells #[x, y] T)).drew w1) :
    w1.cell? ⟨w.heap.size, 0, none⟩ = some x ∧ w1.cell? ⟨w.heap.size, 1, none⟩ = some y := by
  have h := two_cells (w := w) (w1 := w1) (x := x) (y := y) (T := T) ⟨hb.os, hb.tape, hb.output, hb.size, hb.block⟩
  exact ⟨h.1, h.2.1⟩
theorem belowA {w w1 w2 : World} {o : Obj} (h1 : Below w.heap.size w w1) (h2 : Below (w1.alloc o).drew.heap.size (w1.alloc o).drew w2) : Below w.heap.size w w2 := by
  have h3 : Below w.heap.size w (w1.alloc o).drew := (h1.alloc h1.size o).drew
  exact h3.trans (h2.mono h3.size)
theorem rdA {w1 w2 : World} {B : Nat} {o : Obj} {v : Value} {xs : List Nat} (h : Own B w1 v xs) (h2 : Below (w1.alloc o).drew.heap.size (w1.alloc o).drew w2) : Rd w2 v xs :=
  ((h.alloc o).drew.below h2).rd

end Go.Proofs.YtlagjnlajkmmeaaGreatDoor.One
