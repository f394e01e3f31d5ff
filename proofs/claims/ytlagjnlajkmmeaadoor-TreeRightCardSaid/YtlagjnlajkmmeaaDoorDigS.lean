/-
The reference's Digits, by a contract.
-/
import Derived.Test.YtlagjnlajkmmeaaDoorBRead
import Derived.Test.YtlagjnlajkmmeaaDoorDigM
import Derived.Laws.IdiomStrings
namespace Go.Proofs.YtlagjnlajkmmeaaDoor.Dig
open Go.RowKit

/-- What has been written of the number n when k is left. -/
def Wr (n k : Nat) (l : List UInt8) : Prop :=
  k ≤ n ∧ ((k ≠ 0 ∨ l = []) ∧ Lib.decDigits n = Lib.decDigits k ++ l ∨ k = 0 ∧ l ≠ [] ∧ l = Lib.decDigits n)
theorem Wr.start (n : Nat) : Wr n n [] ∨ n = 0 := by
  unfold Wr
  by_cases h : n = 0
  · exact .inr h
  · exact .inl ⟨Nat.le_refl _, .inl ⟨.inl h, by simp⟩⟩
theorem Wr.start' (n : Nat) : Wr n n [] := ⟨Nat.le_refl _, .inl ⟨.inr rfl, by simp⟩⟩
theorem Wr.step {n k : Nat} {l : List UInt8} (h : Wr n k l) (hk : k ≠ 0 ∨ l = []) : Wr n (k / 10) (UInt8.ofNat (48 + k % 10) :: l) := by
  obtain ⟨h1, h⟩ := h
  refine ⟨by omega, ?_⟩
  have e : Lib.decDigits n = Lib.decDigits k ++ l := by
    rcases h with ⟨_, h⟩ | ⟨h2, h3, _⟩
    · exact h
    · rcases hk with hk | hk
      · exact absurd h2 hk
      · exact absurd hk h3
  by_cases h10 : 10 ≤ k
  · refine .inl ⟨.inl (by omega), ?_⟩
    rw [e, dec_step h10, List.append_assoc]; rfl
  · refine .inr ⟨by omega, by simp, ?_⟩
    rw [e, Lib.decDigits_one (by omega), Nat.mod_eq_of_lt (by omega)]; rfl
theorem Wr.done {n : Nat} {l : List UInt8} (h : Wr n 0 l) (hl : l ≠ []) : l = Lib.decDigits n := by
  obtain ⟨_, h | h⟩ := h
  · rcases h.1 with h' | h'
    · exact absurd rfl h'
    · exact absurd h' hl
  · exact h.2.2
theorem Wr.length {n k : Nat} {l : List UInt8} (h : Wr n k l) (hn : n ≤ 9223372036854775808) : l.length ≤ 20 := by
  have hd := dec_length n hn
  obtain ⟨_, h | h⟩ := h
  · rw [h.2] at hd; simp at hd; omega
  · rw [h.2.2]; exact hd

theorem conv1 (w : World) (d : Nat) (hd : d < 10) : (convert 57 9 (.slice (some ⟨w.heap.size, 0, none⟩) 1 1)).run Tryd.prog (w.alloc (.cells #[.int .u8 (48 + (d : Int))] 5)) = .ok (.string ⟨#[UInt8.ofNat (48 + d)]⟩) (w.alloc (.cells #[.int .u8 (48 + (d : Int))] 5)) := by
  refine run_convert_bytes_back (P := Tryd.prog) _ 57 9 5 ⟨w.heap.size, 0, none⟩ 1 [UInt8.ofNat (48 + d)] Tryd.underlying57 Tryd.underlying5 Tryd.underlying9 (fun j hj => ?_)
  obtain rfl : j = 0 := by simp at hj; omega
  have h0 : (w.alloc (.cells #[.int .u8 (48 + (d : Int))] 5)).heap[w.heap.size]? = some (.cells #[.int .u8 (48 + (d : Int))] 5 (0, 0)) := heap_alloc_new w _
  rw [show (Addr.add ⟨w.heap.size, 0, none⟩ 0) = ⟨w.heap.size, 0, none⟩ from rfl, cell_of_row _ _ 0 _ _ _ h0]
  have e : ((UInt8.ofNat (48 + d)).toNat : Int) = 48 + (d : Int) := by
    simp; omega
  show some (Value.int .u8 (48 + (d : Int))) = some (Value.int .u8 ((UInt8.ofNat (48 + d)).toNat : Int))
  rw [e]

/-- 1 at the empty string. -/
def emp : Value → Nat
  | .string s => if s.data.toList = [] then 1 else 0
  | _ => 0
theorem emp_app (c : UInt8) (l : List UInt8) : emp (.string (⟨#[c]⟩ ++ ⟨l.toArray⟩)) = 0 := by simp [emp]
theorem emp_nil : emp (.string ⟨#[]⟩) = 1 := by simp [emp]

set_option maxRecDepth 20000 in
set_option maxHeartbeats 2000000 in
theorem digits_pos (n : Nat) (hn : n ≤ 9223372036854775807) (w : World) :
    Calls Tryd.prog 22 #[.int .i64 (n : Int)] w fun e w' => e = .returned (.string ⟨(Lib.decDigits n).toArray⟩) ∧ Below w.heap.size w w' := by
  go_enter Tryd.func22, Tryd.ntmps22
  go_wp2
  go_loopw [3, 4] (fun sv kv wr => ∃ (k : Nat) (l : List UInt8), sv = .string ⟨l.toArray⟩ ∧ kv = .int .i64 (k : Int) ∧ Hid (Wr n k l) ∧ Below w.heap.size w wr)
    (fun sv k _ => (intOf k).toNat + emp sv)
  case atStart => exact ⟨n, [], rfl, rfl, Wr.start' n, Below.refl _ _⟩
  case round =>
    obtain ⟨k, l, rfl, rfl, HW, hbel⟩ := hrel
    have hsz := hbel.size
    have hll := HW.out.length (by omega)
    have hkn : k ≤ n := HW.out.1
    obtain ⟨d, hd⟩ : ∃ d, k % 10 = d := ⟨_, rfl⟩
    have hd9 : d < 10 := by omega
    have hcv := conv1 wr d hd9
    have hd1 : ((k : Int)).tmod 10 = (d : Int) := by rw [Int.tmod_eq_emod_of_nonneg (by omega)]; omega
    have hd2 : ((k : Int)).tdiv 10 = ((k / 10 : Nat) : Int) := by rw [Int.tdiv_eq_ediv_of_nonneg (by omega)]; omega
    have hst : (k ≠ 0 ∨ l = []) → Wr n (k / 10) (UInt8.ofNat (48 + k % 10) :: l) := HW.out.step
    have hba : (⟨#[UInt8.ofNat (48 + d)]⟩ ++ ⟨l.toArray⟩ : ByteArray) = ⟨(UInt8.ofNat (48 + k % 10) :: l).toArray⟩ := by rw [hd]; exact ba_app [UInt8.ofNat (48 + d)] l
    rw [hd] at hba hst
    obtain ⟨c, hc⟩ : ∃ b, UInt8.ofNat (48 + d) = b := ⟨_, rfl⟩
    rw [hc] at hcv hba hst
    have HBA := Lib.hid hba
    have hd0 : k = 0 → d = 0 := fun h => by omega
    clear hba hd hc
    by_cases hk0 : k = 0
    · subst hk0
      by_cases hl0 : l = []
      · subst hl0
        have HST := Lib.hid (hst (.inr rfl))
        obtain rfl : d = 0 := hd0 rfl
        rw [show (48 + ((0 : Nat) : Int)) = 48 from rfl] at hcv
        clear hst hd0 hd1 hd2
        go_wp2
        go_roundw
        case rel => exact ⟨0 / 10, _, by rw [HBA.out], by go_num, HST.out, hbel.alloc hsz _⟩
        case measure => simp [intOf, emp_app, emp_nil, emp]
      · have HD := Lib.hid (HW.out.done hl0)
        have he : l.isEmpty = false := by cases l; exact absurd rfl hl0; rfl
        have he2 : (!l.isEmpty) = true := by rw [he]; rfl
        clear hl0 hst hd0 hd1 hd2
        go_wp2
        go_ret
        exact ⟨by rw [← HD.out]; rfl, hbel⟩
    · have k1 : ((k : Int) != 0) = true := by simpa using hk0
      have hk1 : 1 ≤ k := by omega
      have HST := Lib.hid (hst (.inl hk0))
      clear hk0 hst hd0
      go_wp2
      go_roundw
      case rel => exact ⟨k / 10, _, by rw [HBA.out], by go_num, HST.out, hbel.alloc hsz _⟩
      case measure => simp [intOf, emp_app]; omega
set_option maxRecDepth 20000 in
set_option maxHeartbeats 2000000 in
theorem digits_neg (n : Nat) (hn0 : 1 ≤ n) (hn : n ≤ 9223372036854775808) (w : World) :
    Calls Tryd.prog 22 #[.int .i64 (-(n : Int))] w fun e w' => e = .returned (.string ⟨(45 :: Lib.decDigits n).toArray⟩) ∧ Below w.heap.size w w' := by
  go_enter Tryd.func22, Tryd.ntmps22
  go_wp2
  go_loopw [3, 4] (fun sv kv wr => ∃ (k : Nat) (l : List UInt8), sv = .string ⟨l.toArray⟩ ∧ kv = .int .i64 (-(k : Int)) ∧ Hid (Wr n k l) ∧ Below w.heap.size w wr)
    (fun sv k _ => (-(intOf k)).toNat + emp sv)
  case atStart => exact ⟨n, [], rfl, rfl, Wr.start' n, Below.refl _ _⟩
  case round =>
    obtain ⟨k, l, rfl, rfl, HW, hbel⟩ := hrel
    have hsz := hbel.size
    have hll := HW.out.length (by omega)
    have hkn : k ≤ n := HW.out.1
    obtain ⟨d, hd⟩ : ∃ d, k % 10 = d := ⟨_, rfl⟩
    have hd9 : d < 10 := by omega
    have hcv := conv1 wr d hd9
    have hd1 : (-(k : Int)).tmod 10 = -(d : Int) := by rw [Int.neg_tmod, Int.tmod_eq_emod_of_nonneg (by omega)]; omega
    have hd2 : (-(k : Int)).tdiv 10 = -((k / 10 : Nat) : Int) := by rw [Int.neg_tdiv, Int.tdiv_eq_ediv_of_nonneg (by omega)]; omega
    have hst : (k ≠ 0 ∨ l = []) → Wr n (k / 10) (UInt8.ofNat (48 + k % 10) :: l) := HW.out.step
    have hba : (⟨#[UInt8.ofNat (48 + d)]⟩ ++ ⟨l.toArray⟩ : ByteArray) = ⟨(UInt8.ofNat (48 + k % 10) :: l).toArray⟩ := by rw [hd]; exact ba_app [UInt8.ofNat (48 + d)] l
    rw [hd] at hba hst
    obtain ⟨c, hc⟩ : ∃ b, UInt8.ofNat (48 + d) = b := ⟨_, rfl⟩
    rw [hc] at hcv hba hst
    have HBA := Lib.hid hba
    have hd0 : k = 0 → d = 0 := fun h => by omega
    clear hba hd hc
    by_cases hk0 : k = 0
    · subst hk0
      by_cases hl0 : l = []
      · subst hl0
        have HST := Lib.hid (hst (.inr rfl))
        obtain rfl : d = 0 := hd0 rfl
        rw [show (48 + ((0 : Nat) : Int)) = 48 from rfl] at hcv
        clear hst hd0 hd1 hd2
        go_wp2
        go_roundw
        case rel => exact ⟨0 / 10, _, by rw [HBA.out], by go_num, HST.out, hbel.alloc hsz _⟩
        case measure => simp [intOf, emp_app, emp_nil, emp]
      · have HD := Lib.hid (HW.out.done hl0)
        have HBB : Hid ((⟨#[45]⟩ ++ ⟨l.toArray⟩ : ByteArray) = ⟨(45 :: l).toArray⟩) := ba_app [45] l
        have he : l.isEmpty = false := by cases l; exact absurd rfl hl0; rfl
        have he2 : (!l.isEmpty) = true := by rw [he]; rfl
        clear hl0 hst hd0 hd1 hd2
        go_wp2
        go_ret
        exact ⟨by rw [← HD.out, ← HBB.out]; rfl, hbel⟩
    · have k1 : (-(k : Int) != 0) = true := by simpa using hk0
      have hk1 : 1 ≤ k := by omega
      have HST := Lib.hid (hst (.inl hk0))
      clear hk0 hst hd0
      by_cases hd00 : d = 0
      · subst hd00
        rw [show (48 + ((0 : Nat) : Int)) = 48 from rfl] at hcv
        rw [show -((0 : Nat) : Int) = 0 from rfl] at hd1
        go_wp2
        go_roundw
        case rel => exact ⟨k / 10, _, by rw [HBA.out], by go_num, HST.out, hbel.alloc hsz _⟩
        case measure => simp [intOf, emp_app]; omega
      · have hdn : 1 ≤ d := by omega
        clear hd00
        go_wp2
        go_roundw
        case rel => exact ⟨k / 10, _, by rw [HBA.out], by go_num, HST.out, hbel.alloc hsz _⟩
        case measure => simp [intOf, emp_app]; omega

/-- ref.Digits. -/
theorem digits_any (n : Int) (h0 : -9223372036854775808 ≤ n) (h1 : n ≤ 9223372036854775807) (w : World) :
    Calls Tryd.prog 22 #[.int .i64 n] w fun e w' => e = .returned (.string ⟨(Lib.itoa n).toArray⟩) ∧ Below w.heap.size w w' := by
  unfold Lib.itoa
  by_cases h : n < 0
  · rw [if_pos h]
    have := digits_neg n.natAbs (by omega) (by omega) w
    rw [show -((n.natAbs : Nat) : Int) = n by omega] at this
    exact this
  · rw [if_neg h]
    have := digits_pos n.toNat (by omega) w
    rw [show ((n.toNat : Nat) : Int) = n by omega] at this
    exact this
end Go.Proofs.YtlagjnlajkmmeaaDoor.Dig
