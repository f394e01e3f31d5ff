/-
The reference's Digits and Text, by contracts.
-/
import Derived.Test.YthfgpmiammfcaaaDoorRefJ
import Derived.Laws.IdiomStrings
namespace Go.Proofs.YthfgpmiammfcaaaDoor
open Go.RowKit
open Num (digs valD cutL Ten)

/-- The k lowest digits, the greatest first, as bytes. -/
def strD (xs : List Nat) : Nat → List UInt8
  | 0 => []
  | k + 1 => UInt8.ofNat (48 + xs[k]?.getD 0) :: strD xs k
theorem strD_length (xs : List Nat) (k : Nat) : (strD xs k).length = k := by
  induction k with
  | zero => rfl
  | succ k ih => simp [strD, ih]

theorem conv1 (w : World) (d : Nat) (hd : d < 10) : (convert 34 9 (.slice (some ⟨w.heap.size, 0, none⟩) 1 1)).run Tryd.prog (w.alloc (.cells #[.int .u8 (48 + (d : Int))] 5)) = .ok (.string ⟨#[UInt8.ofNat (48 + d)]⟩) (w.alloc (.cells #[.int .u8 (48 + (d : Int))] 5)) := by
  refine run_convert_bytes_back (P := Tryd.prog) _ 34 9 5 ⟨w.heap.size, 0, none⟩ 1 [UInt8.ofNat (48 + d)] Tryd.underlying34 Tryd.underlying5 Tryd.underlying9 (fun j hj => ?_)
  obtain rfl : j = 0 := by simp at hj; omega
  have h0 : (w.alloc (.cells #[.int .u8 (48 + (d : Int))] 5)).heap[w.heap.size]? = some (.cells #[.int .u8 (48 + (d : Int))] 5 (0, 0)) := heap_alloc_new w _
  rw [show (Addr.add ⟨w.heap.size, 0, none⟩ 0) = ⟨w.heap.size, 0, none⟩ from rfl, cell_of_row _ _ 0 _ _ _ h0]
  have e : ((UInt8.ofNat (48 + d)).toNat : Int) = 48 + (d : Int) := by
    simp; omega
  show some (Value.int .u8 (48 + (d : Int))) = some (Value.int .u8 ((UInt8.ofNat (48 + d)).toNat : Int))
  rw [e]
theorem strD_succ (xs : List Nat) (k d : Nat) (h : xs[k]?.getD 0 = d) : (⟨#[UInt8.ofNat (48 + d)]⟩ ++ ⟨(strD xs k).toArray⟩ : ByteArray) = ⟨(strD xs (k + 1)).toArray⟩ := by
  rw [strD, h]; exact ba_app [UInt8.ofNat (48 + d)] _

set_option maxRecDepth 20000 in
set_option maxHeartbeats 4000000 in
/-- ref.Digits. -/
theorem digits_any (w : World) (v : Value) (xs : List Nat) (h : Rd w v xs) (tx : Ten xs) (hb : xs.length ≤ 100) (least : Nat) (hl : least ≤ 100) :
    Calls Tryd.prog 52 #[v, .int .i64 (least : Int)] w fun e w' => e = .returned (.string ⟨(strD xs (max xs.length least)).toArray⟩) ∧ Below w.heap.size w w' := by
  obtain ⟨n, hn⟩ : ∃ n, xs.length = n := ⟨_, rfl⟩
  obtain ⟨p, c, rfl⟩ := h.lens hn.symm
  go_enter Tryd.func52, Tryd.ntmps52
  go_wp2
  go_loopw [5, 6] (fun sv iv wr => ∃ k : Nat, sv = .string ⟨(strD xs k).toArray⟩ ∧ iv = .int .i64 (k : Int) ∧ k ≤ max n least ∧ Below w.heap.size w wr)
    (fun _ i _ => max n least - (intOf i).toNat)
  case atStart => exact ⟨0, rfl, rfl, by omega, Below.refl _ _⟩
  case round =>
    obtain ⟨k, rfl, rfl, hk, hbel⟩ := hrel
    have hsz := hbel.size
    have hw : Rd wr _ xs := h.below hbel
    obtain ⟨d, hd⟩ : ∃ d, xs[k]?.getD 0 = d := ⟨_, rfl⟩
    have hd9 : d < 10 := by rw [← hd]; exact tx.getD k
    have hlen := strD_length xs k
    have HD := Lib.hid hd
    have hcv := conv1 wr d hd9
    have hba := strD_succ xs k d hd
    obtain ⟨bb, hbb⟩ : ∃ b, UInt8.ofNat (48 + d) = b := ⟨_, rfl⟩
    rw [hbb] at hcv hba
    have HBA := Lib.hid hba
    clear hd hbb hba
    rcases (show k < n ∨ (n ≤ k ∧ k < least) ∨ (n ≤ k ∧ least ≤ k) from by omega) with hgo | ⟨hgo, hgo'⟩ | ⟨hgo, hgo'⟩
    · have hkm : k < max n least := by omega
      go_wp2_with fail
      go_must (refine (digit_any _ _ xs hw (by omega) k d HD.out (by omega)).mono ?_); rintro e w' ⟨rfl, rfl⟩
      go_wp2
      go_roundw
      case rel => exact ⟨k + 1, by rw [HBA.out], by go_num, by omega, hbel.alloc hsz _⟩
      case measure => simp [intOf]; omega
    · have hkm : k < max n least := by omega
      go_wp2_with fail
      go_must (refine (digit_any _ _ xs hw (by omega) k d HD.out (by omega)).mono ?_); rintro e w' ⟨rfl, rfl⟩
      go_wp2
      go_roundw
      case rel => exact ⟨k + 1, by rw [HBA.out], by go_num, by omega, hbel.alloc hsz _⟩
      case measure => simp [intOf]; omega
    · obtain rfl : k = max n least := by omega
      go_wp2
      go_ret
      subst hn
      exact ⟨rfl, hbel⟩
end Go.Proofs.YthfgpmiammfcaaaDoor
