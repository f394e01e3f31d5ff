/-
The reference of stage 7: Col, Column, Right, Text, by contracts.
-/
import Derived.Test.YtggdpnkfambmfaaDoorCeM
import Derived.Test.YtggdpnkfambmfaaDoorDigS
import Derived.Test.YtggdpnkfambmfaaDoorBHeld
namespace Go.Proofs.YtggdpnkfambmfaaDoor
open Go.RowKit Go.Proofs.YtggdpnkfambmfaaDoor.Dig

theorem conv1c (w : World) (a : Nat) (ha : a < 256) : (convert 44 9 (.slice (some ⟨w.heap.size, 0, none⟩) 1 1)).run Tryd.prog (w.alloc (.cells #[.int .u8 (a : Int)] 5)) = .ok (.string ⟨[UInt8.ofNat a].toArray⟩) (w.alloc (.cells #[.int .u8 (a : Int)] 5)) := by
  refine run_convert_bytes_back (P := Tryd.prog) _ 44 9 5 ⟨w.heap.size, 0, none⟩ 1 [UInt8.ofNat a] Tryd.underlying44 Tryd.underlying5 Tryd.underlying9 (fun j hj => ?_)
  obtain rfl : j = 0 := by simp at hj; omega
  have h0 : (w.alloc (.cells #[.int .u8 (a : Int)] 5)).heap[w.heap.size]? = some (.cells #[.int .u8 (a : Int)] 5 (0, 0)) := heap_alloc_new w _
  rw [show (Addr.add ⟨w.heap.size, 0, none⟩ 0) = ⟨w.heap.size, 0, none⟩ from rfl, cell_of_row _ _ 0 _ _ _ h0]
  have e : (UInt8.ofNat a).toNat = a := by rw [UInt8.toNat_ofNat']; omega
  show some (Value.int .u8 (a : Int)) = some (Value.int .u8 ((UInt8.ofNat a).toNat : Int))
  rw [e]
theorem conv2c (w : World) (a b : Nat) (ha : a < 256) (hb : b < 256) : (convert 44 9 (.slice (some ⟨w.heap.size, 0, none⟩) 2 2)).run Tryd.prog (w.alloc (.cells #[.int .u8 (a : Int), .int .u8 (b : Int)] 5)) = .ok (.string ⟨[UInt8.ofNat a, UInt8.ofNat b].toArray⟩) (w.alloc (.cells #[.int .u8 (a : Int), .int .u8 (b : Int)] 5)) := by
  refine run_convert_bytes_back (P := Tryd.prog) _ 44 9 5 ⟨w.heap.size, 0, none⟩ 2 [UInt8.ofNat a, UInt8.ofNat b] Tryd.underlying44 Tryd.underlying5 Tryd.underlying9 (fun j hj => ?_)
  have h0 : (w.alloc (.cells #[.int .u8 (a : Int), .int .u8 (b : Int)] 5)).heap[w.heap.size]? = some (.cells #[.int .u8 (a : Int), .int .u8 (b : Int)] 5 (0, 0)) := heap_alloc_new w _
  have ea : (UInt8.ofNat a).toNat = a := by rw [UInt8.toNat_ofNat']; omega
  have eb : (UInt8.ofNat b).toNat = b := by rw [UInt8.toNat_ofNat']; omega
  match j, hj with
  | 0, _ =>
    rw [show (Addr.add ⟨w.heap.size, 0, none⟩ 0) = ⟨w.heap.size, 0, none⟩ from rfl, cell_of_row _ _ 0 _ _ _ h0]
    show some (Value.int .u8 (a : Int)) = some (Value.int .u8 ((UInt8.ofNat a).toNat : Int))
    rw [ea]
  | 1, _ =>
    rw [show (Addr.add ⟨w.heap.size, 0, none⟩ 1) = ⟨w.heap.size, 1, none⟩ from rfl, cell_of_row _ _ 1 _ _ _ h0]
    show some (Value.int .u8 (b : Int)) = some (Value.int .u8 ((UInt8.ofNat b).toNat : Int))
    rw [eb]

set_option maxRecDepth 20000 in
set_option maxHeartbeats 1000000 in
theorem rcol_any (n : Int) (h0 : -9223372036854775808 ≤ n) (h1 : n ≤ 9223372036854775807) (w : World) :
    Calls Tryd.prog 9 #[.int .i64 n] w fun e w' => e = .returned (.string ⟨(colL n).toArray⟩) ∧ Below w.heap.size w w' := by
  by_cases hlo : n < 1
  · rw [colL_zero (.inl hlo)]
    clear h0 h1
    go_enter Tryd.func9, Tryd.ntmps9
    go_wp2
    go_ret
    exact ⟨rfl, Below.refl _ _⟩
  · by_cases hhi : 702 < n
    · rw [colL_zero (.inr hhi)]
      have h2 : 1 ≤ n := by omega
      clear h0 h1 hlo
      go_enter Tryd.func9, Tryd.ntmps9
      go_wp2
      go_ret
      exact ⟨rfl, Below.refl _ _⟩
    · by_cases hm : n < 27
      · have e : colL n = [UInt8.ofNat (64 + n.toNat)] := by unfold colL; rw [if_neg (by omega), if_pos hm]
        rw [e]; clear e
        obtain ⟨a, ha⟩ : ∃ a : Nat, 64 + n.toNat = a := ⟨_, rfl⟩
        have ha2 : 64 + n = (a : Int) := by omega
        have hcv := fun W => conv1c W a (by omega)
        have hw1 : IntKind.i64.wrap (64 + n) = (a : Int) := by rw [IntKind.wrap_i64]; omega
        have hw2 : IntKind.u8.wrap (a : Int) = (a : Int) := by rw [IntKind.wrap_u8]; omega
        have hw3 : wrap64 (64 + n) = (a : Int) := by unfold wrap64; omega
        have hn1 : 1 ≤ n := by omega
        have hn2 : n ≤ 702 := by omega
        rw [ha]
        clear h0 h1 hlo hhi ha ha2
        go_enter Tryd.func9, Tryd.ntmps9
        go_wp2
        go_ret
        exact ⟨rfl, below_alloc w _⟩
      · have e : colL n = [UInt8.ofNat (65 + (n.toNat - 27) / 26), UInt8.ofNat (65 + (n.toNat - 27) % 26)] := by unfold colL; rw [if_neg (by omega), if_neg (by omega)]
        rw [e]; clear e
        have hn1 : 1 ≤ n := by omega
        have hn2 : n ≤ 702 := by omega
        have hn3 : 27 ≤ n := by omega
        obtain ⟨a, ha⟩ : ∃ a : Nat, 65 + (n.toNat - 27) / 26 = a := ⟨_, rfl⟩
        obtain ⟨b, hb⟩ : ∃ b : Nat, 65 + (n.toNat - 27) % 26 = b := ⟨_, rfl⟩
        have ea : 65 + (n - 27) / 26 = (a : Int) := by omega
        have eb : 65 + (n - 27) % 26 = (b : Int) := by omega
        have hcv := fun W => conv2c W a b (by omega) (by omega)
        rw [← ea, ← eb] at hcv
        rw [ha, hb]
        clear h0 h1 hlo hhi hm ha hb ea eb
        go_enter Tryd.func9, Tryd.ntmps9
        go_wp2
        go_ret
        exact ⟨rfl, below_alloc w _⟩

end Go.Proofs.YtggdpnkfambmfaaDoor
