/-
The reference's Parse, by its contract: nothing.
-/
import Derived.Test.YthfgpmiammfcaaaDoorParseR
namespace Go.Proofs.YthfgpmiammfcaaaDoor
open Go.RowKit
open Num (digs valD cutL Ten)

set_option maxRecDepth 20000 in
set_option maxHeartbeats 4000000 in
theorem rparse_empty (s : ByteArray) (hs : s.size ≤ 60) (h0 : s.size = 0) (w : World) :
    Calls Tryd.prog 32 #[.string s] w fun e w' => e = .returned (.tuple #[.int .i64 (rAns false (rF s.data.toList)).1, .bool (rAns false (rF s.data.toList)).2]) ∧ Below w.heap.size w w' := by
  go_enter Tryd.func32, Tryd.ntmps32
  go_wp2
  go_loopw [5, 6, 7] (fun pv hv iv wr => ∃ (k : Nat) (p : Int) (h n : Nat) (v : Value), pv = .int .i64 p ∧ hv = .int .i64 (h : Int) ∧ iv = .int .i64 (k : Int) ∧ k ≤ s.size ∧ -1 ≤ p ∧ p ≤ k ∧ h ≤ k ∧ (digs n).length ≤ k ∧ PSt w.heap.size false wr v n ∧ Below w.heap.size w wr ∧ Hid (rF (s.data.toList.take k) = some (p, h, n)))
    (fun _ _ i _ => s.size - (intOf i).toNat)
  case atStart =>
    refine ⟨0, -1, 0, 0, .slice none 0 0, rfl, rfl, rfl, by omega, by omega, by omega, by omega, by rw [Num.digs_zero]; exact Nat.le_refl _, ⟨?_, ?_, ?_, by rw [Num.digs_zero]; exact Own.nil _ _, by simp⟩, (Below.refl _ w).alloc (Nat.le_refl _) _, rfl⟩
    · rw [cell_of_row _ _ 0 _ _ _ (heap_alloc_new w _)]; rfl
    · rw [cell_of_row _ _ 1 _ _ _ (heap_alloc_new w _)]; rfl
    · exact frozen_of_row _ _ 1 _ _ (heap_alloc_new w _)
  case round =>
    obtain ⟨k, p, h, n, v, rfl, rfl, rfl, hk, hp, hpk, hhk, hnk, hst, hbel, heq⟩ := hrel
    obtain ⟨hc0, hc1, hf1, hown, hB⟩ := hst
    obtain ⟨pa, ca, rfl⟩ := hown.lens rfl
    have hbs := hbel.size
    by_cases hgo : k < s.size
    · exact absurd hgo (by omega)
    · obtain rfl : k = s.size := by omega
      have hfin := heq.out
      rw [List.take_of_length_le (by simp)] at hfin
      have HF := Lib.hid hfin; clear hfin
      have j1 : h = 0 := by omega
      have hans : rAns false (rF s.data.toList) = (0, false) := by
        rw [HF.out]; simp only [rAns]; rw [if_pos (Or.inl j1)]
      have HA := Lib.hid hans; clear hans
      go_wp2
      all_goals go_ret2
      all_goals exact ⟨by rw [HA.out]; rfl, hbel⟩

end Go.Proofs.YthfgpmiammfcaaaDoor
