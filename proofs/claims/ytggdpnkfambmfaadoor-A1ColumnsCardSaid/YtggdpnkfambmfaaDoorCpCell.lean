/-
The program's a1.Cell.Right and Text, by contracts.
-/
import Derived.Test.YtggdpnkfambmfaaDoorCpCol
namespace Go.Proofs.YtggdpnkfambmfaaDoor
open Go.RowKit Go.Proofs.YtggdpnkfambmfaaDoor.Dig

set_option maxRecDepth 20000 in
theorem right_any (c r : Int) (w : World) :
    Calls Tryd.prog 15 #[cellV c r] w fun e w' => e = .returned (.bool (rightC c r)) ∧ Below w.heap.size w w' := by
  obtain ⟨p0, p1⟩ := box_newC w rfl c r 27
  have hB := below_alloc w (.cells #[.int .i64 c, .int .i64 r] 27)
  have HB := Lib.hid hB
  clear hB
  unfold cellV
  by_cases h1 : 1 ≤ c
  · by_cases h2 : c ≤ 702
    · by_cases h3 : 1 ≤ r
      · by_cases h4 : r ≤ 9999
        · have e : rightC c r = true := rightC_iff.2 ⟨h1, h2, h3, h4⟩
          rw [e]; clear e
          go_enter Tryd.func15, Tryd.ntmps15
          go_wp2
          go_ret
          exact ⟨rfl, HB.out⟩
        · have e : rightC c r = false := by unfold rightC; exact decide_eq_false (by omega)
          have hd : decide (r ≤ 9999) = false := decide_eq_false (by omega)
          have h4' : 9999 < r := by omega
          rw [e]; clear e h4
          go_enter Tryd.func15, Tryd.ntmps15
          go_wp2
          go_ret
          exact ⟨by first | rfl | (simp only [hd]; rfl), HB.out⟩
      · have e : rightC c r = false := by unfold rightC; exact decide_eq_false (by omega)
        have h3' : r < 1 := by omega
        rw [e]; clear e h3
        go_enter Tryd.func15, Tryd.ntmps15
        go_wp2
        go_ret
        exact ⟨rfl, HB.out⟩
    · have e : rightC c r = false := by unfold rightC; exact decide_eq_false (by omega)
      have h2' : 702 < c := by omega
      rw [e]; clear e h2
      go_enter Tryd.func15, Tryd.ntmps15
      go_wp2
      go_ret
      exact ⟨rfl, HB.out⟩
  · have e : rightC c r = false := by unfold rightC; exact decide_eq_false (by omega)
    have h1' : c < 1 := by omega
    rw [e]; clear e h1
    go_enter Tryd.func15, Tryd.ntmps15
    go_wp2
    go_ret
    exact ⟨rfl, HB.out⟩
end Go.Proofs.YtggdpnkfambmfaaDoor
