/-
The reference of stage 5: Less and Right, by contracts.
-/
import Derived.Test.YtfgopiopeidfmaaDoorBRead
namespace Go.Proofs.YtfgopiopeidfmaaDoor
open Go.RowKit

/-- A stamp. -/
def idV (t : Nat) (r : Int) : Value := .agg #[.int .u64 (t : Int), .int .i64 r]
def lessB (t : Nat) (r : Int) (t' : Nat) (r' : Int) : Bool := if t = t' then decide (r < r') else decide (t < t')
def rightB (t : Nat) (r : Int) : Bool := decide (t ≤ 1099511627776) && decide (0 ≤ r) && decide (r ≤ 64) && (decide (0 < t) || decide (0 < r))

set_option maxRecDepth 20000 in
theorem rless_any (t : Nat) (r : Int) (t' : Nat) (r' : Int) (w : World) :
    Calls Tryd.prog 7 #[idV t r, idV t' r'] w fun e w' => e = .returned (.bool (lessB t r t' r')) ∧ Below w.heap.size w w' := by
  unfold idV
  by_cases ht : t = t'
  · have e : lessB t r t' r' = decide (r < r') := if_pos ht
    rw [e]; clear e
    subst ht
    go_enter Tryd.func7, Tryd.ntmps7
    go_wp2
    go_ret
    exact ⟨rfl, (below_alloc w _).alloc (by simp) _⟩
  · have e : lessB t r t' r' = decide (t < t') := if_neg ht
    rw [e]; clear e
    have t0 : ((t : Int) == (t' : Int)) = false := by simp; omega
    have t1 : ((t : Int) != (t' : Int)) = true := by simp; omega
    clear ht
    go_enter Tryd.func7, Tryd.ntmps7
    go_wp2
    go_ret
    exact ⟨rfl, (below_alloc w _).alloc (by simp) _⟩

set_option maxRecDepth 20000 in
theorem rright_any (t : Nat) (r : Int) (w : World) :
    Calls Tryd.prog 11 #[idV t r] w fun e w' => e = .returned (.bool (rightB t r)) ∧ Below w.heap.size w w' := by
  unfold idV
  by_cases h1 : t ≤ 1099511627776
  · by_cases h2 : 0 ≤ r
    · by_cases h3 : r ≤ 64
      · by_cases h4 : 0 < t
        · have e : rightB t r = true := by simp [rightB, h1, h2, h3, h4]
          rw [e]; clear e
          go_enter Tryd.func11, Tryd.ntmps11
          go_wp2
          go_ret
          exact ⟨rfl, below_alloc w _⟩
        · by_cases h5 : 0 < r
          · have e : rightB t r = true := by simp [rightB, h1, h2, h3, h5]
            rw [e]; clear e
            have h4' : t ≤ 0 := by omega
            clear h4
            go_enter Tryd.func11, Tryd.ntmps11
            go_wp2
            go_ret
            exact ⟨rfl, below_alloc w _⟩
          · have e : rightB t r = false := by simp [rightB, h4, h5]
            rw [e]; clear e
            have h4' : t ≤ 0 := by omega
            have h5' : r ≤ 0 := by omega
            have d1 : decide (0 < t) = false := decide_eq_false h4
            have d2 : decide (0 < r) = false := decide_eq_false h5
            clear h4 h5
            go_enter Tryd.func11, Tryd.ntmps11
            go_wp2
            go_ret
            exact ⟨by first | rfl | (simp only [d1, d2]; rfl), below_alloc w _⟩
      · have e : rightB t r = false := by simp [rightB, h3]
        rw [e]; clear e
        have h3' : 64 < r := by omega
        clear h3
        go_enter Tryd.func11, Tryd.ntmps11
        go_wp2
        go_ret
        exact ⟨rfl, below_alloc w _⟩
    · have e : rightB t r = false := by simp [rightB, h2]
      rw [e]; clear e
      have h2' : r < 0 := by omega
      clear h2
      go_enter Tryd.func11, Tryd.ntmps11
      go_wp2
      go_ret
      exact ⟨rfl, below_alloc w _⟩
  · have e : rightB t r = false := by simp [rightB, h1]
    rw [e]; clear e
    have h1' : 1099511627776 < t := by omega
    clear h1
    go_enter Tryd.func11, Tryd.ntmps11
    go_wp2
    go_ret
    exact ⟨rfl, below_alloc w _⟩
end Go.Proofs.YtfgopiopeidfmaaDoor
