/-
The reference of stage 5: Same, by a contract.
-/
import Derived.Test.YtfgopiopeidfmaaDoorSPut
namespace Go.Proofs.YtfgopiopeidfmaaDoor
open Go.RowKit

theorem ite2n_pos {x t : Nat} {y r : Int} (h : x = t ∧ y = r) : ∀ (α : Type) (a b : α), (if (x : Int) = (t : Int) then (if y = r then a else b) else b) = a := ite2_pos h

theorem take_succ_eq {l m : List (Nat × Int)} {k : Nat} {x y : Nat × Int} (hx : l[k]? = some x) (hy : m[k]? = some y) (h : l.take k = m.take k) (e : x = y) : l.take (k + 1) = m.take (k + 1) := by
  rw [List.take_add_one, List.take_add_one, hx, hy, h, e]

theorem Below.drewN (B : Nat) (w : World) (n : Nat) : Below B w (w.drewN n) := ⟨rfl, rfl, rfl, Nat.le_refl _, fun _ _ => rfl⟩

set_option maxRecDepth 20000 in
set_option maxHeartbeats 1000000 in
theorem rsame_form (l m : List (Nat × Int)) (n1 c1 : Nat) (A1 : Option Addr) (n2 c2 : Nat) (A2 : Option Addr) (hn1 : n1 = l.length) (hn2 : n2 = m.length) (hl : n1 ≤ 100000) (hl2 : n2 ≤ 100000) (w : World) (h1 : RdI w (.slice A1 n1 c1) l) (h2 : RdI w (.slice A2 n2 c2) m) :
    Calls Tryd.prog 14 #[.slice A1 n1 c1, .slice A2 n2 c2] w fun e w' => e = .returned (.bool (decide (l = m))) ∧ Below w.heap.size w w' := by
  have HN1 := Lib.hid hn1
  have HN2 := Lib.hid hn2
  have HR1 := Lib.hid h1
  have HR2 := Lib.hid h2
  clear h1 h2
  by_cases hne : n1 = n2
  · clear hn1 hn2
    subst hne
    go_enter Tryd.func14, Tryd.ntmps14
    go_wp2
    go_loopw [5] (fun i wr => ∃ (k : Nat), k ≤ n1 ∧ i = .int .i64 (k : Int) ∧ Hid (Below w.heap.size w wr) ∧ Hid (l.take k = m.take k)) (fun i _ => n1 - (intOf i).toNat)
    case atStart => exact ⟨0, Nat.zero_le _, rfl, Lib.hid (Below.refl _ _), Lib.hid rfl⟩
    case round =>
      obtain ⟨k, hk, rfl, HB, HT⟩ := hrel
      by_cases hkn : k < n1
      · obtain ⟨x, hx⟩ : ∃ x, l[k]? = some x := ⟨_, List.getElem?_eq_getElem (by rw [← HN1.out]; exact hkn)⟩
        obtain ⟨y, hy⟩ : ∃ y, m[k]? = some y := ⟨_, List.getElem?_eq_getElem (by rw [← HN2.out]; exact hkn)⟩
        obtain ⟨b1, o1, rfl, hc1⟩ := HR1.out.at_ hx
        obtain ⟨b2, o2, rfl, hc2⟩ := HR2.out.at_ hy
        obtain ⟨p0, p1⟩ := hc1 wr HB.out
        obtain ⟨q0, q1⟩ := hc2 wr HB.out
        have HX := Lib.hid hx
        have HY := Lib.hid hy
        clear hx hy hc1 hc2
        by_cases hxy : x.1 = y.1 ∧ x.2 = y.2
        · have hT := take_succ_eq HX.out HY.out HT.out (Prod.ext hxy.1 hxy.2)
          have HT2 := Lib.hid hT
          obtain ⟨x1, x2⟩ := x
          obtain ⟨y1, y2⟩ := y
          obtain ⟨e1, e2⟩ := hxy
          simp only at e1 e2 p0 p1 q0 q1
          clear HX HY
          subst e1 e2
          clear hT
          go_wp2
          go_quiet (fail)
          go_wp2
          go_roundw
          case rel => exact ⟨k + 1, by omega, by go_num, Lib.hid (HB.out.trans (Below.drewN _ _ _ |>.mono HB.out.size)), HT2⟩
          case measure => simp [intOf]; omega
        · have hlm : l ≠ m := fun e => by
            have := HX.out
            rw [e, HY.out] at this
            injection this with this
            exact hxy ⟨congrArg Prod.fst this.symm, congrArg Prod.snd this.symm⟩
          have hnest := ite2_neg hxy
          have HLM := Lib.hid hlm
          clear hlm hxy
          go_wp2
          go_quiet (fail)
          go_wp2
          go_ret
          exact ⟨by rw [decide_eq_false HLM.out]; rfl, HB.out.trans (Below.drewN _ _ _ |>.mono HB.out.size)⟩
      · obtain rfl : k = n1 := by omega
        have hlm : l = m := by
          have := HT.out
          rw [List.take_of_length_le (by have := HN1.out; omega), List.take_of_length_le (by have := HN2.out; omega)] at this
          exact this
        have HLM := Lib.hid hlm
        clear hlm hkn
        go_wp2
        go_ret
        exact ⟨by rw [decide_eq_true HLM.out]; rfl, HB.out⟩
  · have hlm : l ≠ m := fun e => hne (by rw [hn1, hn2, e])
    rw [decide_eq_false hlm]
    have t0 : ((n1 : Int) == (n2 : Int)) = false := by simp; omega
    have t1 : ((n1 : Int) != (n2 : Int)) = true := by simp; omega
    clear hlm hn1 hn2 hne
    go_enter Tryd.func14, Tryd.ntmps14
    go_wp2
    go_ret
    exact ⟨rfl, Below.refl _ _⟩
end Go.Proofs.YtfgopiopeidfmaaDoor
