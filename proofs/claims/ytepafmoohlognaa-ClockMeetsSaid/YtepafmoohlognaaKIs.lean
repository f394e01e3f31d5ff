/-
What the laws of stage 6 share: is and short, by contracts.
-/
import Derived.Test.YtepafmoohlognaaKEq
namespace Go.Proofs.Ytepafmoohlognaa
open Go.RowKit

theorem Below.drewN' (B : Nat) (w : World) (n : Nat) : Below B w (w.drewN n) := ⟨rfl, rfl, rfl, Nat.le_refl _, fun _ _ => rfl⟩
theorem takeU_succ {l m : List Nat} {k x : Nat} (hx : l[k]? = some x) (hy : m[k]? = some x) (h : l.take k = m.take k) : l.take (k + 1) = m.take (k + 1) := by
  rw [List.take_add_one, List.take_add_one, hx, hy, h]

set_option maxRecDepth 20000 in
set_option maxHeartbeats 1000000 in
theorem is_form (xs F : List Nat) (n c : Nat) (A : Option Addr) (hn : n = xs.length) (hl : n ≤ 1000) (hF : F.length = 64) (w : World) (h : RdU w (.slice A n c) xs) :
    Calls Try.prog 10 #[.slice A n c, .agg (fullA F)] w fun e w' => e = .returned (.bool (decide (xs = cutF F))) ∧ Below w.heap.size w w' := by
  have HN := Lib.hid hn
  have HR := Lib.hid h
  have HROW := Lib.hid (row_new (w := w) rfl hF)
  have hb0 := below_alloc w (.cells (fullA F) 28)
  have HCUT := Lib.hid (fun W => rcut_form F hF W)
  have hcl : (cutF F).length ≤ 64 := by unfold cutF; rw [List.length_take]; omega
  obtain ⟨cs, hcs⟩ : ∃ cs, cs = cutF F := ⟨_, rfl⟩
  have HCUT := Lib.hid (fun W => rcut_form F hF W)
  rw [← hcs] at hcl HCUT ⊢
  have HCL := Lib.hid hcl
  clear hn h hF hcl hcs
  by_cases hne : n = cs.length
  · go_enter Try.func10, Try.ntmps10
    have HNE := Lib.hid hne
    clear hne
    go_wp2_with (first
      | (refine wp_loadF rfl _ rfl w.heap.size rfl _ HROW.out ?_)
      | (go_at_call 26; (with_reducible refine (HCUT.out _).mono ?_); rintro e w1 ⟨v1, rfl, ho1, hb1⟩; have HR1 := Lib.hid ho1.rd; (obtain ⟨A1, n1, c1, rfl, hn1⟩ := ho1.rd.named); rw [← HNE.out] at hn1; have hn2 := hn1.symm; subst hn2; have hx1 := hb0.trans (hb1.mono hb0.size); clear ho1))
    go_loopw [6] (fun i wr => ∃ (k : Nat), k ≤ n ∧ i = .int .i64 (k : Int) ∧ Hid (xs.take k = cs.take k ∧ Below w1.heap.size w1 wr)) (fun i _ => n - (intOf i).toNat)
    case atStart => exact ⟨0, Nat.zero_le _, rfl, Lib.hid ⟨rfl, Below.refl _ _⟩⟩
    case round =>
      obtain ⟨k, hk, rfl, HI⟩ := hrel
      have hxr := hx1.trans (HI.out.2.mono hx1.size)
      by_cases hkn : k < n
      · obtain ⟨x, hx⟩ : ∃ x, xs[k]? = some x := ⟨_, List.getElem?_eq_getElem (by rw [← HN.out]; exact hkn)⟩
        obtain ⟨y, hy⟩ : ∃ y, cs[k]? = some y := ⟨_, List.getElem?_eq_getElem (by rw [← HNE.out]; exact hkn)⟩
        obtain ⟨b1, o1, rfl, hc1⟩ := HR.out.at_ hx
        obtain ⟨b2, o2, rfl, hc2⟩ := HR1.out.at_ hy
        have p0 := hc1 wr hxr
        have q0 := hc2 wr HI.out.2
        have HX := Lib.hid hx
        have HY := Lib.hid hy
        clear hx hy hc1 hc2
        by_cases hxy : x = y
        · subst hxy
          have HT := Lib.hid (takeU_succ HX.out HY.out HI.out.1)
          go_wp2
          go_quiet (fail)
          go_wp2
          go_roundw
          case rel => exact ⟨k + 1, by omega, by go_num, Lib.hid ⟨HT.out, HI.out.2.trans (Below.drewN' _ _ _)⟩⟩
          case measure => simp [intOf]; omega
        · have hne2 : xs ≠ cs := fun e => by
            have := HX.out
            rw [e, HY.out] at this
            injection this with this
            exact hxy this.symm
          have HNE2 := Lib.hid hne2
          have t0 : ((x : Int) == (y : Int)) = false := by simp; omega
          have t1 : ((x : Int) != (y : Int)) = true := by simp; omega
          clear hxy hne2
          go_wp2
          go_quiet (fail)
          go_wp2
          go_ret
          exact ⟨by rw [decide_eq_false HNE2.out]; rfl, hxr.trans (Below.drewN' _ _ _)⟩
      · obtain rfl : k = n := by omega
        have heq : xs = cs := by
          have := HI.out.1
          rw [List.take_of_length_le (by rw [← HN.out]; exact Nat.le_refl _), List.take_of_length_le (by rw [← HNE.out]; exact Nat.le_refl _)] at this
          exact this
        have HEQ := Lib.hid heq
        clear heq hkn
        go_wp2
        go_ret
        exact ⟨by rw [decide_eq_true HEQ.out]; rfl, hxr⟩
  · have hne2 : xs ≠ cs := fun e => hne (by rw [HN.out, e])
    have HNE2 := Lib.hid hne2
    obtain ⟨m, hm⟩ : ∃ m, m = cs.length := ⟨_, rfl⟩
    have HM := Lib.hid hm
    rw [← hm] at hne
    have t0 : ((n : Int) == (m : Int)) = false := by simp; omega
    have t1 : ((n : Int) != (m : Int)) = true := by simp; omega
    clear hne2 hm hne
    go_enter Try.func10, Try.ntmps10
    go_wp2_with (first
      | (refine wp_loadF rfl _ rfl w.heap.size rfl _ HROW.out ?_)
      | (go_at_call 26; (with_reducible refine (HCUT.out _).mono ?_); rintro e w1 ⟨v1, rfl, ho1, hb1⟩; (obtain ⟨A1, n1, c1, rfl, hn1⟩ := ho1.rd.named); rw [← HM.out] at hn1; have hn2 := hn1.symm; subst hn2; have hx1 := hb0.trans (hb1.mono hb0.size); clear ho1))
    go_ret
    exact ⟨by rw [decide_eq_false HNE2.out]; rfl, hx1⟩

set_option maxRecDepth 20000 in
theorem short_form (n c : Nat) (A : Option Addr) (hl : n ≤ 9223372036854775807) (w : World) :
    Calls Try.prog 6 #[.slice A n c] w fun e w' => e = .returned (.bool (decide (n ≤ 64))) ∧ w = w' := by
  by_cases h : n ≤ 64
  · rw [decide_eq_true h]
    go_enter Try.func6, Try.ntmps6
    go_wp2
    go_ret
    exact ⟨by simp; omega, rfl⟩
  · rw [decide_eq_false h]
    go_enter Try.func6, Try.ntmps6
    go_wp2
    go_ret
    exact ⟨by simp; omega, rfl⟩
end Go.Proofs.Ytepafmoohlognaa
