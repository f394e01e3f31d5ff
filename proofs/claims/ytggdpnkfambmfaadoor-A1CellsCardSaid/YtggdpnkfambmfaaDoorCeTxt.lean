/-
The reference of stage 7: Right and Text, by contracts.
-/
import Derived.Test.YtggdpnkfambmfaaDoorCeRef
namespace Go.Proofs.YtggdpnkfambmfaaDoor
open Go.RowKit Go.Proofs.YtggdpnkfambmfaaDoor.Dig

set_option maxRecDepth 20000 in
theorem rright_anyC (c r : Int) (w : World) :
    Calls Tryd.prog 16 #[.int .i64 c, .int .i64 r] w fun e w' => e = .returned (.bool (rightC c r)) ∧ w' = w := by
  by_cases h1 : 1 ≤ c
  · by_cases h2 : c ≤ 702
    · by_cases h3 : 1 ≤ r
      · by_cases h4 : r ≤ 9999
        · have e : rightC c r = true := rightC_iff.2 ⟨h1, h2, h3, h4⟩
          rw [e]; clear e
          go_enter Tryd.func16, Tryd.ntmps16
          go_wp2
          go_ret
          exact ⟨rfl, by first | rfl | trivial⟩
        · have e : rightC c r = false := by unfold rightC; exact decide_eq_false (by omega)
          have hd : decide (r ≤ 9999) = false := decide_eq_false (by omega)
          have h4' : 9999 < r := by omega
          rw [e]; clear e h4
          go_enter Tryd.func16, Tryd.ntmps16
          go_wp2
          go_ret
          exact ⟨by first | rfl | (simp only [hd]; rfl), by first | rfl | trivial⟩
      · have e : rightC c r = false := by unfold rightC; exact decide_eq_false (by omega)
        have h3' : r < 1 := by omega
        rw [e]; clear e h3
        go_enter Tryd.func16, Tryd.ntmps16
        go_wp2
        go_ret
        exact ⟨rfl, by first | rfl | trivial⟩
    · have e : rightC c r = false := by unfold rightC; exact decide_eq_false (by omega)
      have h2' : 702 < c := by omega
      rw [e]; clear e h2
      go_enter Tryd.func16, Tryd.ntmps16
      go_wp2
      go_ret
      exact ⟨rfl, by first | rfl | trivial⟩
  · have e : rightC c r = false := by unfold rightC; exact decide_eq_false (by omega)
    have h1' : c < 1 := by omega
    rw [e]; clear e h1
    go_enter Tryd.func16, Tryd.ntmps16
    go_wp2
    go_ret
    exact ⟨rfl, by first | rfl | trivial⟩

theorem emp_str : (⟨#[]⟩ : ByteArray) = ⟨([] : List UInt8).toArray⟩ := rfl
set_option maxRecDepth 20000 in
theorem rtext_anyC (c r : Int) (h0 : -9223372036854775808 ≤ c ∧ c ≤ 9223372036854775807) (h1 : -9223372036854775808 ≤ r ∧ r ≤ 9223372036854775807) (w : World) :
    Calls Tryd.prog 17 #[.int .i64 c, .int .i64 r] w fun e w' => e = .returned (.string ⟨(textC c r).toArray⟩) ∧ Below w.heap.size w w' := by
  have hr := fun W => rright_anyC c r W
  unfold textC
  cases hc : rightC c r with
  | false =>
    rw [hc] at hr
    simp only [Bool.false_eq_true, if_false]
    clear hc h0 h1
    go_enter Tryd.func17, Tryd.ntmps17
    go_wp2_with (go_at_call 16; (with_reducible refine (hr _).mono ?_); rintro e w1 ⟨rfl, rfl⟩)
    go_ret
    exact ⟨rfl, Below.refl _ _⟩
  | true =>
    rw [hc] at hr
    simp only [if_true]
    have hcc := rightC_iff.1 hc
    have hcol := fun W => rcol_any c h0.1 h0.2 W
    have hdig := fun W => digits_any r (by omega) (by omega) W
    have hit : Lib.itoa r = Lib.decDigits r.toNat := by
      have e := Lib.itoa_nonneg r.toNat
      rw [show ((r.toNat : Nat) : Int) = r from by omega] at e
      exact e
    rw [hit] at hdig
    have hba : (⟨(colL c).toArray⟩ ++ ⟨(Lib.decDigits r.toNat).toArray⟩ : ByteArray) = ⟨(colL c ++ Lib.decDigits r.toNat).toArray⟩ := ba_app _ _
    have HBA := Lib.hid hba
    have hs1 := colL_len c
    have hs2 := dec_len 3 r.toNat (by omega)
    have hz1 : (⟨(colL c).toArray⟩ : ByteArray).size ≤ 2 := hs1
    have hz2 : (⟨(Lib.decDigits r.toNat).toArray⟩ : ByteArray).size ≤ 4 := hs2
    generalize (⟨(colL c).toArray⟩ : ByteArray) = sa at *
    generalize (⟨(Lib.decDigits r.toNat).toArray⟩ : ByteArray) = sb at *
    clear hc h0 h1 hcc hit hba hs1 hs2
    go_enter Tryd.func17, Tryd.ntmps17
    go_wp2_with (first
      | (go_at_call 16; (with_reducible refine (hr _).mono ?_); rintro e w1 ⟨rfl, rfl⟩)
      | (go_at_call 9; (with_reducible refine (hcol _).mono ?_); rintro e w2 ⟨rfl, hb2⟩)
      | (go_at_call 26; (with_reducible refine (hdig _).mono ?_); rintro e w3 ⟨rfl, hb3⟩))
    go_ret
    exact ⟨by rw [← HBA.out]; rfl, hb2.trans (hb3.mono hb2.size)⟩
end Go.Proofs.YtggdpnkfambmfaaDoor
