/-
Reader.Int, by a contract.
-/
import Derived.Test.YtepafmoohlognaaWRNum
import Derived.Test.YtepafmoohlognaaWLeft
namespace Go.Proofs.Ytepafmoohlognaa
open Go.RowKit
open Wire (numL valL takeL runL bytesL)

theorem numS_eq (xs : List Nat) (bad : Bool) : numS xs bad = leftS xs bad (takeL xs).2 := rfl

set_option maxRecDepth 20000 in
set_option maxHeartbeats 1000000 in
theorem int_form (B g : Nat) (v : Value) (xs : List Nat) (bad : Bool) (most : Int) (w : World) (h : Rr B w g v xs bad) (hl : xs.length ≤ 100000) (hx : ∀ x ∈ xs, x < 256) (hm1 : -9223372036854775808 ≤ most) (hm2 : most ≤ 9223372036854775807) :
    Calls Try.prog 35 #[.pointer (some ⟨g, 0, none⟩), .int .i64 most] w fun e w' => e = .returned (.int .i64 (intV xs most : Nat)) ∧ (∃ v', Rr B w' g v' (leftS xs bad (intN xs most)).1 (leftS xs bad (intN xs most)).2) ∧ KeptG g w w' := by
  obtain ⟨A, n, c, rfl, hn⟩ := h.2.2.1.named
  have hnum := num_form B g n c A xs bad w h (by omega) hn hx
  have hbx := h.2.2.2.2
  have hlt := (Wire.takeL_le xs).2
  have hfail : leftS xs bad 0 = ([], true) := rfl
  have HFL := Lib.hid hfail
  by_cases htk : (takeL xs).2 = 0
  · have e1 : intV xs most = 0 := if_pos (Or.inl htk)
    have e2 : intN xs most = 0 := if_pos (Or.inl htk)
    have e3 : numS xs bad = ([], true) := if_pos htk
    rw [e1, e2, hfail]
    rw [e3] at hnum
    have htz := Wire.takeL_zero htk
    rw [htz] at hnum
    have HNUM := Lib.hid hnum
    clear hnum h hn hbx hlt hfail e1 e2 e3 htk hl hx htz
    by_cases hneg : most < 0
    · go_enter Try.func35, Try.ntmps35
      go_wp2_with (first
        | (go_at_call 36; (with_reducible refine (HNUM.out).mono ?_); rintro e w1 ⟨rfl, ⟨v1, hr1⟩, hk1⟩; have c1 := hr1.cell1; have HR1 := Lib.hid hr1; clear hr1)
        | (go_at_call 40; (with_reducible refine (fail_any _ _ _ _ _ _ HR1.out).mono ?_); rintro e w2 ⟨⟨r, rfl⟩, hr2, hk2⟩; have HR2 := Lib.hid hr2; clear hr2))
      go_ret
      exact ⟨rfl, ⟨_, HR2.out⟩, hk1.trans hk2⟩
    · have hpos : 0 ≤ most := by omega
      clear hneg
      go_enter Try.func35, Try.ntmps35
      go_wp2_with (go_at_call 36; (with_reducible refine (HNUM.out).mono ?_); rintro e w1 ⟨rfl, ⟨v1, hr1⟩, hk1⟩; have c1 := hr1.cell1; have HR1 := Lib.hid hr1; clear hr1)
      go_ret
      exact ⟨rfl, ⟨_, HR1.out⟩, hk1⟩
  · have hbad : bad = false := by
      cases hbd : bad
      · rfl
      · rw [hbx hbd, Wire.take_none (b := []) (fun j y _ h => by simp at h)] at htk
        exact absurd rfl htk
    subst hbad
    have e3 : numS xs false = (xs.drop (takeL xs).2, false) := if_neg htk
    rw [e3] at hnum
    by_cases hgt : most < ((takeL xs).1 : Int)
    · have e1 : intV xs most = 0 := if_pos (Or.inr hgt)
      have e2 : intN xs most = 0 := if_pos (Or.inr hgt)
      rw [e1, e2, hfail]
      generalize (takeL xs).1 = tn at *
      generalize (takeL xs).2 = tk at *
      have HNUM := Lib.hid hnum
      clear hnum h hn hbx hfail e1 e2 e3 htk hl hx
      by_cases hneg : most < 0
      · clear hgt
        go_enter Try.func35, Try.ntmps35
        go_wp2_with (first
          | (go_at_call 36; (with_reducible refine (HNUM.out).mono ?_); rintro e w1 ⟨rfl, ⟨v1, hr1⟩, hk1⟩; have c1 := hr1.cell1; have HR1 := Lib.hid hr1; clear hr1)
          | (go_at_call 40; (with_reducible refine (fail_any _ _ _ _ _ _ HR1.out).mono ?_); rintro e w2 ⟨⟨r, rfl⟩, hr2, hk2⟩; have HR2 := Lib.hid hr2; clear hr2))
        go_ret
        exact ⟨rfl, ⟨_, HR2.out⟩, hk1.trans hk2⟩
      · have hpos : 0 ≤ most := by omega
        clear hneg
        go_enter Try.func35, Try.ntmps35
        go_wp2_with (first
          | (go_at_call 36; (with_reducible refine (HNUM.out).mono ?_); rintro e w1 ⟨rfl, ⟨v1, hr1⟩, hk1⟩; have c1 := hr1.cell1; have HR1 := Lib.hid hr1; clear hr1)
          | (go_at_call 40; (with_reducible refine (fail_any _ _ _ _ _ _ HR1.out).mono ?_); rintro e w2 ⟨⟨r, rfl⟩, hr2, hk2⟩; have HR2 := Lib.hid hr2; clear hr2))
        go_ret
        exact ⟨rfl, ⟨_, HR2.out⟩, hk1.trans hk2⟩
    · have e1 : intV xs most = (takeL xs).1 := if_neg (by omega)
      have e2 : intN xs most = (takeL xs).2 := if_neg (by omega)
      have e4 : leftS xs false (takeL xs).2 = (xs.drop (takeL xs).2, false) := if_neg htk
      rw [e1, e2, e4]
      have hle : ((takeL xs).1 : Int) ≤ most := by omega
      generalize (takeL xs).1 = tn at *
      generalize (takeL xs).2 = tk at *
      have HNUM := Lib.hid hnum
      have hpos : 0 ≤ most := by omega
      clear hnum h hn hbx hfail e1 e2 e3 e4 htk hl hx hgt
      go_enter Try.func35, Try.ntmps35
      go_wp2_with (go_at_call 36; (with_reducible refine (HNUM.out).mono ?_); rintro e w1 ⟨rfl, ⟨v1, hr1⟩, hk1⟩; have c1 := hr1.cell1; have HR1 := Lib.hid hr1; clear hr1)
      go_ret
      exact ⟨rfl, ⟨_, HR1.out⟩, hk1⟩
end Go.Proofs.Ytepafmoohlognaa
