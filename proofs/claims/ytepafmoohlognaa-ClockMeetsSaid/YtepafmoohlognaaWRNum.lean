/-
Reader.Num, by a contract.
-/
import Derived.Test.YtepafmoohlognaaWRFirst
namespace Go.Proofs.Ytepafmoohlognaa
open Go.RowKit
open Wire (numL valL takeL runL bytesL)

/-- What is left, and whether it has failed, behind a Num. -/
noncomputable def numS (xs : List Nat) (bad : Bool) : List Nat × Bool := if (takeL xs).2 = 0 then ([], true) else (xs.drop (takeL xs).2, bad)

set_option maxRecDepth 20000 in
set_option maxHeartbeats 2000000 in
theorem num_form (B g n c : Nat) (A : Option Addr) (xs : List Nat) (bad : Bool) (w : World) (h : Rr B w g (.slice A n c) xs bad) (hl : n ≤ 100000) (hn : n = xs.length) (hx : ∀ x ∈ xs, x < 256) :
    Calls Try.prog 36 #[.pointer (some ⟨g, 0, none⟩)] w fun e w' => e = .returned (.int .u64 ((takeL xs).1 : Nat)) ∧ (∃ v', Rr B w' g v' (numS xs bad).1 (numS xs bad).2) ∧ KeptG g w w' := by
  have c0 := h.cell0
  have f0 := h.fr0
  have HR := Lib.hid h
  have hfirst := first_form n c A xs w h.2.2.1 hl hn hx
  have hle := (Wire.takeL_le xs).1
  have hz := fun e => Wire.takeL_zero (b := xs) e
  have hbad := h.2.2.2.2
  unfold numS
  rw [← hn] at hle
  by_cases h0 : (takeL xs).2 = 0
  · rw [if_pos h0]
    rw [hz h0, h0] at hfirst
    rw [hz h0]
    have HF := Lib.hid hfirst
    clear hfirst hle hz h0 hn hx h hbad
    go_enter Try.func36, Try.ntmps36
    go_wp2_with (first
      | (go_at_call 41; (with_reducible refine (HF.out).mono ?_); rintro e w1 ⟨rfl, rfl⟩)
      | (go_at_call 40; (with_reducible refine (fail_any _ _ _ _ _ _ HR.out).mono ?_); rintro e w2 ⟨⟨r, rfl⟩, hr2, hk2⟩; have HR2 := Lib.hid hr2; clear hr2))
    go_ret
    exact ⟨rfl, ⟨_, HR2.out⟩, hk2⟩
  · rw [if_neg h0]
    have hr1 := HR.out.set0 (HR.out.2.2.1.cutV (takeL xs).2 hle) (by rw [sliceV_own]; exact HR.out.2.2.2.1) (fun e => by
      have e2 := hbad e
      rw [e2, List.length_nil] at hn
      omega)
    have hq := fun W => slice_run A n c (takeL xs).2 hle W
    obtain ⟨AA, p, cc, hsv⟩ : ∃ AA p cc, sliceV A n c (takeL xs).2 = .slice AA p cc := ⟨_, _, _, rfl⟩
    rw [hsv] at hq hr1
    have HR1 := Lib.hid hr1
    have HF := Lib.hid hfirst
    clear hfirst hr1 hsv hz hn hx h hbad
    generalize (takeL xs).1 = tn at *
    generalize (takeL xs).2 = tk at *
    have tz : ((tk : Int) == 0) = false := by simp; exact h0
    clear h0
    go_enter Try.func36, Try.ntmps36
    go_wp2_with (go_at_call 41; (with_reducible refine (HF.out).mono ?_); rintro e w1 ⟨rfl, rfl⟩)
    go_ret
    exact ⟨rfl, ⟨_, HR1.out.1⟩, HR1.out.2⟩
end Go.Proofs.Ytepafmoohlognaa
