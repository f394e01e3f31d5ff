/-
Reader.Num and Reader.Int, by contracts that also say where the bytes lie that are left.
-/
import Derived.Test.YtfgopiopeidfmaaDoorWRInt
namespace Go.Proofs.YtfgopiopeidfmaaDoor
open Go.RowKit
open Wire (numL valL takeL runL bytesL)

/-- The same block, or none. -/
def SameB (v v' : Value) : Prop := v'.ownBlock = none ∨ v'.ownBlock = v.ownBlock
theorem SameB.trans {v v' v'' : Value} (h : SameB v v') (k : SameB v' v'') : SameB v v'' := by
  rcases k with e | e
  · exact .inl e
  · rcases h with f | f
    · exact .inl (e.trans f)
    · exact .inr (e.trans f)

set_option maxRecDepth 20000 in
set_option maxHeartbeats 2000000 in
theorem numq_form (B g n c : Nat) (A : Option Addr) (xs : List Nat) (bad : Bool) (w : World) (h : Rr B w g (.slice A n c) xs bad) (hl : n ≤ 100000) (hn : n = xs.length) (hx : ∀ x ∈ xs, x < 256) :
    Calls Tryd.prog 38 #[.pointer (some ⟨g, 0, none⟩)] w fun e w' => e = .returned (.int .u64 ((takeL xs).1 : Nat)) ∧ (∃ v', Rr B w' g v' (numS xs bad).1 (numS xs bad).2 ∧ SameB (.slice A n c) v') ∧ KeptG g w w' := by
  have c0 := h.cell0
  have f0 := h.fr0
  have HR := Lib.hid h
  have hfirst := first_form n c A xs w h.2.2.1 hl hn hx
  have hle := (Wire.takeL_le xs).1
  have hz := fun e => Wire.takeL_zero (b := xs) e
  have hbad := h.2.2.2.2
  unfold numS
  rw [← hn] at hle
  by_cases h0 : (takeL xs).2 = 0
  · rw [if_pos h0]
    rw [hz h0, h0] at hfirst
    rw [hz h0]
    have HF := Lib.hid hfirst
    clear hfirst hle hz h0 hn hx h hbad
    go_enter Tryd.func38, Tryd.ntmps38
    go_wp2_with (first
      | (go_at_call 50; (with_reducible refine (HF.out).mono ?_); rintro e w1 ⟨rfl, rfl⟩)
      | (go_at_call 51; (with_reducible refine (fail_any _ _ _ _ _ _ HR.out).mono ?_); rintro e w2 ⟨⟨r, rfl⟩, hr2, hk2⟩; have HR2 := Lib.hid hr2; clear hr2))
    go_ret
    exact ⟨rfl, ⟨_, HR2.out, .inl rfl⟩, hk2⟩
  · rw [if_neg h0]
    have hr1 := HR.out.set0 (HR.out.2.2.1.cutV (takeL xs).2 hle) (by rw [sliceV_own]; exact HR.out.2.2.2.1) (fun e => by
      have e2 := hbad e
      rw [e2, List.length_nil] at hn
      omega)
    have hq := fun W => slice_run A n c (takeL xs).2 hle W
    obtain ⟨AA, p, cc, hsv⟩ : ∃ AA p cc, sliceV A n c (takeL xs).2 = .slice AA p cc := ⟨_, _, _, rfl⟩
    have hsb : SameB (.slice A n c) (.slice AA p cc) := by rw [← hsv]; exact .inr (sliceV_own ..)
    have HSB := Lib.hid hsb
    clear hsb
    rw [hsv] at hq hr1
    have HR1 := Lib.hid hr1
    have HF := Lib.hid hfirst
    clear hfirst hr1 hsv hz hn hx h hbad
    generalize (takeL xs).1 = tn at *
    generalize (takeL xs).2 = tk at *
    have tz : ((tk : Int) == 0) = false := by simp; exact h0
    clear h0
    go_enter Tryd.func38, Tryd.ntmps38
    go_wp2_with (go_at_call 50; (with_reducible refine (HF.out).mono ?_); rintro e w1 ⟨rfl, rfl⟩)
    go_ret
    exact ⟨rfl, ⟨_, HR1.out.1, HSB.out⟩, HR1.out.2⟩
set_option maxRecDepth 20000 in
set_option maxHeartbeats 1000000 in
theorem intq_form (B g : Nat) (v : Value) (xs : List Nat) (bad : Bool) (most : Int) (w : World) (h : Rr B w g v xs bad) (hl : xs.length ≤ 100000) (hx : ∀ x ∈ xs, x < 256) (hm1 : -9223372036854775808 ≤ most) (hm2 : most ≤ 9223372036854775807) :
    Calls Tryd.prog 39 #[.pointer (some ⟨g, 0, none⟩), .int .i64 most] w fun e w' => e = .returned (.int .i64 (intV xs most : Nat)) ∧ (∃ v', Rr B w' g v' (leftS xs bad (intN xs most)).1 (leftS xs bad (intN xs most)).2 ∧ SameB v v') ∧ KeptG g w w' := by
  obtain ⟨A, n, c, rfl, hn⟩ := h.2.2.1.named
  have hnum := numq_form B g n c A xs bad w h (by omega) hn hx
  have hbx := h.2.2.2.2
  have hlt := (Wire.takeL_le xs).2
  have hfail : leftS xs bad 0 = ([], true) := rfl
  have HFL := Lib.hid hfail
  by_cases htk : (takeL xs).2 = 0
  · have e1 : intV xs most = 0 := if_pos (Or.inl htk)
    have e2 : intN xs most = 0 := if_pos (Or.inl htk)
    have e3 : numS xs bad = ([], true) := if_pos htk
    rw [e1, e2, hfail]
    rw [e3] at hnum
    have htz := Wire.takeL_zero htk
    rw [htz] at hnum
    have HNUM := Lib.hid hnum
    clear hnum h hn hbx hlt hfail e1 e2 e3 htk hl hx htz
    by_cases hneg : most < 0
    · go_enter Tryd.func39, Tryd.ntmps39
      go_wp2_with (first
        | (go_at_call 38; (with_reducible refine (HNUM.out).mono ?_); rintro e w1 ⟨rfl, ⟨v1, hr1, hs1⟩, hk1⟩; have HS1 := Lib.hid hs1; clear hs1; have c1 := hr1.cell1; have HR1 := Lib.hid hr1; clear hr1)
        | (go_at_call 51; (with_reducible refine (fail_any _ _ _ _ _ _ HR1.out).mono ?_); rintro e w2 ⟨⟨r, rfl⟩, hr2, hk2⟩; have HR2 := Lib.hid hr2; clear hr2))
      go_ret
      exact ⟨rfl, ⟨_, HR2.out, .inl rfl⟩, hk1.trans hk2⟩
    · have hpos : 0 ≤ most := by omega
      clear hneg
      go_enter Tryd.func39, Tryd.ntmps39
      go_wp2_with (go_at_call 38; (with_reducible refine (HNUM.out).mono ?_); rintro e w1 ⟨rfl, ⟨v1, hr1, hs1⟩, hk1⟩; have HS1 := Lib.hid hs1; clear hs1; have c1 := hr1.cell1; have HR1 := Lib.hid hr1; clear hr1)
      go_ret
      exact ⟨rfl, ⟨_, HR1.out, HS1.out⟩, hk1⟩
  · have hbad : bad = false := by
      cases hbd : bad
      · rfl
      · rw [hbx hbd, Wire.take_none (b := []) (fun j y _ h => by simp at h)] at htk
        exact absurd rfl htk
    subst hbad
    have e3 : numS xs false = (xs.drop (takeL xs).2, false) := if_neg htk
    rw [e3] at hnum
    by_cases hgt : most < ((takeL xs).1 : Int)
    · have e1 : intV xs most = 0 := if_pos (Or.inr hgt)
      have e2 : intN xs most = 0 := if_pos (Or.inr hgt)
      rw [e1, e2, hfail]
      generalize (takeL xs).1 = tn at *
      generalize (takeL xs).2 = tk at *
      have HNUM := Lib.hid hnum
      clear hnum h hn hbx hfail e1 e2 e3 htk hl hx
      by_cases hneg : most < 0
      · clear hgt
        go_enter Tryd.func39, Tryd.ntmps39
        go_wp2_with (first
          | (go_at_call 38; (with_reducible refine (HNUM.out).mono ?_); rintro e w1 ⟨rfl, ⟨v1, hr1, hs1⟩, hk1⟩; have HS1 := Lib.hid hs1; clear hs1; have c1 := hr1.cell1; have HR1 := Lib.hid hr1; clear hr1)
          | (go_at_call 51; (with_reducible refine (fail_any _ _ _ _ _ _ HR1.out).mono ?_); rintro e w2 ⟨⟨r, rfl⟩, hr2, hk2⟩; have HR2 := Lib.hid hr2; clear hr2))
        go_ret
        exact ⟨rfl, ⟨_, HR2.out, .inl rfl⟩, hk1.trans hk2⟩
      · have hpos : 0 ≤ most := by omega
        clear hneg
        go_enter Tryd.func39, Tryd.ntmps39
        go_wp2_with (first
          | (go_at_call 38; (with_reducible refine (HNUM.out).mono ?_); rintro e w1 ⟨rfl, ⟨v1, hr1, hs1⟩, hk1⟩; have HS1 := Lib.hid hs1; clear hs1; have c1 := hr1.cell1; have HR1 := Lib.hid hr1; clear hr1)
          | (go_at_call 51; (with_reducible refine (fail_any _ _ _ _ _ _ HR1.out).mono ?_); rintro e w2 ⟨⟨r, rfl⟩, hr2, hk2⟩; have HR2 := Lib.hid hr2; clear hr2))
        go_ret
        exact ⟨rfl, ⟨_, HR2.out, .inl rfl⟩, hk1.trans hk2⟩
    · have e1 : intV xs most = (takeL xs).1 := if_neg (by omega)
      have e2 : intN xs most = (takeL xs).2 := if_neg (by omega)
      have e4 : leftS xs false (takeL xs).2 = (xs.drop (takeL xs).2, false) := if_neg htk
      rw [e1, e2, e4]
      have hle : ((takeL xs).1 : Int) ≤ most := by omega
      generalize (takeL xs).1 = tn at *
      generalize (takeL xs).2 = tk at *
      have HNUM := Lib.hid hnum
      have hpos : 0 ≤ most := by omega
      clear hnum h hn hbx hfail e1 e2 e3 e4 htk hl hx hgt
      go_enter Tryd.func39, Tryd.ntmps39
      go_wp2_with (go_at_call 38; (with_reducible refine (HNUM.out).mono ?_); rintro e w1 ⟨rfl, ⟨v1, hr1, hs1⟩, hk1⟩; have HS1 := Lib.hid hs1; clear hs1; have c1 := hr1.cell1; have HR1 := Lib.hid hr1; clear hr1)
      go_ret
      exact ⟨rfl, ⟨_, HR1.out, HS1.out⟩, hk1⟩
end Go.Proofs.YtfgopiopeidfmaaDoor
