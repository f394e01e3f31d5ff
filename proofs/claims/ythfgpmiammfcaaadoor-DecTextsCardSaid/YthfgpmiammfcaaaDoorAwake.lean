/-
The law's awake and same, by contracts.
-/
import Derived.Test.YthfgpmiammfcaaaDoorDecP
import Derived.Test.YthfgpmiammfcaaaDoorDecQ
namespace Go.Proofs.YthfgpmiammfcaaaDoor
open Go.RowKit

theorem parse_awake : parseL [49, 46, 53, 48] = (1500000, true) := by decide +kernel
theorem text_awake : textL 1500000 = [49, 46, 53] := by decide +kernel

theorem div_awake (a r : Int) (ha : 0 ≤ a) (ha2 : a ≤ 2000000) (hr : toI (sgn (!decide (a < 0) == decide ((3000000 : Int) < 0)) (rnd (a.natAbs * 1000000) 3000000)) = (r, 0)) (w : World) :
    Calls Tryd.prog 23 #[.int .i64 a, .int .i64 3000000] w fun e w' => e = .returned (.tuple #[.int .i64 r, .int .i64 0]) ∧ Below w.heap.size w w' := by
  have h := div_any a 3000000 (by unfold I64; omega) (by unfold I64; omega) (by omega) (.inl (by
    rw [Nat.div_eq_of_lt (by omega), Nat.mod_eq_of_lt (by omega)]
    exact div64_lo _ _ (by omega) (by decide) (by decide))) w
  rw [show (3000000 : Int).natAbs = 3000000 from rfl, hr] at h
  exact h

set_option maxRecDepth 20000 in
set_option maxHeartbeats 1000000 in
/-- awake. -/
theorem awake_any (w : World) (hE : Env w) :
    Calls Tryd.prog 14 #[] w fun e w' => e = .returned (.bool true) ∧ Below w.heap.size w w' := by
  have hp := parse_any ⟨#[49, 46, 53, 48]⟩ (by decide) w hE
  rw [show (⟨#[49, 46, 53, 48]⟩ : ByteArray).data.toList = [49, 46, 53, 48] from rfl, parse_awake] at hp
  have hd1 := fun w => div_awake 1000000 333333 (by omega) (by omega) (by decide +kernel) w
  have hd2 := fun w => div_awake 2000000 666667 (by omega) (by omega) (by decide +kernel) w
  have ht := fun w hE => text_any 1500000 (by unfold I64; omega) w hE
  rw [text_awake] at ht
  go_enter Tryd.func14, Tryd.ntmps14
  go_wp2_with fail
  go_must (refine hp.mono ?_); rintro e w1 ⟨rfl, hb1⟩
  go_wp2_with fail
  go_must (refine (hd1 _).mono ?_); rintro e w2 ⟨rfl, hb2⟩
  go_wp2_with fail
  go_must (refine (hd2 _).mono ?_); rintro e w3 ⟨rfl, hb3⟩
  have hb12 := hb1.trans (hb2.mono hb1.size)
  have hb13 := hb12.trans (hb3.mono hb12.size)
  have hE3 := hE.below hb13
  go_wp2_with fail
  go_must (refine (ht _ hE3).mono ?_); rintro e w4 ⟨rfl, hb4⟩
  have hb5 := hb13.trans (hb4.mono hb13.size)
  go_wp2
  go_ret
  exact ⟨rfl, hb5⟩

/-- same, at an answer and itself. -/
theorem same_any (a e : Int) (ha : I64 a) (he : I64 e) (w : World) :
    Calls Tryd.prog 13 #[.int .i64 a, .int .i64 e, .int .i64 a, .int .i64 e] w fun r w' => r = .returned (.bool true) ∧ w = w' := by
  obtain ⟨ha1, ha2⟩ := ha
  obtain ⟨he1, he2⟩ := he
  go_enter Tryd.func13, Tryd.ntmps13
  go_wp2
  go_ret
  exact ⟨rfl, rfl⟩
theorem toI_i64 (z : Int) : I64 (toI z).1 ∧ I64 (toI z).2 := by
  unfold toI
  split
  · rename_i h; exact ⟨h, i64_zero⟩
  · exact ⟨i64_zero, by unfold I64; omega⟩
end Go.Proofs.YthfgpmiammfcaaaDoor
