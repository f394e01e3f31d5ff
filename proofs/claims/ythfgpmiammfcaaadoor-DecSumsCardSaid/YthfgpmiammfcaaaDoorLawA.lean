/-
The laws DecSums, DecBack and DecWholes, walked.
-/
import Derived.Test.YthfgpmiammfcaaaDoorAwake
import Derived.Test.YthfgpmiammfcaaaDoorRefI
namespace Go.Proofs.YthfgpmiammfcaaaDoor
open Go.RowKit
open Num (digs valD cutL Ten)

set_option maxRecDepth 20000 in
set_option maxHeartbeats 2000000 in
theorem law_sums (a b : Int) (ha : I64 a) (hb : I64 b) (w : World) (hE : Env w) :
    Calls Tryd.prog 3 #[.int .i64 a, .int .i64 b] w fun e w' => e = .returned (.bool true) ∧ Below w.heap.size w w' := by
  have s1 := toI_i64 (a + b)
  have s2 := toI_i64 (a - b)
  have s3 := toI_i64 (-a)
  have c1 := fun w => add_any a b ha hb w
  have c2 := fun w => radd_any a b ha hb w
  have c3 := fun w => sub_any a b ha hb w
  have c4 := fun w => rsub_any a b ha hb w
  have c5 := fun w => neg_any a ha w
  have c6 := fun w => rsub_any 0 a i64_zero ha w
  rw [Int.zero_sub] at c6
  obtain ⟨x, hx⟩ : ∃ x, toI (a + b) = x := ⟨_, rfl⟩
  obtain ⟨y, hy⟩ : ∃ x, toI (a - b) = x := ⟨_, rfl⟩
  obtain ⟨z, hz⟩ : ∃ x, toI (-a) = x := ⟨_, rfl⟩
  rw [hx] at s1 c1 c2
  rw [hy] at s2 c3 c4
  rw [hz] at s3 c5 c6
  obtain ⟨x1, x2⟩ := x
  obtain ⟨y1, y2⟩ := y
  obtain ⟨z1, z2⟩ := z
  clear hx hy hz
  have d1 := fun w => same_any x1 x2 s1.1 s1.2 w
  have d2 := fun w => same_any y1 y2 s2.1 s2.2 w
  have d3 := fun w => same_any z1 z2 s3.1 s3.2 w
  go_enter Tryd.func3, Tryd.ntmps3
  go_wp2_with fail
  go_must (refine (c1 _).mono ?_); rintro e w' ⟨rfl, rfl⟩
  go_wp2_with fail
  go_must (refine (c2 _).mono ?_); rintro e w2 ⟨rfl, hb2⟩
  go_wp2_with fail
  go_must (refine (c3 _).mono ?_); rintro e w' ⟨rfl, rfl⟩
  go_wp2_with fail
  go_must (refine (c4 _).mono ?_); rintro e w3 ⟨rfl, hb3⟩
  have hb13 := hb2.trans (hb3.mono hb2.size)
  go_wp2_with fail
  go_must (refine (c5 _).mono ?_); rintro e w' ⟨rfl, rfl⟩
  go_wp2_with fail
  go_must (refine (c6 _).mono ?_); rintro e w4 ⟨rfl, hb4⟩
  have hb14 := hb13.trans (hb4.mono hb13.size)
  go_wp2_with fail
  go_must (refine (d1 _).mono ?_); rintro e w' ⟨rfl, rfl⟩
  go_wp2_with fail
  go_must (refine (d2 _).mono ?_); rintro e w' ⟨rfl, rfl⟩
  go_wp2_with fail
  go_must (refine (d3 _).mono ?_); rintro e w' ⟨rfl, rfl⟩
  go_wp2_with fail
  go_must (refine (awake_any _ (hE.below hb14)).mono ?_); rintro e w5 ⟨rfl, hb5⟩
  go_wp2
  go_ret
  exact ⟨rfl, hb14.trans (hb5.mono hb14.size)⟩
end Go.Proofs.YthfgpmiammfcaaaDoor
