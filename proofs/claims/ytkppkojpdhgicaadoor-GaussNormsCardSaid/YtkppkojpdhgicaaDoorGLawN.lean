/-
The law GaussNorms, where an argument or the product is out of range.
-/
import Derived.Test.YtkppkojpdhgicaaDoorGNorm
namespace Go.Proofs.YtkppkojpdhgicaaDoor
open Go.RowKit Go.Proofs.YtkppkojpdhgicaaDoor.Gf

set_option maxRecDepth 20000 in
set_option maxHeartbeats 4000000 in
theorem norms_outx (a b c d : Int) (hr : ¬ Rg a b) (w : World) (hE : Env w) :
    Calls Tryd.prog 6 #[.agg #[.int .i64 a, .int .i64 b], .agg #[.int .i64 c, .int .i64 d]] w fun e w' => e = .returned (.bool true) ∧ Below w.heap.size w w' := by
  go_enter Tryd.func6, Tryd.ntmps6
  go_wp2_with fail
  go_must (refine (fits_f' a b hr _).mono ?_); rintro e1 w1 ⟨rfl, hb1⟩
  have HS1 := Lib.hid (Hd2.start hE hb1)
  clear hb1
  obtain ⟨_, _, hE1, hb1⟩ := HS1.out
  go_wp2_with fail
  go_must (refine (awake_any _ hE1).mono ?_); rintro e5 w5 ⟨rfl, hb5⟩
  have hbF := hb1.trans (hb5.mono hb1.size)
  go_wp2
  go_ret
  exact ⟨rfl, hbF⟩

set_option maxRecDepth 20000 in
set_option maxHeartbeats 4000000 in
theorem norms_outy (a b c d : Int) (hr : Rg a b) (hr2 : ¬ Rg c d) (w : World) (hE : Env w) :
    Calls Tryd.prog 6 #[.agg #[.int .i64 a, .int .i64 b], .agg #[.int .i64 c, .int .i64 d]] w fun e w' => e = .returned (.bool true) ∧ Below w.heap.size w w' := by
  go_enter Tryd.func6, Tryd.ntmps6
  go_wp2_with fail
  go_must (refine (fits_t' a b hr _).mono ?_); rintro e1 w1 ⟨rfl, hb1⟩
  have HS1 := Lib.hid (Hd2.start hE hb1)
  clear hb1
  obtain ⟨_, ⟨c0, c1⟩, _, _⟩ := HS1.out
  go_wp2_with fail
  go_must (refine (fits_f' c d hr2 _).mono ?_); rintro e2 w2 ⟨rfl, hb2⟩
  have HS2 := Lib.hid (HS1.out.below hb2)
  clear HS1 hb2 c0 c1
  obtain ⟨_, _, hE2, hb2⟩ := HS2.out
  go_wp2_with fail
  go_must (refine (awake_any _ hE2).mono ?_); rintro e5 w5 ⟨rfl, hb5⟩
  have hbF := hb2.trans (hb5.mono hb2.size)
  go_wp2
  go_ret
  exact ⟨rfl, hbF⟩

end Go.Proofs.YtkppkojpdhgicaaDoor
