/-
The reference's Floor and Mod, by contracts.
-/
import Derived.Test.YthfgpmiammfcaaaDoorRefJ
namespace Go.Proofs.YthfgpmiammfcaaaDoor
open Go.RowKit
open Num (digs valD cutL Ten)

theorem from_mil (w : World) :
    Calls Tryd.prog 18 #[.int .i64 1000000] w fun e w' => ∃ v, e = .returned (.agg #[.bool false, v]) ∧ Own w.heap.size w' v (digs 1000000) ∧ Below w.heap.size w w' := from_any 1000000 (by decide) (by decide) w

theorem floor_val {a : Int} {s : Bool} {c : Nat} (h : s = (decide (a < 0) != false) ∧ c = a.natAbs / 1000000 + (if (decide (a < 0) != false) = true ∧ a.natAbs % 1000000 ≠ 0 then 1 else 0)) : sgn s (c * 1000000) = a - a % 1000000 := by
  obtain ⟨rfl, rfl⟩ := h
  unfold sgn
  by_cases ha : a < 0
  · simp only [ha, decide_true]
    by_cases hz : a.natAbs % 1000000 = 0
    · simp [hz]; omega
    · simp [hz]; omega
  · simp only [ha, decide_false]
    simp; omega

set_option maxRecDepth 20000 in
set_option maxHeartbeats 4000000 in
/-- ref.Floor. -/
theorem rfloor_any (a : Int) (ha : I64 a) (w : World) :
    Calls Tryd.prog 28 #[.int .i64 a] w fun e w' => e = .returned (.tuple #[.int .i64 (toI (a - a % 1000000)).1, .int .i64 (toI (a - a % 1000000)).2]) ∧ Below w.heap.size w w' := by
  have la := len_int a ha
  have lm := mil_len
  have fa := fun w => from_any a ha.1 ha.2 w
  have hof := fun w => of_z (1000000 : Int) 1000000 rfl (by decide) w
  have hval : ∀ (s : Bool) (c : Nat), (s = (decide (a < 0) != false) ∧ c = a.natAbs / 1000000 + (if (decide (a < 0) != false) = true ∧ a.natAbs % 1000000 ≠ 0 then 1 else 0)) → sgn s (c * 1000000) = a - a % 1000000 := fun s c h => floor_val h
  obtain ⟨m, hm⟩ : ∃ m, decide (a < 0) = m := ⟨_, rfl⟩
  obtain ⟨n, hn⟩ : ∃ m, a.natAbs = m := ⟨_, rfl⟩
  rw [hm, hn] at fa hval
  rw [hn] at la
  have HVAL := Lib.hid hval; clear hval
  clear hm hn
  go_enter Tryd.func28, Tryd.ntmps28
  go_wp2_with fail
  go_must (refine (fa _).mono ?_); rintro e w1 ⟨v1, rfl, hown1, hbel1⟩
  obtain ⟨p1, c1, rfl⟩ := hown1.lens rfl
  go_wp2_with fail
  go_must (refine (from_mil _).mono ?_); rintro e w2 ⟨v2, rfl, hown2, hbel2⟩
  obtain ⟨p2, c2, rfl⟩ := hown2.lens rfl
  have hb12 := hbel1.trans (hbel2.mono hbel1.size)
  go_wp2_with fail
  go_must (refine (floored_any _ _ _ _ _ m false (hown1.below hbel2).rd hown2.rd (by omega) (by omega) (by decide)).mono ?_); rintro e w3 ⟨s, c, v3, rfl, hr3, hsc, hl3, hbel3⟩
  obtain ⟨p3, c3, rfl⟩ := hr3.lens rfl
  have hb13 := hb12.trans (hbel3.mono hb12.size)
  have hv := HVAL.out s c hsc.out
  have HV := Lib.hid hv; clear hv
  have lp := digs_len_mul hl3 lm
  go_wp2
  go_region_held3 (fun w' => w'.cell? ⟨w3.heap.size, 0, none⟩ = some (.bool s) ∧ w'.cell? ⟨w3.heap.size, 1, none⟩ = some (.slice p3 (digs c).length c3))
    (first | exact S6 | exact S5 | exact S4 | go_keep)
    (first
      | (go_at_call 19; refine (hof _).mono ?_; rintro e w4 ⟨v4, rfl, hown4, hbel4⟩; have S4 := two_cellsD hbel4; have HB4 := belowA hb13 hbel4; have ra4 := rdA hr3 hbel4)
      | (go_at_call 17; refine (times_any _ _ _ c _ ra4 hown4.rd ?_ ?_).mono ?_; omega; omega; rintro e w5 ⟨v5, rfl, hown5, hbel5⟩; obtain ⟨p5, c5, rfl⟩ := hown5.lens rfl; have S5 := And.intro (cellB S4.1 hbel5) (cellB S4.2 hbel5); have HB5 := HB4.trans (hbel5.mono HB4.size))
      | (go_at_call 16; refine (to_any _ _ _ _ hown5.rd ?_).mono ?_; omega; rintro e w6 ⟨rfl, hbel6⟩; have S6 := And.intro (cellB S5.1 hbel6) (cellB S5.2 hbel6); have HB6 := HB5.trans (hbel6.mono HB5.size)))
  go_wp2
  go_ret2
  exact ⟨by rw [HV.out]; rfl, HB6⟩

theorem mod_val {a b : Int} (hb0 : b ≠ 0) {s : Bool} {c : Nat}
    (h : s = (decide (a < 0) != decide (b < 0)) ∧ c = a.natAbs / b.natAbs + (if (decide (a < 0) != decide (b < 0)) = true ∧ a.natAbs % b.natAbs ≠ 0 then 1 else 0)) :
    sgn (decide (a < 0)) a.natAbs + sgn (s == decide (b < 0)) (c * b.natAbs) = fm a b := by
  have hd := Nat.div_add_mod a.natAbs b.natAbs
  have ht := tmod_sgn a b
  obtain ⟨rfl, rfl⟩ := h
  have hlt := Nat.mod_lt a.natAbs (show 0 < b.natAbs by omega)
  rw [Nat.add_mul, Nat.mul_comm (a.natAbs / b.natAbs)]
  obtain ⟨q, hq⟩ : ∃ q, b.natAbs * (a.natAbs / b.natAbs) = q := ⟨_, rfl⟩
  obtain ⟨r, hr⟩ : ∃ r, a.natAbs % b.natAbs = r := ⟨_, rfl⟩
  rw [hq, hr] at hd
  rw [hr] at ht hlt
  rw [hq, hr]
  unfold fm
  rw [ht]
  unfold sgn
  by_cases ha : a < 0 <;> by_cases hb : b < 0 <;> simp only [ha, hb, decide_true, decide_false]
  all_goals by_cases hz : r = 0
  all_goals simp [hz]
  all_goals omega
theorem mod_i64 {a b : Int} (hb : I64 b) (hb0 : b ≠ 0) : I64 (fm a b) := by
  have ht := tmod_sgn a b
  have hlt := Nat.mod_lt a.natAbs (show 0 < b.natAbs by omega)
  unfold sgn at ht
  unfold fm
  unfold I64 at *
  split at ht <;> split <;> omega

set_option maxRecDepth 20000 in
set_option maxHeartbeats 4000000 in
/-- ref.Mod. -/
theorem rmod_any (a b : Int) (ha : I64 a) (hb : I64 b) (hb0 : b ≠ 0) (w : World) :
    Calls Tryd.prog 30 #[.int .i64 a, .int .i64 b] w fun e w' => e = .returned (.tuple #[.int .i64 (fm a b), .int .i64 0]) ∧ Below w.heap.size w w' := by
  have la := len_int a ha
  have lb := len_int b hb
  have fa := fun w => from_any a ha.1 ha.2 w
  have fb := fun w => from_any b hb.1 hb.2 w
  have hval : ∀ (s : Bool) (c : Nat), (s = (decide (a < 0) != decide (b < 0)) ∧ c = a.natAbs / b.natAbs + (if (decide (a < 0) != decide (b < 0)) = true ∧ a.natAbs % b.natAbs ≠ 0 then 1 else 0)) → sgn (decide (a < 0)) a.natAbs + sgn (s == decide (b < 0)) (c * b.natAbs) = fm a b := fun s c h => mod_val hb0 h
  have hfin : toI (fm a b) = (fm a b, 0) := toI_in (mod_i64 hb hb0)
  have hb00 : (b == 0) = false := by simpa using hb0
  have hbp : 0 < b.natAbs := by omega
  obtain ⟨m, hm⟩ : ∃ m, decide (a < 0) = m := ⟨_, rfl⟩
  obtain ⟨n, hn⟩ : ∃ m, a.natAbs = m := ⟨_, rfl⟩
  obtain ⟨mb, hmb⟩ : ∃ m, decide (b < 0) = m := ⟨_, rfl⟩
  obtain ⟨nb, hnb⟩ : ∃ m, b.natAbs = m := ⟨_, rfl⟩
  rw [hm, hn] at fa hval
  rw [hmb, hnb] at fb hval
  rw [hn] at la
  rw [hnb] at lb hbp
  have HVAL := Lib.hid hval; clear hval
  have HF := Lib.hid hfin; clear hfin
  have hfn := field_n
  have hfm := field_m
  clear hm hn hmb hnb
  go_enter Tryd.func30, Tryd.ntmps30
  go_wp2_with fail
  go_must (refine (fa _).mono ?_); rintro e w1 ⟨v1, rfl, hown1, hbel1⟩
  obtain ⟨p1, c1, rfl⟩ := hown1.lens rfl
  go_wp2_with fail
  go_must (refine (fb _).mono ?_); rintro e w2 ⟨v2, rfl, hown2, hbel2⟩
  obtain ⟨p2, c2, rfl⟩ := hown2.lens rfl
  have hb12 := hbel1.trans (hbel2.mono hbel1.size)
  go_wp2_with fail
  go_must (refine (floored_any _ _ _ _ _ m mb (hown1.below hbel2).rd hown2.rd (by omega) (by omega) hbp).mono ?_); rintro e w3 ⟨s, c, v3, rfl, hr3, hsc, hl3, hbel3⟩
  obtain ⟨p3, c3, rfl⟩ := hr3.lens rfl
  have hb13 := hb12.trans (hbel3.mono hb12.size)
  have hv := HVAL.out s c hsc.out
  have HV := Lib.hid hv; clear hv
  have lp := digs_len_mul hl3 lb
  go_wp2
  go_region_held3 (fun w' => w'.cell? ⟨w3.heap.size, 0, none⟩ = some (.bool s) ∧ w'.cell? ⟨w3.heap.size, 1, none⟩ = some (.slice p3 (digs c).length c3))
    (first | exact S9 | exact S8 | exact S7 | exact S6 | exact S5 | exact S4 | go_keep)
    (first
      | (go_at_call 18; have T5 := S5; refine (fb _).mono ?_; rintro e w6 ⟨v6, rfl, hown6, hbel6⟩; obtain ⟨p6, c6, rfl⟩ := hown6.lens rfl; have S6 := And.intro (cellB T5.1 hbel6) (cellB T5.2 hbel6); have HB6 := HB5.trans (hbel6.mono HB5.size); have rq6 := rq5.below hbel6; have rx6 := rx5.below hbel6)
      | (go_at_call 18; have T4 := S4; refine (fb _).mono ?_; rintro e w5 ⟨v5, rfl, hown5, hbel5⟩; obtain ⟨p5, c5, rfl⟩ := hown5.lens rfl; have S5 := And.intro (cellB T4.1 hbel5) (cellB T4.2 hbel5); have HB5 := HB4.trans (hbel5.mono HB4.size); have rq5 := rq4.below hbel5; have rx5 := rx4.below hbel5)
      | (go_at_call 18; refine (fa _).mono ?_; rintro e w4 ⟨v4, rfl, hown4, hbel4⟩; obtain ⟨p4, c4, rfl⟩ := hown4.lens rfl; have S4 := two_cellsD hbel4; have HB4 := belowA hb13 hbel4; have rq4 := rdA hr3 hbel4; have rx4 := hown4.rd)
      | (go_at_call 17; refine (times_any _ _ _ c nb rq6 hown6.rd ?_ ?_).mono ?_; omega; omega; rintro e w7 ⟨v7, rfl, hown7, hbel7⟩; obtain ⟨p7, c7, rfl⟩ := hown7.lens rfl; have S7 := And.intro (cellB S6.1 hbel7) (cellB S6.2 hbel7); have HB7 := HB6.trans (hbel7.mono HB6.size); have rx7 := rx6.below hbel7)
      | (go_at_call 35; refine (sum_any _ _ _ n (c * nb) m (s == mb) rx7 hown7.rd ?_ ?_).mono ?_; omega; omega; rintro e w8 ⟨s8, n8, v8, rfl, hr8, hs8, hl8, hbel8⟩; obtain ⟨p8, c8, rfl⟩ := hr8.lens rfl; have S8 := And.intro (cellB S7.1 hbel8) (cellB S7.2 hbel8); have HB8 := HB7.trans (hbel8.mono HB7.size))
      | (go_at_call 16; refine (to_any _ _ _ _ hr8 ?_).mono ?_; omega; rintro e w9 ⟨rfl, hbel9⟩; have S9 := And.intro (cellB S8.1 hbel9) (cellB S8.2 hbel9); have HB9 := HB8.trans (hbel9.mono HB8.size)))
  go_wp2
  go_ret2
  exact ⟨by rw [hs8.out, HV.out, HF.out]; rfl, HB9⟩
end Go.Proofs.YthfgpmiammfcaaaDoor
