/-
The reference's Round, floored, Floor and Mod, by contracts.
-/
import Derived.Test.YthfgpmiammfcaaaDoorRefI
import Derived.Test.YthfgpmiammfcaaaDoorLawB
import Derived.Test.YthfgpmiammfcaaaDoorDecR
namespace Go.Proofs.YthfgpmiammfcaaaDoor
open Go.RowKit
open Num (digs valD cutL Ten)

theorem rnd_len {a b k : Nat} (ha : (digs a).length ≤ k) : (digs (rnd a b)).length ≤ k + 1 := by
  have h1 := Num.valD_lt (Num.digs_ten a); rw [Num.valD_digs] at h1
  have h2 := Nat.lt_of_lt_of_le h1 (Nat.pow_le_pow_right (show 0 < 10 by decide) ha)
  refine Num.digs_length_le ?_
  unfold rnd
  have := Nat.div_le_self a b
  rw [Nat.pow_succ]
  split <;> omega

set_option maxRecDepth 20000 in
set_option maxHeartbeats 4000000 in
/-- ref.Round. -/
theorem rround_any (a p : Int) (ha : I64 a) (hp : I64 p) (w : World) :
    Calls Tryd.prog 26 #[.int .i64 a, .int .i64 p] w fun e w' =>
      e = .returned (.tuple #[.int .i64 (toI (sgn (decide (a < 0)) (rnd a.natAbs (10 ^ away p) * 10 ^ away p))).1, .int .i64 (toI (sgn (decide (a < 0)) (rnd a.natAbs (10 ^ away p) * 10 ^ away p))).2]) ∧ Below w.heap.size w w' := by
  obtain ⟨hu6, hu0⟩ := pow_le (away p) (away_le p)
  have hc : ((away p : Nat) : Int) = 6 - min (max p 0) 6 := by unfold away; omega
  have la := len_int a ha
  have fa := fun w => from_any a ha.1 ha.2 w
  obtain ⟨u, hu⟩ : ∃ u, 10 ^ away p = u := ⟨_, rfl⟩
  obtain ⟨m, hm⟩ : ∃ m, decide (a < 0) = m := ⟨_, rfl⟩
  obtain ⟨n, hn⟩ : ∃ m, a.natAbs = m := ⟨_, rfl⟩
  rw [hm, hn] at fa
  rw [hn] at la
  rw [hu, hm, hn]
  rw [hu] at hu6 hu0
  have lu : (digs u).length ≤ 7 := Num.digs_length_le (by omega)
  have lr := rnd_len (b := u) la
  have lm := digs_len_mul lr lu
  have hof := fun w => of_z (u : Int) u rfl (by omega) w
  have HC := Lib.hid hc; clear hc
  have HU := Lib.hid hu
  obtain ⟨hp1, hp2⟩ := hp
  clear hm hn hu
  go_enter Tryd.func26, Tryd.ntmps26
  go_wp2
  go_loop [6, 7] (fun uv iv => ∃ k v : Nat, (k : Int) ≤ 6 - min (max p 0) 6 ∧ iv = .int .i64 (6 - (k : Int)) ∧ uv = .int .u64 (v : Int) ∧ v ≤ 1000000 ∧ Hid (10 ^ k = v))
    (fun _ k => (intOf k).toNat)
  case atStart => exact ⟨0, 1, by omega, rfl, rfl, by omega, rfl⟩
  case round =>
    obtain ⟨k, v, hk, rfl, rfl, hv, hpw⟩ := hrel
    by_cases hgo : (k : Int) < 6 - min (max p 0) 6
    · have hv2 : 10 ^ (k + 1) = v * 10 := by rw [Nat.pow_succ, hpw.out]
      have hv3 := (pow_le (k + 1) (by omega)).1
      rw [hv2] at hv3
      have HV2 := Lib.hid hv2; clear hv2
      have g1 : p < 6 - (k : Int) := by omega
      have g2 : 0 < 6 - (k : Int) := by omega
      go_wp2
      go_round
      case rel => exact ⟨k + 1, v * 10, by omega, by go_num, by go_num, hv3, HV2.out⟩
      case measure => simp [intOf] <;> omega
    · have hka : k = away p := by have := HC.out; omega
      have hvu : v = u := by rw [← hpw.out, hka, HU.out]
      subst hvu
      clear hka
      have g0 : ¬ (p < 6 - (k : Int) ∧ 0 < 6 - (k : Int)) := by omega
      rcases (show (6 - (k : Int) ≤ p) ∨ (p < 6 - (k : Int) ∧ 6 - (k : Int) ≤ 0) from by omega) with g | ⟨g, g'⟩
      all_goals
        go_wp2_with fail
        go_must (refine (fa _).mono ?_); rintro e w1 ⟨v1, rfl, hown1, hbel1⟩
        obtain ⟨p1, c1, rfl⟩ := hown1.lens rfl
        go_wp2
        go_region_held3 (fun w' => w'.cell? ⟨w1.heap.size, 0, none⟩ = some (.bool m) ∧ w'.cell? ⟨w1.heap.size, 1, none⟩ = some (.slice p1 (digs n).length c1))
          (first | exact S5 | exact S4 | exact S3 | exact S2 | exact SF | go_keep)
          (first
            | (go_at_call 19; have T2 := S2; refine (hof _).mono ?_; rintro e w4 ⟨v4, rfl, hown4, hbel4⟩; have S3 := And.intro (cellB T2.1 hbel4) (cellB T2.2 hbel4); have HB4 := HB3.trans (hbel4.mono HB3.size); have rr4 := hr3.below hbel4)
            | (go_at_call 19; refine (hof _).mono ?_; rintro e w2 ⟨v2, rfl, hown2, hbel2⟩; have SF := two_cellsD hbel2; have HB2 := belowA hbel1 hbel2; have ra2 := rdA hown1 hbel2)
            | (go_at_call 42; refine (rounded_any _ _ _ _ _ ra2 hown2.rd ?_ ?_ hu0).mono ?_; omega; omega; rintro e w3 ⟨v3, rfl, hr3, hbel3⟩; have S2 := And.intro (cellB SF.1 hbel3) (cellB SF.2 hbel3); have HB3 := HB2.trans (hbel3.mono HB2.size))
            | (go_at_call 17; refine (times_any _ _ _ (rnd n v) _ rr4 hown4.rd ?_ ?_).mono ?_; omega; omega; rintro e w5 ⟨v5, rfl, hown5, hbel5⟩; obtain ⟨p5, c5, rfl⟩ := hown5.lens rfl; have S4 := And.intro (cellB S3.1 hbel5) (cellB S3.2 hbel5); have HB5 := HB4.trans (hbel5.mono HB4.size))
            | (go_at_call 16; refine (to_any _ _ _ _ hown5.rd ?_).mono ?_; omega; rintro e w6 ⟨rfl, hbel6⟩; have S5 := And.intro (cellB S4.1 hbel6) (cellB S4.2 hbel6); have HB6 := HB5.trans (hbel6.mono HB5.size)))
        go_wp2
        go_ret2
        exact ⟨rfl, HB6⟩

set_option maxRecDepth 20000 in
set_option maxHeartbeats 2000000 in
theorem fl_same (w : World) (va vb : Value) (a b : Nat) (m n : Bool) (hmn : (m == n) = true) (ha : Rd w va (digs a)) (hb : Rd w vb (digs b)) (la : (digs a).length ≤ 40) (lb : (digs b).length ≤ 40) (hb0 : 0 < b) :
    Calls Tryd.prog 45 #[.agg #[.bool m, va], .agg #[.bool n, vb]] w fun e w' => ∃ v, e = .returned (.agg #[.bool false, v]) ∧ Rd w' v (digs (a / b)) ∧ Below w.heap.size w w' := by
  obtain ⟨pa, ca, rfl⟩ := ha.lens rfl
  obtain ⟨pb, cb, rfl⟩ := hb.lens rfl
  have hl1 : (digs (a / b)).length ≤ 40 := Nat.le_trans (Num.digs_length_mono (Nat.div_le_self a b)) la
  have hl2 : (digs (a % b)).length ≤ 40 := Nat.le_trans (Num.digs_length_mono (Nat.le_of_lt (Nat.mod_lt a hb0))) lb
  have hmn2 : (m != n) = false := by cases m <;> cases n <;> simp at hmn ⊢
  go_enter Tryd.func45, Tryd.ntmps45
  go_wp2_with fail
  go_must (refine (over_any _ _ _ a b (by exact rd3 rfl ha) (by exact rd3 rfl hb) (by omega) lb hb0).mono ?_); rintro e w4 ⟨v1, v2, rfl, hq, hr, hbel4⟩
  obtain ⟨p1, c1, rfl⟩ := hq.lens rfl
  obtain ⟨p2, c2, rfl⟩ := hr.lens rfl
  obtain ⟨⟨s0, s1, s2, s3⟩, ⟨gc0, gc1, gf0, gf1⟩, hsz4⟩ := box3 (w := w) (by rfl) hbel4
  go_wp2
  refine bodyPost_ret (v := .agg #[.bool false, .slice p1 (digs (a / b)).length c1]) (by simp [results, Tryd.results45, go_sem, gc0, gc1, gf0, gf1]) rfl ⟨_, rfl, end3 (w := w) (by rfl) (by rfl) (by rfl) (by rfl) hbel4 hq _ _⟩

set_option maxRecDepth 20000 in
set_option maxHeartbeats 2000000 in
theorem fl_zero (w : World) (va vb : Value) (a b : Nat) (m n : Bool) (hmn : (m == n) = false) (ha : Rd w va (digs a)) (hb : Rd w vb (digs b)) (la : (digs a).length ≤ 40) (lb : (digs b).length ≤ 40) (hb0 : 0 < b) (hrr : a % b = 0) :
    Calls Tryd.prog 45 #[.agg #[.bool m, va], .agg #[.bool n, vb]] w fun e w' => ∃ v, e = .returned (.agg #[.bool true, v]) ∧ Rd w' v (digs (a / b)) ∧ Below w.heap.size w w' := by
  obtain ⟨pa, ca, rfl⟩ := ha.lens rfl
  obtain ⟨pb, cb, rfl⟩ := hb.lens rfl
  have hl1 : (digs (a / b)).length ≤ 40 := Nat.le_trans (Num.digs_length_mono (Nat.div_le_self a b)) la
  have hl2 : (digs (a % b)).length ≤ 40 := Nat.le_trans (Num.digs_length_mono (Nat.le_of_lt (Nat.mod_lt a hb0))) lb
  have hmn2 : (m != n) = true := by cases m <;> cases n <;> simp at hmn ⊢
  go_enter Tryd.func45, Tryd.ntmps45
  go_wp2_with fail
  go_must (refine (over_any _ _ _ a b (by exact rd3 rfl ha) (by exact rd3 rfl hb) (by omega) lb hb0).mono ?_); rintro e w4 ⟨v1, v2, rfl, hq, hr, hbel4⟩
  obtain ⟨p1, c1, rfl⟩ := hq.lens rfl
  obtain ⟨⟨s0, s1, s2, s3⟩, ⟨gc0, gc1, gf0, gf1⟩, hsz4⟩ := box3 (w := w) (by rfl) hbel4
  obtain ⟨r0, hr0⟩ : ∃ r0, r0 = (digs (a % b)).length := ⟨_, rfl⟩
  obtain ⟨p2, c2, rfl⟩ := hr.lens hr0
  have hz : r0 = 0 := by rw [hr0, hrr, Num.digs_zero]; rfl
  subst hz
  clear hr0
  go_wp2
  refine bodyPost_ret (v := .agg #[.bool true, .slice p1 (digs (a / b)).length c1]) (by simp [results, Tryd.results45, go_sem, gc0, gc1, gf0, gf1]) rfl ⟨_, rfl, end3 (w := w) (by rfl) (by rfl) (by rfl) (by rfl) hbel4 hq _ _⟩

set_option maxRecDepth 20000 in
set_option maxHeartbeats 2000000 in
theorem fl_pos (w : World) (va vb : Value) (a b : Nat) (m n : Bool) (hmn : (m == n) = false) (ha : Rd w va (digs a)) (hb : Rd w vb (digs b)) (la : (digs a).length ≤ 40) (lb : (digs b).length ≤ 40) (hb0 : 0 < b) (hrr : a % b ≠ 0) :
    Calls Tryd.prog 45 #[.agg #[.bool m, va], .agg #[.bool n, vb]] w fun e w' => ∃ v, e = .returned (.agg #[.bool true, v]) ∧ Rd w' v (digs (a / b + 1)) ∧ Below w.heap.size w w' := by
  obtain ⟨pa, ca, rfl⟩ := ha.lens rfl
  obtain ⟨pb, cb, rfl⟩ := hb.lens rfl
  have hl1 : (digs (a / b)).length ≤ 40 := Nat.le_trans (Num.digs_length_mono (Nat.div_le_self a b)) la
  have hl2 : (digs (a % b)).length ≤ 40 := Nat.le_trans (Num.digs_length_mono (Nat.le_of_lt (Nat.mod_lt a hb0))) lb
  have hmn2 : (m != n) = true := by cases m <;> cases n <;> simp at hmn ⊢
  have hl4 : (digs 1).length ≤ 20 := Num.digs_length_le (by omega)
  have hs2 : valD (digs (a / b)) + valD (digs 1) = a / b + 1 := by rw [Num.valD_digs, Num.valD_digs]
  have HS2 := Lib.hid hs2; clear hs2
  go_enter Tryd.func45, Tryd.ntmps45
  go_wp2_with fail
  go_must (refine (over_any _ _ _ a b (by exact rd3 rfl ha) (by exact rd3 rfl hb) (by omega) lb hb0).mono ?_); rintro e w4 ⟨v1, v2, rfl, hq, hr, hbel4⟩
  obtain ⟨p1, c1, rfl⟩ := hq.lens rfl
  obtain ⟨⟨s0, s1, s2, s3⟩, ⟨gc0, gc1, gf0, gf1⟩, hsz4⟩ := box3 (w := w) (by rfl) hbel4
  obtain ⟨r0, hr0⟩ : ∃ r0, r0 = (digs (a % b)).length := ⟨_, rfl⟩
  obtain ⟨p2, c2, rfl⟩ := hr.lens hr0
  have hz : 0 < r0 := by rw [hr0, Num.digs_pos hrr]; simp
  clear hr0
  go_wp2_with fail
  go_must (refine (of_z _ 1 (by omega) (by omega) _).mono ?_); rintro e w5 ⟨v5, rfl, hown5, hbel5⟩
  have hb45 := hbel4.trans (hbel5.mono hbel4.size)
  go_wp2_with fail
  go_must (refine (plus_any _ _ _ _ _ (hq.below hbel5).rd hown5.rd (Num.digs_ten _) (Num.digs_ten _) (by omega) (by omega)).mono ?_); rintro e w6 ⟨v6, rfl, hown6, hbel6⟩
  rw [HS2.out] at hown6
  have hb46 := hb45.trans (hbel6.mono hb45.size)
  obtain ⟨p6, c6, rfl⟩ := hown6.lens rfl
  have hown7 := hown6.base (B' := _) hb45.size
  clear s0 s1 s2 s3 gc0 gc1 gf0 gf1
  obtain ⟨⟨s0, s1, s2, s3⟩, ⟨gc0, gc1, gf0, gf1⟩, hsz6⟩ := box3 (w := w) (by rfl) hb46
  go_wp2
  refine bodyPost_ret (v := .agg #[.bool true, .slice p6 (digs (a / b + 1)).length c6]) (by simp [results, Tryd.results45, go_sem, gc0, gc1, gf0, gf1]) rfl ⟨_, rfl, end3 (w := w) (by rfl) (by rfl) (by rfl) (by rfl) hb46 hown7 _ _⟩

/-- ref.floored. -/
theorem floored_any (w : World) (va vb : Value) (a b : Nat) (m n : Bool) (ha : Rd w va (digs a)) (hb : Rd w vb (digs b)) (la : (digs a).length ≤ 30) (lb : (digs b).length ≤ 30) (hb0 : 0 < b) :
    Calls Tryd.prog 45 #[.agg #[.bool m, va], .agg #[.bool n, vb]] w fun e w' => ∃ (s : Bool) (c : Nat) (v : Value), e = .returned (.agg #[.bool s, v]) ∧ Rd w' v (digs c) ∧ Hid (s = (m != n) ∧ c = a / b + (if (m != n) = true ∧ a % b ≠ 0 then 1 else 0)) ∧ (digs c).length ≤ 31 ∧ Below w.heap.size w w' := by
  have hl : (digs (a / b)).length ≤ 30 := Nat.le_trans (Num.digs_length_mono (Nat.div_le_self a b)) la
  have hl2 : (digs (a / b + 1)).length ≤ 31 := digs_len_add hl (Nat.le_trans (Num.digs_length_le (k := 1) (by decide)) (by decide))
  by_cases hmn : (m == n) = true
  · have h2 : (m != n) = false := by cases m <;> cases n <;> simp at hmn ⊢
    refine (fl_same w va vb a b m n hmn ha hb (by omega) (by omega) hb0).mono ?_
    rintro e w' ⟨v, rfl, hr, hb⟩
    exact ⟨_, _, v, rfl, hr, ⟨h2.symm, by simp [h2]⟩, by omega, hb⟩
  · have hmn : (m == n) = false := by simpa using hmn
    have h2 : (m != n) = true := by cases m <;> cases n <;> simp at hmn ⊢
    by_cases hz : a % b = 0
    · refine (fl_zero w va vb a b m n hmn ha hb (by omega) (by omega) hb0 hz).mono ?_
      rintro e w' ⟨v, rfl, hr, hb⟩
      exact ⟨_, _, v, rfl, hr, ⟨h2.symm, by simp [hz]⟩, by omega, hb⟩
    · refine (fl_pos w va vb a b m n hmn ha hb (by omega) (by omega) hb0 hz).mono ?_
      rintro e w' ⟨v, rfl, hr, hb⟩
      exact ⟨_, _, v, rfl, hr, ⟨h2.symm, by simp [h2, hz]⟩, by omega, hb⟩
end Go.Proofs.YthfgpmiammfcaaaDoor
