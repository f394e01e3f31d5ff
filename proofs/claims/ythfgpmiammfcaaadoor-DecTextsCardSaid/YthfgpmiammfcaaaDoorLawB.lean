/-
The laws DecBack and DecWholes, walked.
-/
import Derived.Test.YthfgpmiammfcaaaDoorAwake
import Derived.Test.YthfgpmiammfcaaaDoorRefI
namespace Go.Proofs.YthfgpmiammfcaaaDoor
open Go.RowKit
open Num (digs valD cutL Ten)

theorem toI_in {z : Int} (h : I64 z) : toI z = (z, 0) := toI_of (.inl ⟨h, rfl, rfl⟩)
theorem toI_out {z : Int} (h : ¬ I64 z) : toI z = (0, 31) := toI_of (.inr ⟨h, rfl, rfl⟩)

/-- What comes back where no error was told. -/
theorem back_cases {s a : Int} (f : Int → Int) (ha : I64 a) (hf : f s = a) : ∃ x e z g : Int, toI s = (x, e) ∧ toI (f x) = (z, g) ∧ I64 x ∧ ((e = 0 ∧ z = a ∧ g = 0) ∨ (e = 31)) := by
  by_cases h : I64 s
  · exact ⟨s, 0, a, 0, toI_in h, by rw [hf]; exact toI_in ha, h, .inl ⟨rfl, rfl, rfl⟩⟩
  · exact ⟨0, 31, _, _, toI_out h, rfl, i64_zero, .inr rfl⟩

set_option maxRecDepth 20000 in
set_option maxHeartbeats 2000000 in
theorem law_back (a b : Int) (ha : I64 a) (hb : I64 b) (w : World) (hE : Env w) :
    Calls Tryd.prog 8 #[.int .i64 a, .int .i64 b] w fun e w' => e = .returned (.bool true) ∧ Below w.heap.size w w' := by
  obtain ⟨x, e, z, g, h1, h2, hx, hxx⟩ := back_cases (s := a + b) (a := a) (fun t => t - b) ha (by show a + b - b = a; omega)
  obtain ⟨y, f, v, h, k1, k2, hy, hyy⟩ := back_cases (s := a - b) (a := a) (fun t => t + b) ha (by show a - b + b = a; omega)
  have c1 := fun w => add_any a b ha hb w
  have c2 := fun w => sub_any a b ha hb w
  have c3 := fun w => sub_any x b hx hb w
  have c4 := fun w => add_any y b hy hb w
  rw [h1] at c1
  rw [k1] at c2
  rw [h2] at c3
  rw [k2] at c4
  have aw := fun w hE => awake_any w hE
  clear h1 h2 k1 k2
  rcases hxx with ⟨rfl, rfl, rfl⟩ | rfl <;> rcases hyy with ⟨rfl, rfl, rfl⟩ | rfl
  all_goals
    go_enter Tryd.func8, Tryd.ntmps8
    go_wp2_with fail
    go_must (refine (c1 _).mono ?_); rintro e w' ⟨rfl, rfl⟩
    go_wp2_with fail
    go_must (refine (c2 _).mono ?_); rintro e w' ⟨rfl, rfl⟩
    go_wp2_with fail
    go_must (refine (c3 _).mono ?_); rintro e w' ⟨rfl, rfl⟩
    go_wp2_with fail
    go_must (refine (c4 _).mono ?_); rintro e w' ⟨rfl, rfl⟩
    go_wp2_with fail
    go_must (refine (aw _ hE).mono ?_); rintro e w5 ⟨rfl, hb5⟩
    go_wp2
    go_ret
    exact ⟨rfl, hb5⟩

set_option maxRecDepth 20000 in
set_option maxHeartbeats 1000000 in
/-- dec.Whole. -/
theorem whole_any (a : Int) (ha : I64 a) (w : World) :
    Calls Tryd.prog 20 #[.int .i64 a] w fun e w' => e = .returned (.tuple #[.int .i64 (a.tdiv 1000000), .bool (a.tmod 1000000 == 0)]) ∧ w = w' := by
  obtain ⟨ha1, ha2⟩ := ha
  go_enter Tryd.func20, Tryd.ntmps20
  go_wp2
  go_ret2
  exact ⟨rfl, rfl⟩

theorem digs_len_mul {a b k l : Nat} (ha : (digs a).length ≤ k) (hb : (digs b).length ≤ l) : (digs (a * b)).length ≤ k + l := by
  refine Num.digs_length_le ?_
  have h1 := Num.valD_lt (Num.digs_ten a); rw [Num.valD_digs] at h1
  have h2 := Num.valD_lt (Num.digs_ten b); rw [Num.valD_digs] at h2
  have h3 := Nat.lt_of_lt_of_le h1 (Nat.pow_le_pow_right (show 0 < 10 by decide) ha)
  have h4 := Nat.lt_of_lt_of_le h2 (Nat.pow_le_pow_right (show 0 < 10 by decide) hb)
  rw [Nat.pow_add]
  exact Nat.mul_lt_mul'' h3 h4
theorem sgn_mul (z : Int) (k : Nat) : sgn (decide (z < 0)) (z.natAbs * k) = z * (k : Int) := by
  unfold sgn
  by_cases h : z < 0
  · simp only [h, decide_true, if_true, Int.natCast_mul]
    rw [← Int.neg_mul]
    congr 1
    omega
  · simp only [h, decide_false, Int.natCast_mul]
    rw [if_neg (by simp)]
    congr 1
    omega
theorem mil_len : (digs 1000000).length ≤ 7 := Num.digs_length_le (by decide)

set_option maxRecDepth 20000 in
set_option maxHeartbeats 2000000 in
theorem law_wholes (n a : Int) (hn : I64 n) (ha : I64 a) (w : World) (hE : Env w) :
    Calls Tryd.prog 4 #[.int .i64 n, .int .i64 a] w fun e w' => e = .returned (.bool true) ∧ Below w.heap.size w w' := by
  have ln := len_int n hn
  have lm := mil_len
  have lp := digs_len_mul ln lm
  have s1 := toI_i64 (n * 1000000)
  have c1 := fun w => dof_any n hn w
  have c2 := fun w => from_any n hn.1 hn.2 w
  have c3 := fun w => whole_any a ha w
  have hsg : toI (sgn (decide (n < 0)) (n.natAbs * 1000000)) = toI (n * 1000000) := by rw [sgn_mul]; rfl
  obtain ⟨x, hx⟩ : ∃ x, toI (n * 1000000) = x := ⟨_, rfl⟩
  rw [hx] at s1 c1 hsg
  obtain ⟨x1, x2⟩ := x
  have d1 := fun w => same_any x1 x2 s1.1 s1.2 w
  obtain ⟨k, hk⟩ : ∃ k, n.natAbs = k := ⟨_, rfl⟩
  obtain ⟨m, hm⟩ : ∃ m, decide (n < 0) = m := ⟨_, rfl⟩
  rw [hk, hm] at c2 hsg
  rw [hk] at ln lp
  have HSG := Lib.hid hsg
  have hfn := field_n
  have HM := Lib.hid hm
  obtain ⟨ha1, ha2⟩ := ha
  clear hx hk hsg hm
  go_enter Tryd.func4, Tryd.ntmps4
  go_wp2_with fail
  go_must (refine (c1 _).mono ?_); rintro e w' ⟨rfl, rfl⟩
  go_wp2_with fail
  go_must (refine (c2 _).mono ?_); rintro e w1 ⟨v1, rfl, hown1, hbel1⟩
  obtain ⟨p1, q1, rfl⟩ := hown1.lens rfl
  go_wp2_with fail
  go_must (refine (of_z _ 1000000 (by omega) (by omega) _).mono ?_); rintro e w2 ⟨v2, rfl, hown2, hbel2⟩
  have hb12 := hbel1.trans (hbel2.mono hbel1.size)
  go_wp2_with fail
  go_must (refine (times_any _ _ _ k 1000000 (hown1.below hbel2).rd hown2.rd (by omega) (by omega)).mono ?_); rintro e w3 ⟨v3, rfl, hown3, hbel3⟩
  have hb13 := hb12.trans (hbel3.mono hb12.size)
  obtain ⟨p3, q3, rfl⟩ := hown3.lens rfl
  rw [HM.out]
  go_wp2_with fail
  go_must (refine (to_any _ m _ _ hown3.rd (by omega)).mono ?_); rintro e w4 ⟨rfl, hbel4⟩
  have hb14 := hb13.trans (hbel4.mono hb13.size)
  rw [HSG.out]
  go_wp2_with fail
  go_must (refine (c3 _).mono ?_); rintro e w' ⟨rfl, rfl⟩
  go_wp2_with fail
  go_must (refine (d1 _).mono ?_); rintro e w' ⟨rfl, rfl⟩
  go_wp2_with fail
  go_must (refine (awake_any _ (hE.below hb14)).mono ?_); rintro e w5 ⟨rfl, hb5⟩
  go_wp2
  go_ret
  exact ⟨rfl, hb14.trans (hb5.mono hb14.size)⟩
end Go.Proofs.YthfgpmiammfcaaaDoor
