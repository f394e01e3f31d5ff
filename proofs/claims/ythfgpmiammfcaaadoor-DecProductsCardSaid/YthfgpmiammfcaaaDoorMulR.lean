/-
The reference's Mul and Div, by contracts.
-/
import Derived.Test.YthfgpmiammfcaaaDoorRefJ
import Derived.Test.YthfgpmiammfcaaaDoorDiv64
namespace Go.Proofs.YthfgpmiammfcaaaDoor
open Go.RowKit
open Num (digs valD cutL Ten)

theorem two_boxesD {w w1 : World} {a0 a1 b0 b1 : Value} {T : TypeId} (hb : Below ((w.alloc (.cells #[a0, a1] T)).alloc (.cells #[b0, b1] T)).drew.heap.size ((w.alloc (.cells #[a0, a1] T)).alloc (.cells #[b0, b1] T)).drew w1) :
    w1.cell? ⟨w.heap.size, 0, none⟩ = some a0 ∧ w1.cell? ⟨w.heap.size, 1, none⟩ = some a1 ∧ w1.cell? ⟨w.heap.size + 1, 0, none⟩ = some b0 ∧ w1.cell? ⟨w.heap.size + 1, 1, none⟩ = some b1 := by
  have h1 := two_cells (w := w) (w1 := ((w.alloc (.cells #[a0, a1] T)).alloc (.cells #[b0, b1] T)).drew) (x := a0) (y := a1) (T := T) (((Below.refl _ _).alloc (Nat.le_refl _) _).drew)
  have h2 := two_cellsD (w := w.alloc (.cells #[a0, a1] T)) (x := b0) (y := b1) (T := T) hb
  have e : (w.alloc (.cells #[a0, a1] T)).heap.size = w.heap.size + 1 := by simp
  rw [e] at h2
  exact ⟨cellB h1.1 hb, cellB h1.2.1 hb, h2.1, h2.2⟩
theorem rounded_rnd (w : World) (va vb : Value) (a b : Nat) (ha : Rd w va (digs a)) (hb : Rd w vb (digs b)) (la : (digs a).length ≤ 90) (lb : (digs b).length ≤ 40) (hb0 : 0 < b) :
    Calls Tryd.prog 42 #[va, vb] w fun e w' => ∃ v, e = .returned v ∧ Rd w' v (digs (rnd a b)) ∧ Below w.heap.size w w' := rounded_any w va vb a b ha hb la lb hb0
theorem four_keep {w w' : World} {p q r s : Addr} {a0 a1 b0 b1 : Value} (h : w.cell? p = some a0 ∧ w.cell? q = some a1 ∧ w.cell? r = some b0 ∧ w.cell? s = some b1) (hb : Below w.heap.size w w') :
    w'.cell? p = some a0 ∧ w'.cell? q = some a1 ∧ w'.cell? r = some b0 ∧ w'.cell? s = some b1 := ⟨cellB h.1 hb, cellB h.2.1 hb, cellB h.2.2.1 hb, cellB h.2.2.2 hb⟩
theorem belowAA {w w1 w2 : World} {o o' : Obj} (h1 : Below w.heap.size w w1) (h2 : Below ((w1.alloc o).alloc o').drew.heap.size ((w1.alloc o).alloc o').drew w2) : Below w.heap.size w w2 := by
  have h3 : Below w.heap.size w ((w1.alloc o).alloc o').drew := ((h1.alloc h1.size o).alloc (h1.alloc h1.size o).size o').drew
  exact h3.trans (h2.mono h3.size)
theorem rdAA {w1 : World} {B : Nat} {o o' : Obj} {v : Value} {xs : List Nat} (h : Own B w1 v xs) : Rd ((w1.alloc o).alloc o').drew v xs := ((h.alloc o).alloc o').drew.rd

set_option maxRecDepth 20000 in
set_option maxHeartbeats 4000000 in
/-- ref.Mul. -/
theorem rmul_any (a b : Int) (ha : I64 a) (hb : I64 b) (w : World) :
    Calls Tryd.prog 22 #[.int .i64 a, .int .i64 b] w fun e w' =>
      e = .returned (.tuple #[.int .i64 (toI (sgn (!decide (a < 0) == decide (b < 0)) (rnd (a.natAbs * b.natAbs) 1000000))).1, .int .i64 (toI (sgn (!decide (a < 0) == decide (b < 0)) (rnd (a.natAbs * b.natAbs) 1000000))).2]) ∧ Below w.heap.size w w' := by
  have la := len_int a ha
  have lb := len_int b hb
  have lm := mil_len
  have fa := fun w => from_any a ha.1 ha.2 w
  have fb := fun w => from_any b hb.1 hb.2 w
  have hof := fun w => of_z (1000000 : Int) 1000000 rfl (by decide) w
  obtain ⟨m, hm⟩ : ∃ m, decide (a < 0) = m := ⟨_, rfl⟩
  obtain ⟨n, hn⟩ : ∃ m, a.natAbs = m := ⟨_, rfl⟩
  obtain ⟨mb, hmb⟩ : ∃ m, decide (b < 0) = m := ⟨_, rfl⟩
  obtain ⟨nb, hnb⟩ : ∃ m, b.natAbs = m := ⟨_, rfl⟩
  rw [hm, hn] at fa
  rw [hmb, hnb] at fb
  rw [hn] at la
  rw [hnb] at lb
  rw [hm, hmb, hn, hnb]
  have lp := digs_len_mul la lb
  have lr := rnd_len (b := 1000000) lp
  clear hm hn hmb hnb
  go_enter Tryd.func22, Tryd.ntmps22
  go_wp2_with fail
  go_must (refine (fa _).mono ?_); rintro e w1 ⟨v1, rfl, hown1, hbel1⟩
  obtain ⟨p1, c1, rfl⟩ := hown1.lens rfl
  go_wp2_with fail
  go_must (refine (fb _).mono ?_); rintro e w2 ⟨v2, rfl, hown2, hbel2⟩
  obtain ⟨p2, c2, rfl⟩ := hown2.lens rfl
  have hb12 := hbel1.trans (hbel2.mono hbel1.size)
  go_wp2
  go_region_held3 (fun w' => w'.cell? ⟨w2.heap.size, 0, none⟩ = some (.bool m) ∧ w'.cell? ⟨w2.heap.size, 1, none⟩ = some (.slice p1 (digs n).length c1) ∧ w'.cell? ⟨w2.heap.size + 1, 0, none⟩ = some (.bool mb) ∧ w'.cell? ⟨w2.heap.size + 1, 1, none⟩ = some (.slice p2 (digs nb).length c2))
    (first | exact S6 | exact S5 | exact S4 | exact S3 | go_keep)
    (first
      | (go_at_call 17; refine (times_any _ _ _ n nb (rdAA (hown1.below hbel2)) (rdAA hown2) ?_ ?_).mono ?_; omega; omega; rintro e w3 ⟨v3, rfl, hown3, hbel3⟩; obtain ⟨p3, c3, rfl⟩ := hown3.lens rfl; have S3 := two_boxesD hbel3; have HB3 := belowAA hb12 hbel3)
      | (go_at_call 19; refine (hof _).mono ?_; rintro e w4 ⟨v4, rfl, hown4, hbel4⟩; have S4 := four_keep S3 hbel4; have HB4 := HB3.trans (hbel4.mono HB3.size); have rr4 := (hown3.below hbel4).rd)
      | (go_at_call 42; refine (rounded_rnd _ _ _ (n * nb) 1000000 rr4 hown4.rd ?_ ?_ ?_).mono ?_; omega; omega; omega; rintro e w5 ⟨v5, rfl, hr5, hbel5⟩; obtain ⟨p5, c5, rfl⟩ := hr5.lens rfl; have S5 := four_keep S4 hbel5; have HB5 := HB4.trans (hbel5.mono HB4.size))
      | (go_at_call 16; refine (to_any _ (!(m == mb)) _ (rnd (n * nb) 1000000) hr5 ?_).mono ?_; omega; rintro e w6 ⟨rfl, hbel6⟩; have S6 := four_keep S5 hbel6; have HB6 := HB5.trans (hbel6.mono HB5.size)))
  go_wp2
  go_ret2
  exact ⟨rfl, HB6⟩
set_option maxRecDepth 20000 in
set_option maxHeartbeats 4000000 in
/-- ref.Div. -/
theorem rdiv_any (a b : Int) (ha : I64 a) (hb : I64 b) (hb0 : b ≠ 0) (w : World) :
    Calls Tryd.prog 24 #[.int .i64 a, .int .i64 b] w fun e w' =>
      e = .returned (.tuple #[.int .i64 (toI (sgn (!decide (a < 0) == decide (b < 0)) (rnd (a.natAbs * 1000000) b.natAbs))).1, .int .i64 (toI (sgn (!decide (a < 0) == decide (b < 0)) (rnd (a.natAbs * 1000000) b.natAbs))).2]) ∧ Below w.heap.size w w' := by
  have hb00 : (b == 0) = false := by simpa using hb0
  have hbp : 0 < b.natAbs := by omega
  have la := len_int a ha
  have lb := len_int b hb
  have lm := mil_len
  have fa := fun w => from_any a ha.1 ha.2 w
  have fb := fun w => from_any b hb.1 hb.2 w
  have hof := fun w => of_z (1000000 : Int) 1000000 rfl (by decide) w
  obtain ⟨m, hm⟩ : ∃ m, decide (a < 0) = m := ⟨_, rfl⟩
  obtain ⟨n, hn⟩ : ∃ m, a.natAbs = m := ⟨_, rfl⟩
  obtain ⟨mb, hmb⟩ : ∃ m, decide (b < 0) = m := ⟨_, rfl⟩
  obtain ⟨nb, hnb⟩ : ∃ m, b.natAbs = m := ⟨_, rfl⟩
  rw [hm, hn] at fa
  rw [hmb, hnb] at fb
  rw [hn] at la
  rw [hnb] at lb hbp
  rw [hm, hmb, hn, hnb]
  have lp := digs_len_mul la lm
  have lr := rnd_len (b := nb) lp
  clear hm hn hmb hnb
  go_enter Tryd.func24, Tryd.ntmps24
  go_wp2_with fail
  go_must (refine (fa _).mono ?_); rintro e w1 ⟨v1, rfl, hown1, hbel1⟩
  obtain ⟨p1, c1, rfl⟩ := hown1.lens rfl
  go_wp2_with fail
  go_must (refine (fb _).mono ?_); rintro e w2 ⟨v2, rfl, hown2, hbel2⟩
  obtain ⟨p2, c2, rfl⟩ := hown2.lens rfl
  have hb12 := hbel1.trans (hbel2.mono hbel1.size)
  go_wp2
  go_region_held3 (fun w' => w'.cell? ⟨w2.heap.size, 0, none⟩ = some (.bool m) ∧ w'.cell? ⟨w2.heap.size, 1, none⟩ = some (.slice p1 (digs n).length c1) ∧ w'.cell? ⟨w2.heap.size + 1, 0, none⟩ = some (.bool mb) ∧ w'.cell? ⟨w2.heap.size + 1, 1, none⟩ = some (.slice p2 (digs nb).length c2))
    (first | exact S6 | exact S5 | exact S4 | exact S3 | go_keep)
    (first
      | (go_at_call 19; refine (hof _).mono ?_; rintro e w3 ⟨v3, rfl, hown3, hbel3⟩; have S3 := two_boxesD hbel3; have HB3 := belowAA hb12 hbel3; have ra3 := ((rdAA (hown1.below hbel2)).below hbel3); have rb3 := ((rdAA hown2).below hbel3))
      | (go_at_call 17; refine (times_any _ _ _ n 1000000 ra3 hown3.rd ?_ ?_).mono ?_; omega; omega; rintro e w4 ⟨v4, rfl, hown4, hbel4⟩; obtain ⟨p4, c4, rfl⟩ := hown4.lens rfl; have S4 := four_keep S3 hbel4; have HB4 := HB3.trans (hbel4.mono HB3.size); have rb4 := rb3.below hbel4)
      | (go_at_call 42; refine (rounded_rnd _ _ _ (n * 1000000) nb hown4.rd rb4 ?_ ?_ hbp).mono ?_; omega; omega; rintro e w5 ⟨v5, rfl, hr5, hbel5⟩; obtain ⟨p5, c5, rfl⟩ := hr5.lens rfl; have S5 := four_keep S4 hbel5; have HB5 := HB4.trans (hbel5.mono HB4.size))
      | (go_at_call 16; refine (to_any _ (!(m == mb)) _ (rnd (n * 1000000) nb) hr5 ?_).mono ?_; omega; rintro e w6 ⟨rfl, hbel6⟩; have S6 := four_keep S5 hbel6; have HB6 := HB5.trans (hbel6.mono HB5.size)))
  go_wp2
  go_ret2
  exact ⟨rfl, HB6⟩
theorem rdiv_zero (a : Int) (w : World) :
    Calls Tryd.prog 24 #[.int .i64 a, .int .i64 0] w fun e w' => e = .returned (.tuple #[.int .i64 0, .int .i64 32]) ∧ w = w' := by
  go_enter Tryd.func24, Tryd.ntmps24
  go_wp2
  go_ret2
  exact ⟨rfl, rfl⟩
end Go.Proofs.YthfgpmiammfcaaaDoor
