/-
The reference's Add, by its contract.
-/
import Derived.Test.YthfgpmiammfcaaaDoorDecA
import Derived.Deep.RegionHeld3
namespace Go.Proofs.YthfgpmiammfcaaaDoor
open Go.RowKit
open Num (digs valD cutL Ten)

theorem digs_len_add {a b k : Nat} (ha : (digs a).length ≤ k) (hb : (digs b).length ≤ k) : (digs (a + b)).length ≤ k + 1 := by
  refine Num.digs_length_le ?_
  have h1 := Num.valD_lt (Num.digs_ten a); rw [Num.valD_digs] at h1
  have h2 := Num.valD_lt (Num.digs_ten b); rw [Num.valD_digs] at h2
  have h3 := Nat.pow_le_pow_right (show 0 < 10 by decide) ha
  have h4 := Nat.pow_le_pow_right (show 0 < 10 by decide) hb
  rw [Nat.pow_succ]; omega

/-- ref.Sum. -/
theorem sum_any (w : World) (va vb : Value) (a b : Nat) (m n : Bool) (ha : Rd w va (digs a)) (hb : Rd w vb (digs b)) (la : (digs a).length ≤ 80) (lb : (digs b).length ≤ 80) :
    Calls Tryd.prog 35 #[.agg #[.bool m, va], .agg #[.bool n, vb]] w fun e w' => ∃ (s : Bool) (c : Nat) (v : Value), e = .returned (.agg #[.bool s, v]) ∧ Rd w' v (digs c) ∧ Hid (sgn s c = sgn m a + sgn n b) ∧ (digs c).length ≤ 81 ∧ Below w.heap.size w w' := by
  have hl := digs_len_add la lb
  by_cases hmn : m = n
  · subst hmn
    refine (sum_same w va vb a b m ha hb (by omega) (by omega)).mono ?_
    rintro e w' ⟨v, rfl, hr, hb⟩
    exact ⟨m, _, v, rfl, hr, by show _ = _; unfold sgn; cases m <;> simp <;> omega, hl, hb⟩
  · have hmn' : (m == n) = false := by simpa using hmn
    by_cases hlt : a < b
    · refine (sum_lt w va vb a b m n hmn' ha hb (by omega) (by omega) hlt).mono ?_
      rintro e w' ⟨v, rfl, hr, hb⟩
      exact ⟨n, _, v, rfl, hr, by show _ = _; unfold sgn; cases m <;> cases n <;> simp at hmn ⊢ <;> omega, Nat.le_trans (Num.digs_length_mono (by omega)) hl, hb⟩
    · refine (sum_ge w va vb a b m n hmn' ha hb (by omega) (by omega) (by omega)).mono ?_
      rintro e w' ⟨v, rfl, hr, hb⟩
      exact ⟨m, _, v, rfl, hr, by show _ = _; unfold sgn; cases m <;> cases n <;> simp at hmn ⊢ <;> omega, Nat.le_trans (Num.digs_length_mono (by omega)) hl, hb⟩

theorem sgn_int (z : Int) : sgn (decide (z < 0)) z.natAbs = z := by
  unfold sgn
  by_cases h : z < 0 <;> simp [h] <;> omega
theorem sgn_neg (m : Bool) (n : Nat) : sgn (!m) n = -(sgn m n) := by unfold sgn; cases m <;> simp
theorem len_int (z : Int) (hz : I64 z) : (digs z.natAbs).length ≤ 20 := Num.digs_length_le (by unfold I64 at hz; omega)

theorem cellBd {w w' : World} {p : Addr} {v : Value} (h : w.cell? p = some v) (hb : Below w.drew.heap.size w.drew w') : w'.cell? p = some v := cellB (w := w.drew) h hb
theorem frozBd {w w' : World} {p : Addr} {v : Value} {f : Bool} (h : w.cell? p = some v) (hf : w.frozen? p = f) (hb : Below w.drew.heap.size w.drew w') : w'.frozen? p = f := frozB (w := w.drew) h hf hb

/-- A new block of two cells, behind a draw and a call. -/
theorem two_cellsD {w w1 : World} {x y : Value} {T : TypeId} (hb : Below (w.alloc (.cells #[x, y] T)).drew.heap.size (w.alloc (.cells #[x, y] T)).drew w1) :
    w1.cell? ⟨w.heap.size, 0, none⟩ = some x ∧ w1.cell? ⟨w.heap.size, 1, none⟩ = some y := by
  have h := two_cells (w := w) (w1 := w1) (x := x) (y := y) (T := T) ⟨hb.os, hb.tape, hb.output, hb.size, hb.block⟩
  exact ⟨h.1, h.2.1⟩
theorem belowA {w w1 w2 : World} {o : Obj} (h1 : Below w.heap.size w w1) (h2 : Below (w1.alloc o).drew.heap.size (w1.alloc o).drew w2) : Below w.heap.size w w2 := by
  have h3 : Below w.heap.size w (w1.alloc o).drew := (h1.alloc h1.size o).drew
  exact h3.trans (h2.mono h3.size)
theorem rdA {w1 w2 : World} {B : Nat} {o : Obj} {v : Value} {xs : List Nat} (h : Own B w1 v xs) (h2 : Below (w1.alloc o).drew.heap.size (w1.alloc o).drew w2) : Rd w2 v xs :=
  ((h.alloc o).drew.below h2).rd

set_option maxRecDepth 20000 in
set_option maxHeartbeats 2000000 in
/-- ref.Add: a sum. -/
theorem radd_any (a b : Int) (ha : I64 a) (hb : I64 b) (w : World) :
    Calls Tryd.prog 10 #[.int .i64 a, .int .i64 b, .bool false] w fun e w' => e = .returned (.tuple #[.int .i64 (toI (a + b)).1, .int .i64 (toI (a + b)).2]) ∧ Below w.heap.size w w' := by
  have la := len_int a ha
  have lb := len_int b hb
  have sa := Lib.hid (sgn_int a)
  have sb := Lib.hid (sgn_int b)
  have fa := fun w => from_any a ha.1 ha.2 w
  have fb := fun w => from_any b hb.1 hb.2 w
  obtain ⟨ma, hma⟩ : ∃ m, decide (a < 0) = m := ⟨_, rfl⟩
  obtain ⟨mb, hmb⟩ : ∃ m, decide (b < 0) = m := ⟨_, rfl⟩
  obtain ⟨na, hna⟩ : ∃ m, a.natAbs = m := ⟨_, rfl⟩
  obtain ⟨nb, hnb⟩ : ∃ m, b.natAbs = m := ⟨_, rfl⟩
  rw [hma, hna] at fa sa
  rw [hmb, hnb] at fb sb
  rw [hna] at la
  rw [hnb] at lb
  clear hma hmb hna hnb
  go_enter Tryd.func10, Tryd.ntmps10
  go_wp2_with fail
  go_must (refine (fb _).mono ?_); rintro e w1 ⟨v1, rfl, hown1, hbel1⟩
  obtain ⟨p1, c1, rfl⟩ := hown1.lens rfl
  go_wp2
  go_region_held3 (fun w' => w'.cell? ⟨w1.heap.size, 0, none⟩ = some (.bool mb) ∧ w'.cell? ⟨w1.heap.size, 1, none⟩ = some (.slice p1 (digs nb).length c1))
    (first | exact ST | exact SS | exact SF | go_keep)
    (first
      | (go_at_call 18; refine (fa _).mono ?_; rintro e w2 ⟨v2, rfl, hown2, hbel2⟩; obtain ⟨p2, c2, rfl⟩ := hown2.lens rfl; have SF := two_cellsD hbel2; have HB2 := belowA hbel1 hbel2; have rb2 := rdA hown1 hbel2)
      | (go_at_call 35; refine (sum_any _ _ _ _ _ _ _ hown2.rd rb2 ?_ ?_).mono ?_; omega; omega; rintro e w3 ⟨s3, n3, v3, rfl, hr3, hs3, hl3, hbel3⟩; obtain ⟨p3, c3, rfl⟩ := hr3.lens rfl; have SS := And.intro (cellB SF.1 hbel3) (cellB SF.2 hbel3); have HB3 := HB2.trans (hbel3.mono HB2.size))
      | (go_at_call 16; refine (to_any _ _ _ _ hr3 ?_).mono ?_; omega; rintro e w4 ⟨rfl, hbel4⟩; have ST := And.intro (cellB SS.1 hbel4) (cellB SS.2 hbel4); have HB4 := HB3.trans (hbel4.mono HB3.size)))
  go_wp2
  go_ret2
  exact ⟨by rw [hs3.out, sa.out, sb.out]; rfl, HB4⟩

set_option maxRecDepth 20000 in
set_option maxHeartbeats 2000000 in
/-- ref.Add: a difference. -/
theorem rsub_any (a b : Int) (ha : I64 a) (hb : I64 b) (w : World) :
    Calls Tryd.prog 10 #[.int .i64 a, .int .i64 b, .bool true] w fun e w' => e = .returned (.tuple #[.int .i64 (toI (a - b)).1, .int .i64 (toI (a - b)).2]) ∧ Below w.heap.size w w' := by
  have la := len_int a ha
  have lb := len_int b hb
  have sa := Lib.hid (sgn_int a)
  have sb := Lib.hid (sgn_int b)
  have fa := fun w => from_any a ha.1 ha.2 w
  have fb := fun w => from_any b hb.1 hb.2 w
  obtain ⟨ma, hma⟩ : ∃ m, decide (a < 0) = m := ⟨_, rfl⟩
  obtain ⟨mb, hmb⟩ : ∃ m, decide (b < 0) = m := ⟨_, rfl⟩
  obtain ⟨na, hna⟩ : ∃ m, a.natAbs = m := ⟨_, rfl⟩
  obtain ⟨nb, hnb⟩ : ∃ m, b.natAbs = m := ⟨_, rfl⟩
  rw [hma, hna] at fa sa
  rw [hmb, hnb] at fb sb
  rw [hna] at la
  rw [hnb] at lb
  clear hma hmb hna hnb
  go_enter Tryd.func10, Tryd.ntmps10
  go_wp2_with fail
  go_must (refine (fb _).mono ?_); rintro e w1 ⟨v1, rfl, hown1, hbel1⟩
  obtain ⟨p1, c1, rfl⟩ := hown1.lens rfl
  go_wp2
  go_region_held3 (fun w' => w'.cell? ⟨w1.heap.size, 0, none⟩ = some (.bool (!mb)) ∧ w'.cell? ⟨w1.heap.size, 1, none⟩ = some (.slice p1 (digs nb).length c1))
    (first | exact ST | exact SS | exact SF | go_keep)
    (first
      | (go_at_call 18; refine (fa _).mono ?_; rintro e w2 ⟨v2, rfl, hown2, hbel2⟩; obtain ⟨p2, c2, rfl⟩ := hown2.lens rfl; have SF := two_cellsD hbel2; have HB2 := belowA hbel1 hbel2; have rb2 := rdA hown1 hbel2)
      | (go_at_call 35; refine (sum_any _ _ _ _ _ _ _ hown2.rd rb2 ?_ ?_).mono ?_; omega; omega; rintro e w3 ⟨s3, n3, v3, rfl, hr3, hs3, hl3, hbel3⟩; obtain ⟨p3, c3, rfl⟩ := hr3.lens rfl; have SS := And.intro (cellB SF.1 hbel3) (cellB SF.2 hbel3); have HB3 := HB2.trans (hbel3.mono HB2.size))
      | (go_at_call 16; refine (to_any _ _ _ _ hr3 ?_).mono ?_; omega; rintro e w4 ⟨rfl, hbel4⟩; have ST := And.intro (cellB SS.1 hbel4) (cellB SS.2 hbel4); have HB4 := HB3.trans (hbel4.mono HB3.size)))
  go_wp2
  go_ret2
  exact ⟨by rw [hs3.out, sa.out, sgn_neg, sb.out]; rfl, HB4⟩
end Go.Proofs.YthfgpmiammfcaaaDoor
