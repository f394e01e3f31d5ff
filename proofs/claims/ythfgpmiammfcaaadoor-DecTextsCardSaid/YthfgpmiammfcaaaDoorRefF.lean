/-
The reference's numbers with a sign: From, by its contract; Rounded.
-/
import Derived.Test.YthfgpmiammfcaaaDoorRefE
namespace Go.Proofs.YthfgpmiammfcaaaDoor
open Go.RowKit
open Num (digs valD cutL Ten)

/-- ref.Of, at a number that is spelt otherwise. -/
theorem of_z (z : Int) (n : Nat) (hz : z = (n : Int)) (hn : n < 18446744073709551616) (w : World) :
    Calls Tryd.prog 19 #[.int .u64 z] w fun e w' => ∃ v', e = .returned v' ∧ Own w.heap.size w' v' (digs n) ∧ Below w.heap.size w w' := by
  subst hz; exact of_any n hn w

/-- The cells that a call keeps. -/
theorem bcell {W w1 : World} {B : Nat} (hb : Below B W w1) (b o : Nat) (h : b < B) : w1.cell? ⟨b, o, none⟩ = W.cell? ⟨b, o, none⟩ := hb.cell (p := ⟨b, o, none⟩) h
theorem bfroz {W w1 : World} {B : Nat} (hb : Below B W w1) (b o : Nat) (h : b < B) : w1.frozen? ⟨b, o, none⟩ = W.frozen? ⟨b, o, none⟩ := hb.frozen (p := ⟨b, o, none⟩) h

/-- A field of a number that no variable holds. -/
theorem field_n (b : Bool) (p : Option Addr) (n c : Nat) (w : World) : (Instr.field 38 (.agg #[.bool b, .slice p n c]) 1).run Tryd.prog w = .ok (.slice p n c) w := by kernel_rfl
theorem field_m (b : Bool) (p : Option Addr) (n c : Nat) (w : World) : (Instr.field 38 (.agg #[.bool b, .slice p n c]) 0).run Tryd.prog w = .ok (.bool b) w := by kernel_rfl

/-- A new block of two cells, behind a call. -/
theorem two_cells {w w1 : World} {x y : Value} {T : TypeId} (hb : Below (w.alloc (.cells #[x, y] T)).heap.size (w.alloc (.cells #[x, y] T)) w1) :
    w1.cell? ⟨w.heap.size, 0, none⟩ = some x ∧ w1.cell? ⟨w.heap.size, 1, none⟩ = some y ∧ w1.frozen? ⟨w.heap.size, 0, none⟩ = false ∧ w1.frozen? ⟨w.heap.size, 1, none⟩ = false ∧ w.heap.size < w1.heap.size := by
  have h0 : (w.alloc (.cells #[x, y] T)).heap[w.heap.size]? = some (.cells #[x, y] T (0, 0)) := heap_alloc_new w _
  have hs := hb.size
  simp at hs
  refine ⟨?_, ?_, ?_, ?_, by omega⟩
  · rw [bcell hb _ _ (by simp), cell_of_row _ _ 0 _ _ _ h0]; rfl
  · rw [bcell hb _ _ (by simp), cell_of_row _ _ 1 _ _ _ h0]; rfl
  · rw [bfroz hb _ _ (by simp)]; exact frozen_of_row _ _ 0 _ _ h0
  · rw [bfroz hb _ _ (by simp)]; exact frozen_of_row _ _ 1 _ _ h0

/-- A struct of two cells that is stored behind the calls: what the calls made stays. -/
theorem box_end {w w1 : World} {o : Obj} {v : Value} {xs : List Nat} (hb : Below (w.alloc o).heap.size (w.alloc o) w1) (ho : Own (w.alloc o).heap.size w1 v xs) (x y : Value) :
    Own w.heap.size ((w1.setCell ⟨w.heap.size, 0, none⟩ x).setCell ⟨w.heap.size, 1, none⟩ y) v xs ∧ Below w.heap.size w ((w1.setCell ⟨w.heap.size, 0, none⟩ x).setCell ⟨w.heap.size, 1, none⟩ y) :=
  ⟨((ho.setBelow (a := ⟨w.heap.size, 0, none⟩) (by simp) x).setBelow (a := ⟨w.heap.size, 1, none⟩) (by simp) y).base (by simp),
   ((((Below.refl _ w).alloc (Nat.le_refl _) o).trans (hb.mono (by simp))).setCell (Nat.le_refl _) _).setCell (Nat.le_refl _) _⟩

set_option maxRecDepth 20000 in
set_option maxHeartbeats 1000000 in
theorem from_pos (n : Nat) (hn : n ≤ 9223372036854775807) (w : World) :
    Calls Tryd.prog 18 #[.int .i64 (n : Int)] w fun e w' => ∃ v, e = .returned (.agg #[.bool false, v]) ∧ Own w.heap.size w' v (digs n) ∧ Below w.heap.size w w' := by
  have hn0 : ¬ ((n : Int) < 0) := by omega
  go_enter Tryd.func18, Tryd.ntmps18
  go_wp2_with (go_at_call 19; go_must (refine (of_z _ n (by omega) (by omega) _).mono ?_); rintro e w1 ⟨v1, rfl, hown1, hbel1⟩; obtain ⟨p, c, rfl⟩ := hown1.lens rfl; obtain ⟨hc0, hc1, hf0, hf1, hsz⟩ := two_cells hbel1)
  refine bodyPost_ret (v := .agg #[.bool false, .slice p (digs n).length c]) (by simp [results, Tryd.results18, go_sem, hc0, hc1]) rfl ⟨_, rfl, box_end hbel1 hown1 _ _⟩

set_option maxRecDepth 20000 in
set_option maxHeartbeats 1000000 in
theorem from_neg (n : Nat) (hn : n ≤ 9223372036854775808) (hn1 : 1 ≤ n) (w : World) :
    Calls Tryd.prog 18 #[.int .i64 (-(n : Int))] w fun e w' => ∃ v, e = .returned (.agg #[.bool true, v]) ∧ Own w.heap.size w' v (digs n) ∧ Below w.heap.size w w' := by
  have hn0 : (-(n : Int) < 0) := by omega
  have hl1 : (digs (n - 1)).length ≤ 20 := Num.digs_length_le (by omega)
  have hl2 : (digs 1).length ≤ 20 := Num.digs_length_le (by omega)
  have hsum : valD (digs (n - 1)) + valD (digs 1) = n := by rw [Num.valD_digs, Num.valD_digs]; omega
  have HS := Lib.hid hsum; clear hsum
  go_enter Tryd.func18, Tryd.ntmps18
  go_wp2_with fail
  go_must (refine (of_z _ (n - 1) (by omega) (by omega) _).mono ?_); rintro e w1 ⟨v1, rfl, hown1, hbel1⟩
  go_wp2_with fail
  go_must (refine (of_z _ 1 (by omega) (by omega) _).mono ?_); rintro e w2 ⟨v2, rfl, hown2, hbel2⟩
  go_wp2_with fail
  have hbel12 := hbel1.trans (hbel2.mono hbel1.size)
  go_must (refine (plus_any _ _ _ _ _ (hown1.below hbel2).rd hown2.rd (Num.digs_ten _) (Num.digs_ten _) (by omega) (by omega)).mono ?_); rintro e w3 ⟨v3, rfl, hown3, hbel3⟩
  rw [HS.out] at hown3
  obtain ⟨p, c, rfl⟩ := hown3.lens rfl
  have hbel := hbel12.trans (hbel3.mono hbel12.size)
  have hownx := hown3.base (B' := (w.alloc (.cells #[.bool false, .slice none 0 0] 38)).heap.size) hbel12.size
  obtain ⟨hc0, hc1, hf0, hf1, hsz⟩ := two_cells hbel
  clear hbel1 hbel2 hbel3 hbel12 hown1 hown2 hown3
  go_wp2
  refine bodyPost_ret (v := .agg #[.bool true, .slice p (digs n).length c]) (by simp [results, Tryd.results18, go_sem, hc0, hc1]) rfl ⟨_, rfl, box_end hbel hownx _ _⟩

/-- ref.From. -/
theorem from_any (z : Int) (h1 : -9223372036854775808 ≤ z) (h2 : z ≤ 9223372036854775807) (w : World) :
    Calls Tryd.prog 18 #[.int .i64 z] w fun e w' => ∃ v, e = .returned (.agg #[.bool (decide (z < 0)), v]) ∧ Own w.heap.size w' v (digs z.natAbs) ∧ Below w.heap.size w w' := by
  rcases Int.lt_or_le z 0 with h | h
  · have e : z = -((z.natAbs : Nat) : Int) := by omega
    rw [decide_eq_true h]
    have := from_neg z.natAbs (by omega) (by omega) w
    rw [← e] at this
    exact this
  · have e : z = ((z.natAbs : Nat) : Int) := by omega
    rw [decide_eq_false (by omega)]
    have := from_pos z.natAbs (by omega) w
    rw [← e] at this
    exact this

set_option maxRecDepth 20000 in
set_option maxHeartbeats 1000000 in
/-- ref.Rounded. -/
theorem rounded_any (w : World) (va vb : Value) (a b : Nat) (ha : Rd w va (digs a)) (hb : Rd w vb (digs b)) (la : (digs a).length ≤ 90) (lb : (digs b).length ≤ 40) (hb0 : 0 < b) :
    Calls Tryd.prog 42 #[va, vb] w fun e w' => ∃ v, e = .returned v ∧ Rd w' v (digs (a / b + if b ≤ 2 * (a % b) then 1 else 0)) ∧ Below w.heap.size w w' := by
  have hl1 : (digs (a / b)).length ≤ 90 := Nat.le_trans (Num.digs_length_mono (Nat.div_le_self a b)) la
  have hl2 : (digs (a % b)).length ≤ 40 := Nat.le_trans (Num.digs_length_mono (Nat.le_of_lt (Nat.mod_lt a hb0))) lb
  have hl3 : (digs (a % b + a % b)).length ≤ 41 := Num.digs_length_le (by
    have h := Num.valD_lt (Num.digs_ten (a % b)); rw [Num.valD_digs] at h
    have h' := Nat.pow_le_pow_right (show 0 < 10 by decide) hl2
    rw [Nat.pow_succ]; omega)
  have hl4 : (digs 1).length ≤ 20 := Num.digs_length_le (by omega)
  have hs1 : valD (digs (a % b)) + valD (digs (a % b)) = a % b + a % b := by rw [Num.valD_digs]
  have hs2 : valD (digs (a / b)) + valD (digs 1) = a / b + 1 := by rw [Num.valD_digs, Num.valD_digs]
  have HS1 := Lib.hid hs1; clear hs1
  have HS2 := Lib.hid hs2; clear hs2
  by_cases hr : b ≤ 2 * (a % b)
  · rw [if_pos hr]
    have hlt : decide (a % b + a % b < b) = false := decide_eq_false (by omega)
    go_enter Tryd.func42, Tryd.ntmps42
    go_wp2_with fail
    go_must (refine (over_any _ _ _ _ _ ha hb la lb hb0).mono ?_); rintro e w1 ⟨v1, v2, rfl, hq0, hr10, hbel1⟩
    have hq := hq0.rd
    have hr1 := hr10.rd
    go_wp2_with fail
    go_must (refine (plus_any _ _ _ _ _ hr1 hr1 (Num.digs_ten _) (Num.digs_ten _) (by omega) (by omega)).mono ?_); rintro e w2 ⟨v3, rfl, hown2, hbel2⟩
    rw [HS1.out] at hown2
    have hb12 := hbel1.trans (hbel2.mono hbel1.size)
    go_wp2_with fail
    go_must (refine (less_any _ _ _ _ _ hown2.rd (hb.below hb12) (by omega) (by omega) false hlt).mono ?_); rintro e w3 ⟨rfl, hbel3⟩
    have hb13 := hb12.trans (hbel3.mono hb12.size)
    have hq3 := (hq.below hbel2).below hbel3
    go_wp2_with fail
    go_must (refine (of_z _ 1 (by omega) (by omega) _).mono ?_); rintro e w4 ⟨v4, rfl, hown4, hbel4⟩
    have hb14 := hb13.trans (hbel4.mono hb13.size)
    go_wp2_with fail
    go_must (refine (plus_any _ _ _ _ _ (hq3.below hbel4) hown4.rd (Num.digs_ten _) (Num.digs_ten _) (by omega) (by omega)).mono ?_); rintro e w5 ⟨v5, rfl, hown5, hbel5⟩
    rw [HS2.out] at hown5
    have hb15 := hb14.trans (hbel5.mono hb14.size)
    go_wp2
    go_ret
    exact ⟨_, rfl, hown5.rd, hb15⟩
  · rw [if_neg hr, Nat.add_zero]
    have hlt : decide (a % b + a % b < b) = true := decide_eq_true (by omega)
    go_enter Tryd.func42, Tryd.ntmps42
    go_wp2_with fail
    go_must (refine (over_any _ _ _ _ _ ha hb la lb hb0).mono ?_); rintro e w1 ⟨v1, v2, rfl, hq0, hr10, hbel1⟩
    have hq := hq0.rd
    have hr1 := hr10.rd
    go_wp2_with fail
    go_must (refine (plus_any _ _ _ _ _ hr1 hr1 (Num.digs_ten _) (Num.digs_ten _) (by omega) (by omega)).mono ?_); rintro e w2 ⟨v3, rfl, hown2, hbel2⟩
    rw [HS1.out] at hown2
    have hb12 := hbel1.trans (hbel2.mono hbel1.size)
    go_wp2_with fail
    go_must (refine (less_any _ _ _ _ _ hown2.rd (hb.below hb12) (by omega) (by omega) true hlt).mono ?_); rintro e w3 ⟨rfl, hbel3⟩
    have hb13 := hb12.trans (hbel3.mono hb12.size)
    have hq3 := (hq.below hbel2).below hbel3
    go_wp2
    go_ret
    exact ⟨_, rfl, hq3, hb13⟩
end Go.Proofs.YthfgpmiammfcaaaDoor
