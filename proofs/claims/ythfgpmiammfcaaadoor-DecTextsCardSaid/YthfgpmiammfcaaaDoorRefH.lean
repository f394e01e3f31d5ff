/-
The reference's To, by its contract.
-/
import Derived.Test.YthfgpmiammfcaaaDoorRefG
namespace Go.Proofs.YthfgpmiammfcaaaDoor
open Go.RowKit
open Num (digs valD cutL Ten)

/-- 2^63. -/
def P63 : Nat := 9223372036854775808
theorem p63_len : (digs P63).length ≤ 20 := Num.digs_length_le (by unfold P63; decide)

theorem ret_ii {k l : IntKind} {a b c d : Int} (h : a = c) (h' : b = d) : Ending.returned (.tuple #[.int k a, .int l b]) = .returned (.tuple #[.int k c, .int l d]) := by rw [h, h']

theorem from_least (w : World) :
    Calls Tryd.prog 18 #[.int .i64 (-9223372036854775808)] w fun e w' => ∃ v, e = .returned (.agg #[.bool true, v]) ∧ Own w.heap.size w' v (digs P63) ∧ Below w.heap.size w w' := from_any (-9223372036854775808) (by decide) (by decide) w

set_option maxRecDepth 20000 in
set_option maxHeartbeats 1000000 in
theorem to_far (w : World) (m : Bool) (va : Value) (n : Nat) (ha : Rd w va (digs n)) (la : (digs n).length ≤ 90) (hn : P63 < n) :
    Calls Tryd.prog 16 #[.agg #[.bool m, va]] w fun e w' => e = .returned (.tuple #[.int .i64 0, .int .i64 31]) ∧ Below w.heap.size w w' := by
  obtain ⟨pa, ca, rfl⟩ := ha.lens rfl
  have hd := decide_eq_true hn
  have hp := p63_len
  have HD := Lib.hid hd; clear hd
  have hfn := field_n
  go_enter Tryd.func16, Tryd.ntmps16
  go_wp2_with fail
  go_must (refine (from_least _).mono ?_); rintro e w1 ⟨v1, rfl, hown1, hbel1⟩
  obtain ⟨hc0, hc1, hf0, hf1, hsz⟩ := two_cells hbel1
  obtain ⟨p1, c1, rfl⟩ := hown1.lens rfl
  go_wp2_with fail
  go_must (refine (less_any _ _ _ _ _ hown1.rd ((ha.alloc _).below hbel1) (by omega) (by omega) true HD.out).mono ?_); rintro e w2 ⟨rfl, hbel2⟩
  go_wp2
  go_ret2
  exact ⟨rfl, ((Below.refl _ w).alloc (Nat.le_refl _) _).trans ((hbel1.trans (hbel2.mono hbel1.size)).mono (by simp))⟩

set_option maxRecDepth 20000 in
set_option maxHeartbeats 1000000 in
theorem to_edge (w : World) (va : Value) (n : Nat) (ha : Rd w va (digs n)) (la : (digs n).length ≤ 90) (hn : P63 = n) :
    Calls Tryd.prog 16 #[.agg #[.bool false, va]] w fun e w' => e = .returned (.tuple #[.int .i64 0, .int .i64 31]) ∧ Below w.heap.size w w' := by
  obtain ⟨pa, ca, rfl⟩ := ha.lens rfl
  have hd : decide (P63 < n) = false := decide_eq_false (by omega)
  have hd2 : decide (n < P63) = false := decide_eq_false (by omega)
  have hp := p63_len
  have HD := Lib.hid hd; clear hd
  have HD2 := Lib.hid hd2; clear hd2 hn
  have hfn := field_n
  go_enter Tryd.func16, Tryd.ntmps16
  go_wp2_with fail
  go_must (refine (from_least _).mono ?_); rintro e w1 ⟨v1, rfl, hown1, hbel1⟩
  obtain ⟨hc0, hc1, hf0, hf1, hsz⟩ := two_cells hbel1
  obtain ⟨p1, c1, rfl⟩ := hown1.lens rfl
  have ha1 := (ha.alloc _).below hbel1
  go_wp2_with fail
  go_must (refine (less_any _ _ _ _ _ hown1.rd ha1 (by omega) (by omega) false HD.out).mono ?_); rintro e w2 ⟨rfl, hbel2⟩
  have hc0' := cellB hc0 hbel2
  have hc1' := cellB hc1 hbel2
  go_wp2_with fail
  go_must (refine (less_any _ _ _ _ _ (ha1.below hbel2) (hown1.below hbel2).rd (by omega) (by omega) false HD2.out).mono ?_); rintro e w3 ⟨rfl, hbel3⟩
  go_wp2
  go_ret2
  have hb := (hbel1.trans (hbel2.mono hbel1.size))
  exact ⟨rfl, ((Below.refl _ w).alloc (Nat.le_refl _) _).trans ((hb.trans (hbel3.mono hb.size)).mono (by simp))⟩

set_option maxRecDepth 20000 in
set_option maxHeartbeats 1000000 in
theorem to_neg (w : World) (va : Value) (n : Nat) (ha : Rd w va (digs n)) (la : (digs n).length ≤ 90) (hn : n ≤ P63) :
    Calls Tryd.prog 16 #[.agg #[.bool true, va]] w fun e w' => e = .returned (.tuple #[.int .i64 (-(n : Int)), .int .i64 0]) ∧ Below w.heap.size w w' := by
  obtain ⟨xs, hxs⟩ : ∃ xs, xs = digs n := ⟨_, rfl⟩
  have tx : Ten xs := hxs ▸ Num.digs_ten n
  have hva : valD xs = n := by rw [hxs, Num.valD_digs]
  obtain ⟨lx, hlx⟩ : ∃ lx, lx = (digs n).length := ⟨_, rfl⟩
  obtain ⟨pa, ca, rfl⟩ := ha.lens hlx
  have hd : decide (P63 < n) = false := decide_eq_false (by omega)
  have hp := p63_len
  have hlx9 : lx ≤ 90 := by omega
  have HD := Lib.hid hd; clear hd
  have HV := Lib.hid hva; clear hva
  have HLX := Lib.hid hlx; clear hlx
  have HXS := Lib.hid hxs; clear hxs
  have hfn := field_n
  go_enter Tryd.func16, Tryd.ntmps16
  go_wp2_with fail
  go_must (refine (from_least _).mono ?_); rintro e w1 ⟨v1, rfl, hown1, hbel1⟩
  obtain ⟨hc0, hc1, hf0, hf1, hsz⟩ := two_cells hbel1
  obtain ⟨p1, c1, rfl⟩ := hown1.lens rfl
  have ha1 := (ha.alloc _).below hbel1
  go_wp2_with fail
  go_must (refine (less_any _ _ _ _ _ hown1.rd ha1 (by omega) (by omega) false HD.out).mono ?_); rintro e w2 ⟨rfl, hbel2⟩
  have hc0' := cellB hc0 hbel2
  have hc1' := cellB hc1 hbel2
  have ha2 := ha1.below hbel2
  have hb := (hbel1.trans (hbel2.mono hbel1.size))
  clear ha ha1 hown1 hbel1 hbel2 hc0 hc1
  go_wp2
  go_loop [4, 6] (fun nv iv => ∃ k : Nat, k ≤ lx ∧ iv = .int .i64 ((k : Int) - 1) ∧ nv = .int .i64 (-((valD (xs.drop k) : Nat) : Int)))
    (fun _ i => (intOf i + 1).toNat)
  case atStart => exact ⟨lx, Nat.le_refl _, by go_num, by rw [List.drop_of_length_le (by rw [HXS.out, ← HLX.out]; exact Nat.le_refl _)]; rfl⟩
  case round =>
    obtain ⟨k, hk, rfl, rfl⟩ := hrel
    cases k with
    | zero =>
      go_wp2
      go_ret2
      exact ⟨ret_ii (by rw [HV.out]) rfl, ((Below.refl _ w).alloc (Nat.le_refl _) _).trans (hb.mono (by simp))⟩
    | succ k =>
      have e1 : (((k + 1 : Nat) : Int) - 1) = (k : Int) := by omega
      rw [e1]
      clear e1
      rcases ha2.cases with ⟨h, h'⟩ | ⟨g, cap, h, hcap, hm, hg, hc⟩
      · have := HLX.out; rw [h'] at this; simp at this; omega
      · simp only [Value.slice.injEq] at h
        obtain ⟨rfl, _, rfl⟩ := h
        have hck := hc k (by rw [← HLX.out]; omega)
        obtain ⟨d, hdd⟩ : ∃ d, (digs n)[k]?.getD 0 = d := ⟨_, rfl⟩
        rw [hdd] at hck
        have hd9 : d < 10 := by rw [← hdd]; exact (Num.digs_ten n).getD k
        have hstep := Num.valD_drop_getD xs k (by rw [HXS.out, ← HLX.out]; omega)
        rw [HXS.out, hdd, ← HXS.out] at hstep
        have hle := Num.valD_drop_le xs k
        rw [HV.out] at hle
        obtain ⟨V, hV⟩ : ∃ V, valD (xs.drop (k + 1)) = V := ⟨_, rfl⟩
        rw [hV] at hstep ⊢
        rw [hstep] at hle
        have hlim : d + 10 * V ≤ 9223372036854775808 := by have := hn; unfold P63 at this; omega
        have HST := Lib.hid hstep; clear hstep hle hdd hc
        have HVV := Lib.hid hV; clear hV
        have hk' : (k : Int) < (lx : Int) := by omega
        go_wp2
        go_round
        case rel => exact ⟨k, by omega, rfl, by rw [HST.out]; go_num⟩
        case measure => simp [intOf]
set_option maxRecDepth 20000 in
set_option maxHeartbeats 1000000 in
theorem to_pos (w : World) (va : Value) (n : Nat) (ha : Rd w va (digs n)) (la : (digs n).length ≤ 90) (hn : n < P63) :
    Calls Tryd.prog 16 #[.agg #[.bool false, va]] w fun e w' => e = .returned (.tuple #[.int .i64 (n : Int), .int .i64 0]) ∧ Below w.heap.size w w' := by
  obtain ⟨xs, hxs⟩ : ∃ xs, xs = digs n := ⟨_, rfl⟩
  have tx : Ten xs := hxs ▸ Num.digs_ten n
  have hva : valD xs = n := by rw [hxs, Num.valD_digs]
  obtain ⟨lx, hlx⟩ : ∃ lx, lx = (digs n).length := ⟨_, rfl⟩
  obtain ⟨pa, ca, rfl⟩ := ha.lens hlx
  have hd : decide (P63 < n) = false := decide_eq_false (by omega)
  have hd2 : decide (n < P63) = true := decide_eq_true hn
  have hp := p63_len
  have HD2 := Lib.hid hd2; clear hd2
  have hlx9 : lx ≤ 90 := by omega
  have HD := Lib.hid hd; clear hd
  have HV := Lib.hid hva; clear hva
  have HLX := Lib.hid hlx; clear hlx
  have HXS := Lib.hid hxs; clear hxs
  have hfn := field_n
  go_enter Tryd.func16, Tryd.ntmps16
  go_wp2_with fail
  go_must (refine (from_least _).mono ?_); rintro e w1 ⟨v1, rfl, hown1, hbel1⟩
  obtain ⟨hc0, hc1, hf0, hf1, hsz⟩ := two_cells hbel1
  obtain ⟨p1, c1, rfl⟩ := hown1.lens rfl
  have ha1 := (ha.alloc _).below hbel1
  go_wp2_with fail
  go_must (refine (less_any _ _ _ _ _ hown1.rd ha1 (by omega) (by omega) false HD.out).mono ?_); rintro e w2 ⟨rfl, hbel2⟩
  have hc0' := cellB hc0 hbel2
  have hc1' := cellB hc1 hbel2
  have ha2 := ha1.below hbel2
  have hb := (hbel1.trans (hbel2.mono hbel1.size))
  go_wp2_with fail
  go_must (refine (less_any _ _ _ _ _ ha2 (hown1.below hbel2).rd (by omega) (by omega) true HD2.out).mono ?_); rintro e w3 ⟨rfl, hbel3⟩
  have hc0'' := cellB hc0' hbel3
  have hc1'' := cellB hc1' hbel3
  replace ha2 := ha2.below hbel3
  replace hb := hb.trans (hbel3.mono hb.size)
  clear ha ha1 hown1 hbel1 hbel2 hbel3 hc0 hc1 hc0' hc1'
  go_wp2
  go_loop [4, 6] (fun nv iv => ∃ k : Nat, k ≤ lx ∧ iv = .int .i64 ((k : Int) - 1) ∧ nv = .int .i64 ((valD (xs.drop k) : Nat) : Int))
    (fun _ i => (intOf i + 1).toNat)
  case atStart => exact ⟨lx, Nat.le_refl _, by go_num, by rw [List.drop_of_length_le (by rw [HXS.out, ← HLX.out]; exact Nat.le_refl _)]; rfl⟩
  case round =>
    obtain ⟨k, hk, rfl, rfl⟩ := hrel
    cases k with
    | zero =>
      go_wp2
      go_ret2
      exact ⟨ret_ii (by rw [HV.out]) rfl, ((Below.refl _ w).alloc (Nat.le_refl _) _).trans (hb.mono (by simp))⟩
    | succ k =>
      have e1 : (((k + 1 : Nat) : Int) - 1) = (k : Int) := by omega
      rw [e1]
      clear e1
      rcases ha2.cases with ⟨h, h'⟩ | ⟨g, cap, h, hcap, hm, hg, hc⟩
      · have := HLX.out; rw [h'] at this; simp at this; omega
      · simp only [Value.slice.injEq] at h
        obtain ⟨rfl, _, rfl⟩ := h
        have hck := hc k (by rw [← HLX.out]; omega)
        obtain ⟨d, hdd⟩ : ∃ d, (digs n)[k]?.getD 0 = d := ⟨_, rfl⟩
        rw [hdd] at hck
        have hd9 : d < 10 := by rw [← hdd]; exact (Num.digs_ten n).getD k
        have hstep := Num.valD_drop_getD xs k (by rw [HXS.out, ← HLX.out]; omega)
        rw [HXS.out, hdd, ← HXS.out] at hstep
        have hle := Num.valD_drop_le xs k
        rw [HV.out] at hle
        obtain ⟨V, hV⟩ : ∃ V, valD (xs.drop (k + 1)) = V := ⟨_, rfl⟩
        rw [hV] at hstep ⊢
        rw [hstep] at hle
        have hlim : d + 10 * V ≤ 9223372036854775807 := by have := hn; unfold P63 at this; omega
        have HST := Lib.hid hstep; clear hstep hle hdd hc
        have HVV := Lib.hid hV; clear hV
        have hk' : (k : Int) < (lx : Int) := by omega
        go_wp2
        go_round
        case rel => exact ⟨k, by omega, rfl, by rw [HST.out]; go_num⟩
        case measure => simp [intOf]
/-- What To answers. -/
def toI (z : Int) : Int × Int := if -9223372036854775808 ≤ z ∧ z ≤ 9223372036854775807 then (z, 0) else (0, 31)
def sgn (m : Bool) (n : Nat) : Int := if m then -(n : Int) else (n : Int)

/-- ref.To. -/
theorem to_any (w : World) (m : Bool) (va : Value) (n : Nat) (ha : Rd w va (digs n)) (la : (digs n).length ≤ 90) :
    Calls Tryd.prog 16 #[.agg #[.bool m, va]] w fun e w' => e = .returned (.tuple #[.int .i64 (toI (sgn m n)).1, .int .i64 (toI (sgn m n)).2]) ∧ Below w.heap.size w w' := by
  have p63 : P63 = 9223372036854775808 := rfl
  by_cases h : P63 < n
  · have e : toI (sgn m n) = (0, 31) := by unfold toI sgn; rw [if_neg]; cases m <;> simp <;> omega
    rw [e]; exact to_far w m va n ha la h
  · cases m
    · by_cases h2 : P63 = n
      · have e : toI (sgn false n) = (0, 31) := by unfold toI sgn; rw [if_neg]; simp; omega
        rw [e]; exact to_edge w va n ha la h2
      · have e : toI (sgn false n) = ((n : Int), 0) := by unfold toI sgn; rw [if_pos]; simp; simp; omega
        rw [e]; exact to_pos w va n ha la (by omega)
    · have e : toI (sgn true n) = (-(n : Int), 0) := by unfold toI sgn; rw [if_pos]; simp; simp; omega
      rw [e]; exact to_neg w va n ha la (by omega)
end Go.Proofs.YthfgpmiammfcaaaDoor
