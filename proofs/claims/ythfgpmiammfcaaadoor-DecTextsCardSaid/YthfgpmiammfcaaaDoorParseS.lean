/-
The reference's Parse, by its contract: with a sign.
-/
import Derived.Test.YthfgpmiammfcaaaDoorParseR
namespace Go.Proofs.YthfgpmiammfcaaaDoor
open Go.RowKit
open Num (digs valD cutL Ten)

set_option maxRecDepth 20000 in
set_option maxHeartbeats 4000000 in
theorem rparse_minus (s : ByteArray) (hs : s.size ≤ 60) (h0 : 0 < s.size) (hm : (((s[0]'h0).toNat : Int) == 45) = true) (t : ByteArray) (ht : s.extract 1 s.size = t) (hts : t.size ≤ 60) (w : World) :
    Calls Tryd.prog 32 #[.string s] w fun e w' => e = .returned (.tuple #[.int .i64 (rAns true (rF t.data.toList)).1, .bool (rAns true (rF t.data.toList)).2]) ∧ Below w.heap.size w w' := by
  go_enter Tryd.func32, Tryd.ntmps32
  go_wp2
  clear ht
  go_loopw [5, 6, 7] (fun pv hv iv wr => ∃ (k : Nat) (p : Int) (h n : Nat) (v : Value), pv = .int .i64 p ∧ hv = .int .i64 (h : Int) ∧ iv = .int .i64 (k : Int) ∧ k ≤ t.size ∧ -1 ≤ p ∧ p ≤ k ∧ h ≤ k ∧ (digs n).length ≤ k ∧ PSt w.heap.size true wr v n ∧ Below w.heap.size w wr ∧ Hid (rF (t.data.toList.take k) = some (p, h, n)))
    (fun _ _ i _ => t.size - (intOf i).toNat)
  case atStart =>
    refine ⟨0, -1, 0, 0, .slice none 0 0, rfl, rfl, rfl, by omega, by omega, by omega, by omega, by rw [Num.digs_zero]; exact Nat.le_refl _, ⟨?_, ?_, ?_, by rw [Num.digs_zero]; exact Own.nil _ _, by simp⟩, (Below.refl _ w).alloc (Nat.le_refl _) _, rfl⟩
    · rw [cell_of_row _ _ 0 _ _ _ (heap_alloc_new w _)]; rfl
    · rw [cell_of_row _ _ 1 _ _ _ (heap_alloc_new w _)]; rfl
    · exact frozen_of_row _ _ 1 _ _ (heap_alloc_new w _)
  case round =>
    obtain ⟨k, p, h, n, v, rfl, rfl, rfl, hk, hp, hpk, hhk, hnk, hst, hbel, heq⟩ := hrel
    obtain ⟨hc0, hc1, hf1, hown, hB⟩ := hst
    obtain ⟨pa, ca, rfl⟩ := hown.lens rfl
    have hbs := hbel.size
    by_cases hgo : k < t.size
    · have hstep := rF_step hgo
      rw [heq.out] at hstep
      obtain ⟨c, hc⟩ : ∃ c : Nat, (t[k]'hgo).toNat = c := ⟨_, rfl⟩
      have hcb : c < 256 := by rw [← hc]; exact (t[k]'hgo).toNat_lt
      simp only [rStep, hc] at hstep
      have HST := Lib.hid hstep; clear hstep
      rcases (show (c = 46 ∧ p < 0) ∨ ((c < 48 ∨ 57 < c) ∧ (c ≠ 46 ∨ 0 ≤ p)) ∨ (48 ≤ c ∧ c ≤ 57 ∧ p < 0) ∨ (48 ≤ c ∧ c ≤ 57 ∧ 0 ≤ p) from by omega) with ⟨g, g'⟩ | ⟨g, g'⟩ | ⟨g, g', g''⟩ | ⟨g, g', g''⟩
      · subst g
        have hnx := HST.out
        rw [if_pos ⟨rfl, g'⟩] at hnx
        have HNX := Lib.hid hnx; clear hnx
        go_wp2
        go_roundw
        case rel => exact ⟨k + 1, 0, h, n, _, rfl, rfl, by go_num, by omega, by omega, by omega, by omega, by omega, ⟨hc0, hc1, hf1, hown, hB⟩, hbel, HNX.out⟩
        case measure => simp [intOf]; omega
      · have hnx := HST.out
        rw [if_neg (by omega), if_pos g] at hnx
        have hnx2 := rF_none_take hnx
        have HNX := Lib.hid hnx2; clear hnx hnx2
        rcases (show (c = 46 ∧ 0 ≤ p) ∨ (c ≠ 46 ∧ c < 48) ∨ (c ≠ 46 ∧ 48 ≤ c ∧ 57 < c) from by omega) with ⟨j1, j2⟩ | ⟨j1, j2⟩ | ⟨j1, j2, j3⟩
        all_goals go_wp2
        all_goals go_ret2
        all_goals exact ⟨by rw [HNX.out]; rfl, hbel⟩
      all_goals
        obtain ⟨d, hd⟩ : ∃ d : Nat, c = 48 + d := ⟨c - 48, by omega⟩
        subst hd
        have hd9 : d < 10 := by omega
        have hsn := Num.digs_snoc (r := n) hd9
        have HSN := Lib.hid hsn; clear hsn
        have hnx := HST.out
        rw [if_neg (by omega), if_neg (by omega)] at hnx
        first | rw [if_pos g''] at hnx | rw [if_neg (by omega)] at hnx
        rw [show n * 10 + (48 + d - 48) = d + 10 * n from by omega] at hnx
        have HNX := Lib.hid hnx; clear hnx
        have hln := len_snoc hd9 hnk
        obtain ⟨wo, hwo⟩ : ∃ wo : World, wo = wr := ⟨_, rfl⟩
        subst hwo
        have hbA : Below wo.heap.size wo (wo.alloc (.cells #[.int .u8 (d : Int)] 5)).drew := ((Below.refl _ wo).alloc (Nat.le_refl _) _).drew
        have hw8 : IntKind.u8.wrap (48 + (d : Int) - 48) = (d : Int) := by
          rw [show (48 + (d : Int) - 48) = (d : Int) from by omega]
          simp [IntKind.wrap, IntKind.bits, IntKind.signed]
          omega
        have hl1 : [d].length + (digs n).length ≤ 1000000 := by simp; omega
        have hl2 : ([d] ++ digs n).length ≤ 1000 := by simp; omega
        go_wp2
        go_region_law (first
          | (refine step_appN rfl _ _ rfl _ _ _ rfl (own_lit1 _ d).drew _ _ rfl (hown.alloc _).drew.rd hl1 hbA.size ?_; intro v3 w3 hown3 hbel3 hsz3; have hb3 := hbA.trans hbel3; have hx0 := cellB hc0 hb3; have hx1 := cellB hc1 hb3; have hf3 := frozB hc1 hf1 hb3)
          | (refine step_appN rfl _ _ rfl _ _ _ rfl (own_lit1 _ d) _ _ rfl (hown.drew.alloc _).rd hl1 hbA.size ?_; intro v3 w3 hown3 hbel3 hsz3; have hb3 := hbA.trans hbel3; have hx0 := cellB hc0 hb3; have hx1 := cellB hc1 hb3; have hf3 := frozB hc1 hf1 hb3)
          | (go_simp; go_at_call 38; refine (cut_any _ _ _ _ hown3 hl2).mono ?_; rintro e w4 ⟨v4, rfl, hown4, rfl⟩; have hown5 := HSN.out ▸ hown4; obtain ⟨p4, c4, rfl⟩ := hown5.lens rfl))
        all_goals
          have hbs3 := hb3.size
          have hps := pst_store hx0 hx1 hf3 (by omega) (hown5.base (B' := w.heap.size + 1) (by omega))
          have hbl5 : Below w.heap.size w (w3.setCell ⟨w.heap.size, 1, none⟩ (.slice p4 (digs (d + 10 * n)).length c4)) := (hbel.trans (hb3.mono hbs)).setCell (Nat.le_refl _) _
          clear hx0 hx1 hf3 hown3 hown4 hown5 hc0 hc1 hf1 hown hbA
          go_wp2
        all_goals go_roundw
        all_goals first
          | exact ⟨k + 1, _, _, d + 10 * n, _, rfl, by go_num, by go_num, by omega, by omega, by omega, by omega, hln, hps, hbl5, HNX.out⟩
          | (simp [intOf]; omega)
    · obtain rfl : k = t.size := by omega
      have hfin := heq.out
      rw [List.take_of_length_le (by simp)] at hfin
      have HF := Lib.hid hfin; clear hfin
      rcases (show h = 0 ∨ (0 < h ∧ p = 0) ∨ (0 < h ∧ 6 < p) ∨ (0 < h ∧ p ≠ 0 ∧ p ≤ 6) from by omega) with j1 | ⟨j1, j2⟩ | ⟨j1, j2⟩ | ⟨j1, j2, j3⟩
      · have hans : rAns true (rF t.data.toList) = (0, false) := by
          rw [HF.out]; simp only [rAns]; rw [if_pos (Or.inl j1)]
        have HA := Lib.hid hans; clear hans
        go_wp2
        all_goals go_ret2
        all_goals exact ⟨by rw [HA.out]; rfl, hbel⟩
      · have hans : rAns true (rF t.data.toList) = (0, false) := by
          rw [HF.out]; simp only [rAns]; rw [if_pos (Or.inr (Or.inl j2))]
        have HA := Lib.hid hans; clear hans
        go_wp2
        all_goals go_ret2
        all_goals exact ⟨by rw [HA.out]; rfl, hbel⟩
      · have hans : rAns true (rF t.data.toList) = (0, false) := by
          rw [HF.out]; simp only [rAns]; rw [if_pos (Or.inr (Or.inr j2))]
        have HA := Lib.hid hans; clear hans
        go_wp2
        all_goals go_ret2
        all_goals exact ⟨by rw [HA.out]; rfl, hbel⟩
      · have hans : rAns true (rF t.data.toList) = ((toI (sgn true (n * 10 ^ (6 - p.toNat)))).1, (toI (sgn true (n * 10 ^ (6 - p.toNat)))).2 == 0) := by
          rw [HF.out]; simp only [rAns]; rw [if_neg (by omega)]
        have HA := Lib.hid hans; clear hans
        have q1 : ((h : Int) == 0) = false := by rw [beq_eq_false_iff_ne]; omega
        have q2 : (p == 0) = false := by rw [beq_eq_false_iff_ne]; omega
        have q3 : decide (6 < p) = false := by simp; omega
        go_wp2
        go_loopw [8] (fun iv wr => ∃ (i n' : Nat) (v : Value), iv = .int .i64 (i : Int) ∧ p.toNat ≤ i ∧ i ≤ 6 ∧ (digs n').length ≤ 60 + i ∧ PSt w.heap.size true wr v n' ∧ Below w.heap.size w wr ∧ Hid (n' = n * 10 ^ (i - p.toNat)))
          (fun iv _ => 6 - (intOf iv).toNat)
        case atStart =>
          refine ⟨p.toNat, n, _, ?_, Nat.le_refl _, by omega, by omega, ⟨hc0, hc1, hf1, hown, hB⟩, hbel, ?_⟩
          · rw [show (max p 0 : Int) = (p.toNat : Int) from by omega]
          · show n = _; rw [Nat.sub_self, Nat.pow_zero, Nat.mul_one]
        case round =>
          clear hc0 hc1 hf1 hown hB hbel hbs
          obtain ⟨i, n', v, rfl, hpi, hi6, hln, hst, hbel, hnv⟩ := hrel
          obtain ⟨hc0, hc1, hf1, hown, hB⟩ := hst
          obtain ⟨pa, ca, rfl⟩ := hown.lens rfl
          have hbs := hbel.size
          by_cases hgi : i < 6
          · have hsn := Num.digs_snoc (r := n') (show 0 < 10 by decide)
            rw [Nat.zero_add] at hsn
            have HSN := Lib.hid hsn; clear hsn
            have hln2 := len_snoc (show 0 < 10 by decide) hln
            rw [Nat.zero_add] at hln2
            have hnx : 10 * n' = n * 10 ^ (i + 1 - p.toNat) := by
              rw [hnv.out, show i + 1 - p.toNat = (i - p.toNat) + 1 from by omega, Nat.pow_succ, Nat.mul_comm 10, Nat.mul_assoc]
            have HNX := Lib.hid hnx; clear hnx
            obtain ⟨wo, hwo⟩ : ∃ wo : World, wo = wr := ⟨_, rfl⟩
            subst hwo
            have hbA : Below wo.heap.size wo (wo.alloc (.cells #[.int .u8 0] 5)) := (Below.refl _ wo).alloc (Nat.le_refl _) _
            have hl1 : [0].length + (digs n').length ≤ 1000000 := by simp; omega
            have hl2 : ([0] ++ digs n').length ≤ 1000 := by simp; omega
            go_wp2_with (first
              | (at_builtin; go_must (refine wp_appN rfl _ _ rfl _ _ _ rfl (own_zero _) _ _ rfl (hown.alloc _).rd hl1 hbA.size ?_); intro v3 w3 hown3 hbel3 hsz3; have hb3 := hbA.trans hbel3; have hx0 := cellB hc0 hb3; have hx1 := cellB hc1 hb3; have hf3 := frozB hc1 hf1 hb3)
              | (go_at_call 38; go_must (refine (cut_any _ _ _ _ hown3 hl2).mono ?_); rintro e w4 ⟨v4, rfl, hown4, rfl⟩; have hown5 := HSN.out ▸ hown4; obtain ⟨p4, c4, rfl⟩ := hown5.lens rfl))
            have hbs3 := hb3.size
            have hps := pst_store hx0 hx1 hf3 (by omega) (hown5.base (B' := w.heap.size + 1) (by omega))
            have hbl5 : Below w.heap.size w (w3.setCell ⟨w.heap.size, 1, none⟩ (.slice p4 (digs (10 * n')).length c4)) := (hbel.trans (hb3.mono hbs)).setCell (Nat.le_refl _) _
            go_roundw
            case rel => exact ⟨i + 1, 10 * n', _, by go_num, by omega, by omega, by omega, hps, hbl5, HNX.out⟩
            case measure => simp [intOf]; omega
          · obtain rfl : i = 6 := by omega
            go_wp2_with fail
            go_must (refine (to_any _ true _ n' hown.rd (by omega)).mono ?_); rintro e w6 ⟨rfl, hbel6⟩
            have hb6 := hbel.trans (hbel6.mono hbs)
            rw [← hnv.out] at HA
            go_wp2
            go_ret2
            exact ⟨by rw [HA.out]; rfl, hb6⟩

end Go.Proofs.YthfgpmiammfcaaaDoor
