/-
The law WireTakes, over the Reader's contracts.
-/
import Derived.Test.YtcgkigcokjdkjaaWReadOk
import Derived.Test.YtcgkigcokjdkjaaWPuts
namespace Go.Proofs.Ytcgkigcokjdkjaa
open Go.RowKit
open Wire (numL valL takeL runL bytesL)

theorem runL_le (b : List Nat) : (runL b).2 ≤ b.length := by
  have h := Wire.takeL_le b
  unfold runL
  split
  · exact Nat.zero_le _
  · simp only; omega
theorem takeL_nil : takeL [] = (0, 0) := Wire.take_none (fun j y _ h => by simp at h)
theorem runL_nil : runL [] = ([], 0) := by
  unfold runL; rw [takeL_nil]; simp

theorem end_eq (p : Nat) : (!false && decide (p = 0)) = ((p : Int) == 0) := by
  by_cases h : p = 0 <;> simp [h]
set_option maxRecDepth 20000 in
theorem takes_long (A : Option Addr) (n c : Nat) (vl : Value) (hn : 3000 < n) (hm : n ≤ maxLen) (w : World) :
    Calls Try.prog 4 #[.slice A n c, vl] w fun e w' => e = .returned (.bool true) ∧ Below w.heap.size w w' := by
  clear hm
  go_enter Try.func4, Try.ntmps4
  go_wp2_with (go_at_call 6; (with_reducible refine (awake_any _).mono ?_); rintro e w1 ⟨rfl, hb1⟩)
  go_ret
  exact ⟨rfl, hb1⟩

set_option maxRecDepth 20000 in
set_option maxHeartbeats 4000000 in
theorem takes_form {R : Nat → World → Nat → List Nat → Bool → Prop} (K : ReaderOk R) (xs : List Nat) (nb cb : Nat) (Ab : Option Addr) (hnb : nb = xs.length) (hlb : nb ≤ 3000) (hxs : ∀ x ∈ xs, x < 256)
    (l : List (Int × Nat × List Nat)) (n c : Nat) (A : Option Addr) (hn : n = l.length) (hf : FitAct l) (w : World) (hb : Rd w (.slice Ab nb cb) xs) (h : RdAct w (.slice A n c) l) :
    Calls Try.prog 4 #[.slice Ab nb cb, .slice A n c] w fun e w' => e = .returned (.bool true) ∧ Below w.heap.size w w' := by
  have hread := K.read _ xs w hb (by omega) hxs
  have HREAD := Lib.hid hread
  have HN := Lib.hid hn
  have HF := Lib.hid hf
  have HR := Lib.hid h
  have HB := Lib.hid hb
  have HXS := Lib.hid hxs
  have HNB := Lib.hid hnb
  clear hread hn hf h hb hxs hnb
  go_enter Try.func4, Try.ntmps4
  go_wp2_with (go_at_call 13; (with_reducible refine (HREAD.out).mono ?_); rintro e w1 ⟨g, rfl, hr1, hb1⟩; have HR1 := Lib.hid hr1; clear hr1)
  go_loopw [0, 6, 7] (fun a bd i wr => ∃ (k nb' cb' : Nat) (Ab' : Option Addr) (bs : List Nat) (bad : Bool), k ≤ n ∧ k ≤ 40 ∧ a = .slice Ab' nb' cb' ∧ bd = .bool bad ∧ i = .int .i64 (k : Int) ∧ nb' ≤ 3000 ∧
      Hid (nb' = bs.length) ∧ Hid (Rd w (.slice Ab' nb' cb') bs) ∧ Hid (∀ x ∈ bs, x < 256) ∧ Hid (R w.heap.size wr g bs bad) ∧ Below w.heap.size w wr) (fun _ _ i _ => n - (intOf i).toNat)
  case atStart => exact ⟨0, nb, cb, Ab, xs, false, Nat.zero_le _, Nat.zero_le _, rfl, rfl, rfl, hlb, HNB, HB, HXS, HR1, hb1⟩
  case round =>
    obtain ⟨k, nb', cb', Ab', bs, bad, hk, hk40, rfl, rfl, rfl, hlb', HNB', HB', HXS', HRR, hbel⟩ := hrel
    clear HREAD HR1 HB HXS HNB
    by_cases hkn : k < n
    · by_cases hk4 : k < 40
      · obtain ⟨⟨kd, nn, abs⟩, hx⟩ : ∃ x, l[k]? = some x := ⟨_, List.getElem?_eq_getElem (by rw [← HN.out]; exact hkn)⟩
        obtain ⟨bA, offA, A2, m2, c2, rfl, hm2, hcs⟩ := HR.out.at_ hx
        obtain ⟨⟨hkd1, hkd2⟩, hnn, habs⟩ := HF.out _ (List.mem_of_getElem? hx)
        simp only at hkd1 hkd2 hnn
        have HCS := Lib.hid hcs
        have htl := Wire.takeL_le bs
        have hrl := runL_le bs
        have htz := @Wire.takeL_zero bs
        have htake := fun w2 (hb : Below w.heap.size w w2) => rtake_any _ bs w2 (HB'.out.below hb) (by have := HNB'.out; omega) HXS'.out
        have hrun := fun w2 (hb : Below w.heap.size w w2) => rrun_any _ bs w2 (HB'.out.below hb) (by have := HNB'.out; omega) HXS'.out
        rw [← HNB'.out] at htl hrl
        obtain ⟨htl, ht64⟩ := htl
        clear hx hcs habs hm2
        by_cases hk0 : kd = 0
        · subst hk0
          have hnum := fun w2 (hr : R w.heap.size w2 g bs bad) (hB : w.heap.size ≤ w2.heap.size) => K.num w.heap.size g bs bad w2 hr hB (by have := HNB'.out; omega) HXS'.out
          have HRUN := Lib.hid hrun
          by_cases htk : (takeL bs).2 = 0
          · rw [htz htk, htk] at htake hnum
            have HTAKE := Lib.hid htake
            have HNUM := Lib.hid hnum
            clear htake hnum htl hrl htz htk ht64 hrun
            have hq := fun W => slice_run Ab' nb' cb' 0 (Nat.zero_le _) W
            obtain ⟨A0, n0, c0', hq0⟩ : ∃ A0 n0 c0', sliceV Ab' nb' cb' 0 = .slice A0 n0 c0' := ⟨_, _, _, rfl⟩
            rw [hq0] at hq
            simp only [Int.natCast_zero] at hq
            have KL := Lib.hid (fun w5 (hr : R w.heap.size w5 g [] true) => (show Calls Try.prog 20 #[.pointer (some ⟨g, 0, none⟩)] w5 fun e w' => e = .returned (.int .i64 0) ∧ w5 = w' from K.left _ _ _ _ _ hr (by simp)))
            have KF := Lib.hid (fun w5 (hr : R w.heap.size w5 g [] true) => (show Calls Try.prog 21 #[.pointer (some ⟨g, 0, none⟩)] w5 fun e w' => e = .returned (.bool false) ∧ w5 = w' from K.fine _ _ _ _ _ hr))
            have KE := Lib.hid (fun w5 (hr : R w.heap.size w5 g [] true) => (show Calls Try.prog 22 #[.pointer (some ⟨g, 0, none⟩)] w5 fun e w' => e = .returned (.bool false) ∧ w5 = w' from K.end_ _ _ _ _ _ hr (by simp)))
            clear hq0
            go_wp2_with (first
              | (go_at_call 14; (with_reducible refine (HTAKE.out _ hbel).mono ?_); rintro e w2 ⟨rfl, hb2⟩; have hbel2 : Below w.heap.size w w2 := hbel.trans (hb2.mono hbel.size); have HRR2 := Lib.hid (K.keep HRR.out hb2); clear hb2)
              | (go_at_call 15; (with_reducible refine (HRUN.out _ hbel2).mono ?_); rintro e w3 ⟨v10, rfl, hv10, hb3⟩; have hbel3 : Below w.heap.size w w3 := hbel2.trans (hb3.mono hbel2.size); have HRR3 := Lib.hid (K.keep HRR2.out hb3); have HX10 := Lib.hid (hv10 w HB'.out); obtain ⟨c0, c1, _, _⟩ := HCS.out w3 hbel3; (try simp only at c0 c1); clear hb3 hv10)
              | (go_at_call 16; (with_reducible refine (HNUM.out _ HRR3.out hbel3.size).mono ?_); rintro e w4 ⟨rfl, hr4, hb4⟩; have hbel4 : Below w.heap.size w w4 := hbel3.trans hb4; have HRR4 := Lib.hid (show R w.heap.size w4 g [] true from hr4); clear hr4 hb4)
              | (go_at_call 20; (with_reducible refine (KL.out _ HRR4.out).mono ?_); rintro e w5 ⟨rfl, rfl⟩)
              | (go_at_call 21; (with_reducible refine (KF.out _ HRR4.out).mono ?_); rintro e w5 ⟨rfl, rfl⟩)
              | (go_at_call 22; (with_reducible refine (KE.out _ HRR4.out).mono ?_); rintro e w5 ⟨rfl, rfl⟩))
            all_goals
              go_roundw
              case rel => exact ⟨k + 1, 0, 0, none, [], true, by omega, by omega, rfl, rfl, by go_num, by omega, Lib.hid rfl, Lib.hid (.inl ⟨none, 0, rfl, rfl, fun _ => rfl⟩), Lib.hid (by simp), HRR4, hbel4⟩
              case measure => simp [intOf]; omega
          · have hpos := htk
            have hbad : bad = false := by
              cases hbd : bad
              · rfl
              · have e := K.fails HRR.out hbd
                rw [e, takeL_nil] at hpos
                exact absurd rfl hpos
            subst hbad
            have hq := fun W => slice_run Ab' nb' cb' (takeL bs).2 (by omega) W
            have hdr := HB'.out.cutV (takeL bs).2 (by omega)
            obtain ⟨AA, p, cc, hsv, hp⟩ : ∃ AA p cc, sliceV Ab' nb' cb' (takeL bs).2 = .slice AA p cc ∧ p = nb' - (takeL bs).2 := ⟨_, _, _, rfl, rfl⟩
            rw [hsv] at hq hdr
            have hdl : (bs.drop (takeL bs).2).length = p := by rw [List.length_drop, ← HNB'.out, hp]
            have hdx : ∀ x ∈ bs.drop (takeL bs).2, x < 256 := fun x hx => HXS'.out x (List.mem_of_mem_drop hx)
            have hp3 : p ≤ 3000 := by omega
            have tm : (((takeL bs).2 : Int) == 0) = false := by simp; omega
            have KL := Lib.hid (fun w5 (hr : R w.heap.size w5 g (bs.drop (takeL bs).2) false) => (show Calls Try.prog 20 #[.pointer (some ⟨g, 0, none⟩)] w5 fun e w' => e = .returned (.int .i64 (p : Int)) ∧ w5 = w' from by rw [← hdl]; exact K.left _ _ _ _ _ hr (by omega)))
            have KF := Lib.hid (fun w5 (hr : R w.heap.size w5 g (bs.drop (takeL bs).2) false) => (show Calls Try.prog 21 #[.pointer (some ⟨g, 0, none⟩)] w5 fun e w' => e = .returned (.bool true) ∧ w5 = w' from K.fine _ _ _ _ _ hr))
            have KE := Lib.hid (fun w5 (hr : R w.heap.size w5 g (bs.drop (takeL bs).2) false) => (show Calls Try.prog 22 #[.pointer (some ⟨g, 0, none⟩)] w5 fun e w' => e = .returned (.bool ((p : Int) == 0)) ∧ w5 = w' from by
              have h := K.end_ _ _ _ _ _ hr (by omega)
              rw [hdl, end_eq] at h; exact h))
            have HDR := Lib.hid hdr
            have HDL := Lib.hid hdl
            have HDX := Lib.hid hdx
            clear hdr hdl hdx hp hsv
            rw [show leftS bs false (takeL bs).2 = (bs.drop (takeL bs).2, false) from if_neg htk] at hnum
            generalize (takeL bs).1 = tn at *
            generalize (takeL bs).2 = tk at *
            have HTAKE := Lib.hid htake
            have HNUM := Lib.hid hnum
            clear htake hnum htl hrl htz htk ht64 hrun hpos
            go_wp2_with (first
              | (go_at_call 14; (with_reducible refine (HTAKE.out _ hbel).mono ?_); rintro e w2 ⟨rfl, hb2⟩; have hbel2 : Below w.heap.size w w2 := hbel.trans (hb2.mono hbel.size); have HRR2 := Lib.hid (K.keep HRR.out hb2); clear hb2)
              | (go_at_call 15; (with_reducible refine (HRUN.out _ hbel2).mono ?_); rintro e w3 ⟨v10, rfl, hv10, hb3⟩; have hbel3 : Below w.heap.size w w3 := hbel2.trans (hb3.mono hbel2.size); have HRR3 := Lib.hid (K.keep HRR2.out hb3); have HX10 := Lib.hid (hv10 w HB'.out); obtain ⟨c0, c1, _, _⟩ := HCS.out w3 hbel3; (try simp only at c0 c1); clear hb3 hv10)
              | (go_at_call 16; (with_reducible refine (HNUM.out _ HRR3.out hbel3.size).mono ?_); rintro e w4 ⟨rfl, hr4, hb4⟩; have hbel4 : Below w.heap.size w w4 := hbel3.trans hb4; have HRR4 := Lib.hid (show R w.heap.size w4 g (bs.drop tk) false from hr4); clear hr4 hb4)
              | (go_at_call 20; (with_reducible refine (KL.out _ HRR4.out).mono ?_); rintro e w5 ⟨rfl, rfl⟩)
              | (go_at_call 21; (with_reducible refine (KF.out _ HRR4.out).mono ?_); rintro e w5 ⟨rfl, rfl⟩)
              | (go_at_call 22; (with_reducible refine (KE.out _ HRR4.out).mono ?_); rintro e w5 ⟨rfl, rfl⟩))
            go_roundw
            case rel => exact ⟨k + 1, _, _, _, _, _, by omega, by omega, rfl, rfl, by go_num, hp3, Lib.hid HDL.out.symm, HDR, HDX, HRR4, hbel4⟩
            case measure => simp [intOf]; omega
        · by_cases hk3 : kd = 3
          · subst hk3
            obtain ⟨ms, hms⟩ : ∃ ms : Nat, ms = nn % 1000 := ⟨_, rfl⟩
            have hms2 : (nn : Int) % 1000 = (ms : Int) := by omega
            have hms3 : ms < 1000 := by omega
            have hint := fun w2 (hr : R w.heap.size w2 g bs bad) (hB : w.heap.size ≤ w2.heap.size) => K.int w.heap.size g bs bad (ms : Int) w2 hr hB (by have := HNB'.out; omega) HXS'.out (by omega) (by omega)
            have HRUN := Lib.hid hrun
            clear hms
            by_cases htk : (takeL bs).2 = 0
            · have e1 : intV bs (ms : Int) = 0 := if_pos (Or.inl htk)
              have e2 : intN bs (ms : Int) = 0 := if_pos (Or.inl htk)
              rw [e1, e2] at hint
              rw [htz htk, htk] at htake
              have HTAKE := Lib.hid htake
              have HINT := Lib.hid hint
              clear htake hint htl hrl htz htk ht64 hrun e1 e2
              have hq := fun W => slice_run Ab' nb' cb' 0 (Nat.zero_le _) W
              obtain ⟨A0, n0, c0', hq0⟩ : ∃ A0 n0 c0', sliceV Ab' nb' cb' 0 = .slice A0 n0 c0' := ⟨_, _, _, rfl⟩
              rw [hq0] at hq
              simp only [Int.natCast_zero] at hq
              have KL := Lib.hid (fun w5 (hr : R w.heap.size w5 g [] true) => (show Calls Try.prog 20 #[.pointer (some ⟨g, 0, none⟩)] w5 fun e w' => e = .returned (.int .i64 0) ∧ w5 = w' from K.left _ _ _ _ _ hr (by simp)))
              have KF := Lib.hid (fun w5 (hr : R w.heap.size w5 g [] true) => (show Calls Try.prog 21 #[.pointer (some ⟨g, 0, none⟩)] w5 fun e w' => e = .returned (.bool false) ∧ w5 = w' from K.fine _ _ _ _ _ hr))
              have KE := Lib.hid (fun w5 (hr : R w.heap.size w5 g [] true) => (show Calls Try.prog 22 #[.pointer (some ⟨g, 0, none⟩)] w5 fun e w' => e = .returned (.bool false) ∧ w5 = w' from K.end_ _ _ _ _ _ hr (by simp)))
              clear hq0
              go_wp2_with (first
                | (go_at_call 14; (with_reducible refine (HTAKE.out _ hbel).mono ?_); rintro e w2 ⟨rfl, hb2⟩; have hbel2 : Below w.heap.size w w2 := hbel.trans (hb2.mono hbel.size); have HRR2 := Lib.hid (K.keep HRR.out hb2); clear hb2)
                | (go_at_call 15; (with_reducible refine (HRUN.out _ hbel2).mono ?_); rintro e w3 ⟨v10, rfl, hv10, hb3⟩; have hbel3 : Below w.heap.size w w3 := hbel2.trans (hb3.mono hbel2.size); have HRR3 := Lib.hid (K.keep HRR2.out hb3); have HX10 := Lib.hid (hv10 w HB'.out); obtain ⟨c0, c1, _, _⟩ := HCS.out w3 hbel3; (try simp only at c0 c1); clear hb3 hv10)
                | (go_at_call 17; (with_reducible refine (HINT.out _ HRR3.out hbel3.size).mono ?_); rintro e w4 ⟨rfl, hr4, hb4⟩; have hbel4 : Below w.heap.size w w4 := hbel3.trans hb4; have HRR4 := Lib.hid (show R w.heap.size w4 g [] true from hr4); clear hr4 hb4)
                | (go_at_call 20; (with_reducible refine (KL.out _ HRR4.out).mono ?_); rintro e w5 ⟨rfl, rfl⟩)
                | (go_at_call 21; (with_reducible refine (KF.out _ HRR4.out).mono ?_); rintro e w5 ⟨rfl, rfl⟩)
                | (go_at_call 22; (with_reducible refine (KE.out _ HRR4.out).mono ?_); rintro e w5 ⟨rfl, rfl⟩))
              all_goals
                go_roundw
                case rel => exact ⟨k + 1, 0, 0, none, [], true, by omega, by omega, rfl, rfl, by go_num, by omega, Lib.hid rfl, Lib.hid (.inl ⟨none, 0, rfl, rfl, fun _ => rfl⟩), Lib.hid (by simp), HRR4, hbel4⟩
                case measure => simp [intOf]; omega
            · by_cases hgt : ms < (takeL bs).1
              · have e1 : intV bs (ms : Int) = 0 := if_pos (Or.inr (by omega))
                have e2 : intN bs (ms : Int) = 0 := if_pos (Or.inr (by omega))
                rw [e1, e2] at hint
                have hgt2 : (ms : Int) < ((takeL bs).1 : Int) := by omega
                generalize (takeL bs).1 = tn at *
                generalize (takeL bs).2 = tk at *
                have HTAKE := Lib.hid htake
                have HINT := Lib.hid hint
                clear htake hint hrl htz htk ht64 hrun e1 e2 hgt
                have hq := fun W => slice_run Ab' nb' cb' 0 (Nat.zero_le _) W
                obtain ⟨A0, n0, c0', hq0⟩ : ∃ A0 n0 c0', sliceV Ab' nb' cb' 0 = .slice A0 n0 c0' := ⟨_, _, _, rfl⟩
                rw [hq0] at hq
                simp only [Int.natCast_zero] at hq
                have KL := Lib.hid (fun w5 (hr : R w.heap.size w5 g [] true) => (show Calls Try.prog 20 #[.pointer (some ⟨g, 0, none⟩)] w5 fun e w' => e = .returned (.int .i64 0) ∧ w5 = w' from K.left _ _ _ _ _ hr (by simp)))
                have KF := Lib.hid (fun w5 (hr : R w.heap.size w5 g [] true) => (show Calls Try.prog 21 #[.pointer (some ⟨g, 0, none⟩)] w5 fun e w' => e = .returned (.bool false) ∧ w5 = w' from K.fine _ _ _ _ _ hr))
                have KE := Lib.hid (fun w5 (hr : R w.heap.size w5 g [] true) => (show Calls Try.prog 22 #[.pointer (some ⟨g, 0, none⟩)] w5 fun e w' => e = .returned (.bool false) ∧ w5 = w' from K.end_ _ _ _ _ _ hr (by simp)))
                clear hq0
                go_wp2_with (first
                  | (go_at_call 14; (with_reducible refine (HTAKE.out _ hbel).mono ?_); rintro e w2 ⟨rfl, hb2⟩; have hbel2 : Below w.heap.size w w2 := hbel.trans (hb2.mono hbel.size); have HRR2 := Lib.hid (K.keep HRR.out hb2); clear hb2)
                  | (go_at_call 15; (with_reducible refine (HRUN.out _ hbel2).mono ?_); rintro e w3 ⟨v10, rfl, hv10, hb3⟩; have hbel3 : Below w.heap.size w w3 := hbel2.trans (hb3.mono hbel2.size); have HRR3 := Lib.hid (K.keep HRR2.out hb3); have HX10 := Lib.hid (hv10 w HB'.out); obtain ⟨c0, c1, _, _⟩ := HCS.out w3 hbel3; (try simp only at c0 c1); clear hb3 hv10)
                  | (go_at_call 17; (with_reducible refine (HINT.out _ HRR3.out hbel3.size).mono ?_); rintro e w4 ⟨rfl, hr4, hb4⟩; have hbel4 : Below w.heap.size w w4 := hbel3.trans hb4; have HRR4 := Lib.hid (show R w.heap.size w4 g [] true from hr4); clear hr4 hb4)
                  | (go_at_call 20; (with_reducible refine (KL.out _ HRR4.out).mono ?_); rintro e w5 ⟨rfl, rfl⟩)
                  | (go_at_call 21; (with_reducible refine (KF.out _ HRR4.out).mono ?_); rintro e w5 ⟨rfl, rfl⟩)
                  | (go_at_call 22; (with_reducible refine (KE.out _ HRR4.out).mono ?_); rintro e w5 ⟨rfl, rfl⟩))
                all_goals
                  go_roundw
                  case rel => exact ⟨k + 1, 0, 0, none, [], true, by omega, by omega, rfl, rfl, by go_num, by omega, Lib.hid rfl, Lib.hid (.inl ⟨none, 0, rfl, rfl, fun _ => rfl⟩), Lib.hid (by simp), HRR4, hbel4⟩
                  case measure => simp [intOf]; omega
              · have hpos := htk
                have hbad : bad = false := by
                  cases hbd : bad
                  · rfl
                  · have e := K.fails HRR.out hbd
                    rw [e, takeL_nil] at hpos
                    exact absurd rfl hpos
                subst hbad
                have hq := fun W => slice_run Ab' nb' cb' (takeL bs).2 (by omega) W
                have hdr := HB'.out.cutV (takeL bs).2 (by omega)
                obtain ⟨AA, p, cc, hsv, hp⟩ : ∃ AA p cc, sliceV Ab' nb' cb' (takeL bs).2 = .slice AA p cc ∧ p = nb' - (takeL bs).2 := ⟨_, _, _, rfl, rfl⟩
                rw [hsv] at hq hdr
                have hdl : (bs.drop (takeL bs).2).length = p := by rw [List.length_drop, ← HNB'.out, hp]
                have hdx : ∀ x ∈ bs.drop (takeL bs).2, x < 256 := fun x hx => HXS'.out x (List.mem_of_mem_drop hx)
                have hp3 : p ≤ 3000 := by omega
                have tm : (((takeL bs).2 : Int) == 0) = false := by simp; omega
                have KL := Lib.hid (fun w5 (hr : R w.heap.size w5 g (bs.drop (takeL bs).2) false) => (show Calls Try.prog 20 #[.pointer (some ⟨g, 0, none⟩)] w5 fun e w' => e = .returned (.int .i64 (p : Int)) ∧ w5 = w' from by rw [← hdl]; exact K.left _ _ _ _ _ hr (by omega)))
                have KF := Lib.hid (fun w5 (hr : R w.heap.size w5 g (bs.drop (takeL bs).2) false) => (show Calls Try.prog 21 #[.pointer (some ⟨g, 0, none⟩)] w5 fun e w' => e = .returned (.bool true) ∧ w5 = w' from K.fine _ _ _ _ _ hr))
                have KE := Lib.hid (fun w5 (hr : R w.heap.size w5 g (bs.drop (takeL bs).2) false) => (show Calls Try.prog 22 #[.pointer (some ⟨g, 0, none⟩)] w5 fun e w' => e = .returned (.bool ((p : Int) == 0)) ∧ w5 = w' from by
                  have h := K.end_ _ _ _ _ _ hr (by omega)
                  rw [hdl, end_eq] at h; exact h))
                have HDR := Lib.hid hdr
                have HDL := Lib.hid hdl
                have HDX := Lib.hid hdx
                clear hdr hdl hdx hp hsv
                have e1 : intV bs (ms : Int) = (takeL bs).1 := if_neg (by omega)
                have e2 : intN bs (ms : Int) = (takeL bs).2 := if_neg (by omega)
                rw [e1, e2, show leftS bs false (takeL bs).2 = (bs.drop (takeL bs).2, false) from if_neg htk] at hint
                have hgt2 : ((takeL bs).1 : Int) ≤ (ms : Int) := by omega
                have hgt3 : (takeL bs).1 < 1000 := by omega
                clear e1 e2
                generalize (takeL bs).1 = tn at *
                generalize (takeL bs).2 = tk at *
                have HTAKE := Lib.hid htake
                have HINT := Lib.hid hint
                clear htake hint htl hrl htz htk ht64 hrun hgt hpos
                go_wp2_with (first
                  | (go_at_call 14; (with_reducible refine (HTAKE.out _ hbel).mono ?_); rintro e w2 ⟨rfl, hb2⟩; have hbel2 : Below w.heap.size w w2 := hbel.trans (hb2.mono hbel.size); have HRR2 := Lib.hid (K.keep HRR.out hb2); clear hb2)
                  | (go_at_call 15; (with_reducible refine (HRUN.out _ hbel2).mono ?_); rintro e w3 ⟨v10, rfl, hv10, hb3⟩; have hbel3 : Below w.heap.size w w3 := hbel2.trans (hb3.mono hbel2.size); have HRR3 := Lib.hid (K.keep HRR2.out hb3); have HX10 := Lib.hid (hv10 w HB'.out); obtain ⟨c0, c1, _, _⟩ := HCS.out w3 hbel3; (try simp only at c0 c1); clear hb3 hv10)
                  | (go_at_call 17; (with_reducible refine (HINT.out _ HRR3.out hbel3.size).mono ?_); rintro e w4 ⟨rfl, hr4, hb4⟩; have hbel4 : Below w.heap.size w w4 := hbel3.trans hb4; have HRR4 := Lib.hid (show R w.heap.size w4 g (bs.drop tk) false from hr4); clear hr4 hb4)
                  | (go_at_call 20; (with_reducible refine (KL.out _ HRR4.out).mono ?_); rintro e w5 ⟨rfl, rfl⟩)
                  | (go_at_call 21; (with_reducible refine (KF.out _ HRR4.out).mono ?_); rintro e w5 ⟨rfl, rfl⟩)
                  | (go_at_call 22; (with_reducible refine (KE.out _ HRR4.out).mono ?_); rintro e w5 ⟨rfl, rfl⟩))
                go_roundw
                case rel => exact ⟨k + 1, _, _, _, _, _, by omega, by omega, rfl, rfl, by go_num, hp3, Lib.hid HDL.out.symm, HDR, HDX, HRR4, hbel4⟩
                case measure => simp [intOf]; omega
          · by_cases hk1 : kd = 1
            · subst hk1
              have hbyt := fun w2 (hr : R w.heap.size w2 g bs bad) (hB : w.heap.size ≤ w2.heap.size) => K.bytes w.heap.size g bs bad w2 hr hB (by have := HNB'.out; omega) HXS'.out
              have HTAKE := Lib.hid htake
              by_cases hrm : (runL bs).2 = 0
              · rw [hrm] at hrun hbyt
                generalize (takeL bs).1 = tn at *
                generalize (takeL bs).2 = tk at *
                generalize (runL bs).1 = rx at *
                have HRUN := Lib.hid hrun
                have HBYT := Lib.hid hbyt
                clear hrun hbyt htake htl hrl htz hrm
                have hq := fun W => slice_run Ab' nb' cb' 0 (Nat.zero_le _) W
                obtain ⟨A0, n0, c0', hq0⟩ : ∃ A0 n0 c0', sliceV Ab' nb' cb' 0 = .slice A0 n0 c0' := ⟨_, _, _, rfl⟩
                rw [hq0] at hq
                simp only [Int.natCast_zero] at hq
                have KL := Lib.hid (fun w5 (hr : R w.heap.size w5 g [] true) => (show Calls Try.prog 20 #[.pointer (some ⟨g, 0, none⟩)] w5 fun e w' => e = .returned (.int .i64 0) ∧ w5 = w' from K.left _ _ _ _ _ hr (by simp)))
                have KF := Lib.hid (fun w5 (hr : R w.heap.size w5 g [] true) => (show Calls Try.prog 21 #[.pointer (some ⟨g, 0, none⟩)] w5 fun e w' => e = .returned (.bool false) ∧ w5 = w' from K.fine _ _ _ _ _ hr))
                have KE := Lib.hid (fun w5 (hr : R w.heap.size w5 g [] true) => (show Calls Try.prog 22 #[.pointer (some ⟨g, 0, none⟩)] w5 fun e w' => e = .returned (.bool false) ∧ w5 = w' from K.end_ _ _ _ _ _ hr (by simp)))
                clear hq0
                have KK := K
                go_wp2_with (first
                  | (go_at_call 14; (with_reducible refine (HTAKE.out _ hbel).mono ?_); rintro e w2 ⟨rfl, hb2⟩; have hbel2 : Below w.heap.size w w2 := hbel.trans (hb2.mono hbel.size); have HRR2 := Lib.hid (K.keep HRR.out hb2); clear hb2)
                  | (go_at_call 15; (with_reducible refine (HRUN.out _ hbel2).mono ?_); rintro e w3 ⟨v10, rfl, hv10, hb3⟩; have hbel3 : Below w.heap.size w w3 := hbel2.trans (hb3.mono hbel2.size); have HRR3 := Lib.hid (K.keep HRR2.out hb3); have HX10 := Lib.hid (hv10 w HB'.out); obtain ⟨c0, c1, _, _⟩ := HCS.out w3 hbel3; (try simp only at c0 c1); clear hb3 hv10))
                have hb0 : Below w.heap.size w w3.drew := hbel3.trans (Below.refl _ w3).drew
                have VX := Lib.hid (fun w' (hw : Below w.heap.size w w') => conv_rd (HX10.out.below hw))
                refine wp_region_noPanic ?_
                refine wp_region_held_drew (S := fun w' => Below w.heap.size w w') (by kernel_rfl) hb0 (fun HH => ?_)
                refine wpAnyH_take (i := 0) (v := ?_) rfl (by kernel_rfl) (by kernel_rfl) (by kernel_rfl) (fun _ _ _ h => h) (Or.inl ⟨by rfl, ?_⟩) HH ?_
                rotate_left
                · intro w hSw; go_simp; try with_reducible rfl
                simp only [List.getElem_toArray, List.getElem_cons_succ, List.getElem_cons_zero, Act.put, List.setIfInBounds_toArray, List.set_cons_zero, List.set_cons_succ]
                refine wpAnyH_take (i := 3) (v := ?_) rfl (by kernel_rfl) (by kernel_rfl) (by kernel_rfl) (fun _ _ _ h => h) (Or.inl ⟨by rfl, ?_⟩) HH ?_
                rotate_left
                · intro w hSw; go_simp; try with_reducible rfl
                simp only [List.getElem_toArray, List.getElem_cons_succ, List.getElem_cons_zero, Act.put, List.setIfInBounds_toArray, List.set_cons_zero, List.set_cons_succ]
                refine wpAnyH_take (i := 4) (v := ?_) rfl (by kernel_rfl) (by kernel_rfl) (by kernel_rfl) (fun _ _ _ h => h) (Or.inl ⟨by rfl, ?_⟩) HH ?_
                rotate_left
                · intro w hSw; have hcv := VX.out w hSw; go_simp; try with_reducible rfl
                simp only [List.getElem_toArray, List.getElem_cons_succ, List.getElem_cons_zero, Act.put, List.setIfInBounds_toArray, List.set_cons_zero, List.set_cons_succ]
                refine wpAnyH_ready (rs := [1]) (by kernel_rfl) (by simp) ?_
                refine AllReadyH.cons rfl (fun K hK => ?_) AllReadyH.nil
                go_simp
                go_at_call 18
                refine (HBYT.out _ (KK.keep HRR3.out (Below.refl _ w3).drew) (Nat.le_trans hbel3.size (Nat.le_refl _))).mono ?_
                rintro e w4 ⟨v84, rfl, hr84, hr4, hb4⟩
                have hbel4 : Below w.heap.size w w4 := hb0.trans hb4
                have HRR4 := Lib.hid (show R w.heap.size w4 g [] true from hr4)
                have hcW := conv_rd hr84
                clear hr4 hb4
                go_simp
                refine hK.out _ _ hbel4 (fun HG1 => ?_)
                clear hK
                try simp only [List.getElem_toArray, List.getElem_cons_succ, List.getElem_cons_zero, Act.put, List.setIfInBounds_toArray, List.set_cons_zero, List.set_cons_succ]
                refine wpAnyH_ready (rs := [2]) (by kernel_rfl) (by simp) ?_
                refine AllReadyH.cons rfl (fun K hK => ?_) AllReadyH.nil
                go_simp
                refine hK.out _ _ hbel4 (fun HG2 => ?_)
                clear hK
                try simp only [List.getElem_toArray, List.getElem_cons_succ, List.getElem_cons_zero, Act.put, List.setIfInBounds_toArray, List.set_cons_zero, List.set_cons_succ]
                refine wpAnyH_take (i := 5) (v := ?_) rfl (by kernel_rfl) (by kernel_rfl) (by kernel_rfl) (fun _ _ _ h => h) (Or.inl ⟨by rfl, ?_⟩) HG2 ?_
                rotate_left
                · intro w hSw; go_simp; try with_reducible rfl
                simp only [List.getElem_toArray, List.getElem_cons_succ, List.getElem_cons_zero, Act.put, List.setIfInBounds_toArray, List.set_cons_zero, List.set_cons_succ]
                refine wpAnyH_done (by kernel_rfl) ?_ _
                refine NoPanic.normal ?_
                go_wp2_with (first
                  | (go_at_call 20; (with_reducible refine (KL.out _ HRR4.out).mono ?_); rintro e w5 ⟨rfl, rfl⟩)
                  | (go_at_call 21; (with_reducible refine (KF.out _ HRR4.out).mono ?_); rintro e w5 ⟨rfl, rfl⟩)
                  | (go_at_call 22; (with_reducible refine (KE.out _ HRR4.out).mono ?_); rintro e w5 ⟨rfl, rfl⟩))
                all_goals
                  go_roundw
                  case rel => exact ⟨k + 1, 0, 0, none, [], true, by omega, by omega, rfl, rfl, by go_num, by omega, Lib.hid rfl, Lib.hid (.inl ⟨none, 0, rfl, rfl, fun _ => rfl⟩), Lib.hid (by simp), HRR4, hbel4⟩
                  case measure => simp [intOf]; omega
              · have hpos := hrm
                have hbad : bad = false := by
                  cases hbd : bad
                  · rfl
                  · have e := K.fails HRR.out hbd
                    rw [e, runL_nil] at hpos
                    exact absurd rfl hpos
                subst hbad
                have hq := fun W => slice_run Ab' nb' cb' (runL bs).2 (by omega) W
                have hdr := HB'.out.cutV (runL bs).2 (by omega)
                obtain ⟨AA, p, cc, hsv, hp⟩ : ∃ AA p cc, sliceV Ab' nb' cb' (runL bs).2 = .slice AA p cc ∧ p = nb' - (runL bs).2 := ⟨_, _, _, rfl, rfl⟩
                rw [hsv] at hq hdr
                have hdl : (bs.drop (runL bs).2).length = p := by rw [List.length_drop, ← HNB'.out, hp]
                have hdx : ∀ x ∈ bs.drop (runL bs).2, x < 256 := fun x hx => HXS'.out x (List.mem_of_mem_drop hx)
                have hp3 : p ≤ 3000 := by omega
                have tm : (((runL bs).2 : Int) == 0) = false := by simp; omega
                have KL := Lib.hid (fun w5 (hr : R w.heap.size w5 g (bs.drop (runL bs).2) false) => (show Calls Try.prog 20 #[.pointer (some ⟨g, 0, none⟩)] w5 fun e w' => e = .returned (.int .i64 (p : Int)) ∧ w5 = w' from by rw [← hdl]; exact K.left _ _ _ _ _ hr (by omega)))
                have KF := Lib.hid (fun w5 (hr : R w.heap.size w5 g (bs.drop (runL bs).2) false) => (show Calls Try.prog 21 #[.pointer (some ⟨g, 0, none⟩)] w5 fun e w' => e = .returned (.bool true) ∧ w5 = w' from K.fine _ _ _ _ _ hr))
                have KE := Lib.hid (fun w5 (hr : R w.heap.size w5 g (bs.drop (runL bs).2) false) => (show Calls Try.prog 22 #[.pointer (some ⟨g, 0, none⟩)] w5 fun e w' => e = .returned (.bool ((p : Int) == 0)) ∧ w5 = w' from by
                  have h := K.end_ _ _ _ _ _ hr (by omega)
                  rw [hdl, end_eq] at h; exact h))
                have HDR := Lib.hid hdr
                have HDL := Lib.hid hdl
                have HDX := Lib.hid hdx
                clear hdr hdl hdx hp hsv
                rw [show leftS bs false (runL bs).2 = (bs.drop (runL bs).2, false) from if_neg hrm] at hbyt
                generalize (takeL bs).1 = tn at *
                generalize (takeL bs).2 = tk at *
                generalize (runL bs).1 = rx at *
                generalize (runL bs).2 = rm at *
                have HRUN := Lib.hid hrun
                have HBYT := Lib.hid hbyt
                clear hrun hbyt htake htl hrl htz hrm hpos
                have KK := K
                go_wp2_with (first
                  | (go_at_call 14; (with_reducible refine (HTAKE.out _ hbel).mono ?_); rintro e w2 ⟨rfl, hb2⟩; have hbel2 : Below w.heap.size w w2 := hbel.trans (hb2.mono hbel.size); have HRR2 := Lib.hid (K.keep HRR.out hb2); clear hb2)
                  | (go_at_call 15; (with_reducible refine (HRUN.out _ hbel2).mono ?_); rintro e w3 ⟨v10, rfl, hv10, hb3⟩; have hbel3 : Below w.heap.size w w3 := hbel2.trans (hb3.mono hbel2.size); have HRR3 := Lib.hid (K.keep HRR2.out hb3); have HX10 := Lib.hid (hv10 w HB'.out); obtain ⟨c0, c1, _, _⟩ := HCS.out w3 hbel3; (try simp only at c0 c1); clear hb3 hv10))
                have hb0 : Below w.heap.size w w3.drew := hbel3.trans (Below.refl _ w3).drew
                have VX := Lib.hid (fun w' (hw : Below w.heap.size w w') => conv_rd (HX10.out.below hw))
                refine wp_region_noPanic ?_
                refine wp_region_held_drew (S := fun w' => Below w.heap.size w w') (by kernel_rfl) hb0 (fun HH => ?_)
                refine wpAnyH_take (i := 0) (v := ?_) rfl (by kernel_rfl) (by kernel_rfl) (by kernel_rfl) (fun _ _ _ h => h) (Or.inl ⟨by rfl, ?_⟩) HH ?_
                rotate_left
                · intro w hSw; go_simp; try with_reducible rfl
                simp only [List.getElem_toArray, List.getElem_cons_succ, List.getElem_cons_zero, Act.put, List.setIfInBounds_toArray, List.set_cons_zero, List.set_cons_succ]
                refine wpAnyH_take (i := 3) (v := ?_) rfl (by kernel_rfl) (by kernel_rfl) (by kernel_rfl) (fun _ _ _ h => h) (Or.inl ⟨by rfl, ?_⟩) HH ?_
                rotate_left
                · intro w hSw; go_simp; try with_reducible rfl
                simp only [List.getElem_toArray, List.getElem_cons_succ, List.getElem_cons_zero, Act.put, List.setIfInBounds_toArray, List.set_cons_zero, List.set_cons_succ]
                refine wpAnyH_take (i := 4) (v := ?_) rfl (by kernel_rfl) (by kernel_rfl) (by kernel_rfl) (fun _ _ _ h => h) (Or.inl ⟨by rfl, ?_⟩) HH ?_
                rotate_left
                · intro w hSw; have hcv := VX.out w hSw; go_simp; try with_reducible rfl
                simp only [List.getElem_toArray, List.getElem_cons_succ, List.getElem_cons_zero, Act.put, List.setIfInBounds_toArray, List.set_cons_zero, List.set_cons_succ]
                refine wpAnyH_ready (rs := [1]) (by kernel_rfl) (by simp) ?_
                refine AllReadyH.cons rfl (fun K hK => ?_) AllReadyH.nil
                go_simp
                go_at_call 18
                refine (HBYT.out _ (KK.keep HRR3.out (Below.refl _ w3).drew) (Nat.le_trans hbel3.size (Nat.le_refl _))).mono ?_
                rintro e w4 ⟨v84, rfl, hr84, hr4, hb4⟩
                have hbel4 : Below w.heap.size w w4 := hb0.trans hb4
                have HRR4 := Lib.hid (show R w.heap.size w4 g (bs.drop rm) false from hr4)
                have hcW := conv_rd hr84
                clear hr4 hb4
                go_simp
                refine hK.out _ _ hbel4 (fun HG1 => ?_)
                clear hK
                try simp only [List.getElem_toArray, List.getElem_cons_succ, List.getElem_cons_zero, Act.put, List.setIfInBounds_toArray, List.set_cons_zero, List.set_cons_succ]
                refine wpAnyH_ready (rs := [2]) (by kernel_rfl) (by simp) ?_
                refine AllReadyH.cons rfl (fun K hK => ?_) AllReadyH.nil
                go_simp
                refine hK.out _ _ hbel4 (fun HG2 => ?_)
                clear hK
                try simp only [List.getElem_toArray, List.getElem_cons_succ, List.getElem_cons_zero, Act.put, List.setIfInBounds_toArray, List.set_cons_zero, List.set_cons_succ]
                refine wpAnyH_take (i := 5) (v := ?_) rfl (by kernel_rfl) (by kernel_rfl) (by kernel_rfl) (fun _ _ _ h => h) (Or.inl ⟨by rfl, ?_⟩) HG2 ?_
                rotate_left
                · intro w hSw; go_simp; try with_reducible rfl
                simp only [List.getElem_toArray, List.getElem_cons_succ, List.getElem_cons_zero, Act.put, List.setIfInBounds_toArray, List.set_cons_zero, List.set_cons_succ]
                refine wpAnyH_done (by kernel_rfl) ?_ _
                refine NoPanic.normal ?_
                go_wp2_with (first
                  | (go_at_call 20; (with_reducible refine (KL.out _ HRR4.out).mono ?_); rintro e w5 ⟨rfl, rfl⟩)
                  | (go_at_call 21; (with_reducible refine (KF.out _ HRR4.out).mono ?_); rintro e w5 ⟨rfl, rfl⟩)
                  | (go_at_call 22; (with_reducible refine (KE.out _ HRR4.out).mono ?_); rintro e w5 ⟨rfl, rfl⟩))
                go_roundw
                case rel => exact ⟨k + 1, _, _, _, _, _, by omega, by omega, rfl, rfl, by go_num, hp3, Lib.hid HDL.out.symm, HDR, HDX, HRR4, hbel4⟩
                case measure => simp [intOf]; omega
            · have t0 : (kd == 0) = false := by simp; exact hk0
              have t3 : (kd == 3) = false := by simp; exact hk3
              have t1 : (kd == 1) = false := by simp; exact hk1
              clear hk0 hk3 hk1
              have hbyt := fun w2 (hr : R w.heap.size w2 g bs bad) (hB : w.heap.size ≤ w2.heap.size) => K.text w.heap.size g bs bad w2 hr hB (by have := HNB'.out; omega) HXS'.out
              have HTAKE := Lib.hid htake
              by_cases hrm : (runL bs).2 = 0
              · rw [hrm] at hrun hbyt
                generalize (takeL bs).1 = tn at *
                generalize (takeL bs).2 = tk at *
                generalize (runL bs).1 = rx at *
                have HRUN := Lib.hid hrun
                have HBYT := Lib.hid hbyt
                clear hrun hbyt htake htl hrl htz hrm
                have hq := fun W => slice_run Ab' nb' cb' 0 (Nat.zero_le _) W
                obtain ⟨A0, n0, c0', hq0⟩ : ∃ A0 n0 c0', sliceV Ab' nb' cb' 0 = .slice A0 n0 c0' := ⟨_, _, _, rfl⟩
                rw [hq0] at hq
                simp only [Int.natCast_zero] at hq
                have KL := Lib.hid (fun w5 (hr : R w.heap.size w5 g [] true) => (show Calls Try.prog 20 #[.pointer (some ⟨g, 0, none⟩)] w5 fun e w' => e = .returned (.int .i64 0) ∧ w5 = w' from K.left _ _ _ _ _ hr (by simp)))
                have KF := Lib.hid (fun w5 (hr : R w.heap.size w5 g [] true) => (show Calls Try.prog 21 #[.pointer (some ⟨g, 0, none⟩)] w5 fun e w' => e = .returned (.bool false) ∧ w5 = w' from K.fine _ _ _ _ _ hr))
                have KE := Lib.hid (fun w5 (hr : R w.heap.size w5 g [] true) => (show Calls Try.prog 22 #[.pointer (some ⟨g, 0, none⟩)] w5 fun e w' => e = .returned (.bool false) ∧ w5 = w' from K.end_ _ _ _ _ _ hr (by simp)))
                clear hq0
                have KK := K
                go_wp2_with (first
                  | (go_at_call 14; (with_reducible refine (HTAKE.out _ hbel).mono ?_); rintro e w2 ⟨rfl, hb2⟩; have hbel2 : Below w.heap.size w w2 := hbel.trans (hb2.mono hbel.size); have HRR2 := Lib.hid (K.keep HRR.out hb2); clear hb2)
                  | (go_at_call 15; (with_reducible refine (HRUN.out _ hbel2).mono ?_); rintro e w3 ⟨v10, rfl, hv10, hb3⟩; have hbel3 : Below w.heap.size w w3 := hbel2.trans (hb3.mono hbel2.size); have HRR3 := Lib.hid (K.keep HRR2.out hb3); have HX10 := Lib.hid (hv10 w HB'.out); obtain ⟨c0, c1, _, _⟩ := HCS.out w3 hbel3; (try simp only at c0 c1); clear hb3 hv10))
                have hb0 : Below w.heap.size w w3.drew := hbel3.trans (Below.refl _ w3).drew
                have VX := Lib.hid (fun w' (hw : Below w.heap.size w w') => conv_rd (HX10.out.below hw))
                refine wp_region_noPanic ?_
                refine wp_region_held_drew (S := fun w' => Below w.heap.size w w') (by kernel_rfl) hb0 (fun HH => ?_)
                refine wpAnyH_take (i := 0) (v := ?_) rfl (by kernel_rfl) (by kernel_rfl) (by kernel_rfl) (fun _ _ _ h => h) (Or.inl ⟨by rfl, ?_⟩) HH ?_
                rotate_left
                · intro w hSw; go_simp; try with_reducible rfl
                simp only [List.getElem_toArray, List.getElem_cons_succ, List.getElem_cons_zero, Act.put, List.setIfInBounds_toArray, List.set_cons_zero, List.set_cons_succ]
                refine wpAnyH_take (i := 2) (v := ?_) rfl (by kernel_rfl) (by kernel_rfl) (by kernel_rfl) (fun _ _ _ h => h) (Or.inl ⟨by rfl, ?_⟩) HH ?_
                rotate_left
                · intro w hSw; go_simp; try with_reducible rfl
                simp only [List.getElem_toArray, List.getElem_cons_succ, List.getElem_cons_zero, Act.put, List.setIfInBounds_toArray, List.set_cons_zero, List.set_cons_succ]
                refine wpAnyH_take (i := 3) (v := ?_) rfl (by kernel_rfl) (by kernel_rfl) (by kernel_rfl) (fun _ _ _ h => h) (Or.inl ⟨by rfl, ?_⟩) HH ?_
                rotate_left
                · intro w hSw; have hcv := VX.out w hSw; go_simp; try with_reducible rfl
                simp only [List.getElem_toArray, List.getElem_cons_succ, List.getElem_cons_zero, Act.put, List.setIfInBounds_toArray, List.set_cons_zero, List.set_cons_succ]
                refine wpAnyH_ready (rs := [1]) (by kernel_rfl) (by simp) ?_
                refine AllReadyH.cons rfl (fun K hK => ?_) AllReadyH.nil
                go_simp
                go_at_call 19
                refine (HBYT.out _ (KK.keep HRR3.out (Below.refl _ w3).drew) (Nat.le_trans hbel3.size (Nat.le_refl _))).mono ?_
                rintro e w4 ⟨rfl, hr4, hb4⟩
                have hbel4 : Below w.heap.size w w4 := hb0.trans hb4
                have HRR4 := Lib.hid (show R w.heap.size w4 g [] true from hr4)
                clear hr4 hb4
                go_simp
                refine hK.out _ _ hbel4 (fun HG1 => ?_)
                clear hK
                try simp only [List.getElem_toArray, List.getElem_cons_succ, List.getElem_cons_zero, Act.put, List.setIfInBounds_toArray, List.set_cons_zero, List.set_cons_succ]
                refine wpAnyH_take (i := 4) (v := ?_) rfl (by kernel_rfl) (by kernel_rfl) (by kernel_rfl) (fun _ _ _ h => h) (Or.inl ⟨by rfl, ?_⟩) HG1 ?_
                rotate_left
                · intro w hSw; go_simp; try with_reducible rfl
                simp only [List.getElem_toArray, List.getElem_cons_succ, List.getElem_cons_zero, Act.put, List.setIfInBounds_toArray, List.set_cons_zero, List.set_cons_succ]
                refine wpAnyH_done (by kernel_rfl) ?_ _
                refine NoPanic.normal ?_
                go_wp2_with (first
                  | (go_at_call 20; (with_reducible refine (KL.out _ HRR4.out).mono ?_); rintro e w5 ⟨rfl, rfl⟩)
                  | (go_at_call 21; (with_reducible refine (KF.out _ HRR4.out).mono ?_); rintro e w5 ⟨rfl, rfl⟩)
                  | (go_at_call 22; (with_reducible refine (KE.out _ HRR4.out).mono ?_); rintro e w5 ⟨rfl, rfl⟩))
                all_goals
                  go_roundw
                  case rel => exact ⟨k + 1, 0, 0, none, [], true, by omega, by omega, rfl, rfl, by go_num, by omega, Lib.hid rfl, Lib.hid (.inl ⟨none, 0, rfl, rfl, fun _ => rfl⟩), Lib.hid (by simp), HRR4, hbel4⟩
                  case measure => simp [intOf]; omega
              · have hpos := hrm
                have hbad : bad = false := by
                  cases hbd : bad
                  · rfl
                  · have e := K.fails HRR.out hbd
                    rw [e, runL_nil] at hpos
                    exact absurd rfl hpos
                subst hbad
                have hq := fun W => slice_run Ab' nb' cb' (runL bs).2 (by omega) W
                have hdr := HB'.out.cutV (runL bs).2 (by omega)
                obtain ⟨AA, p, cc, hsv, hp⟩ : ∃ AA p cc, sliceV Ab' nb' cb' (runL bs).2 = .slice AA p cc ∧ p = nb' - (runL bs).2 := ⟨_, _, _, rfl, rfl⟩
                rw [hsv] at hq hdr
                have hdl : (bs.drop (runL bs).2).length = p := by rw [List.length_drop, ← HNB'.out, hp]
                have hdx : ∀ x ∈ bs.drop (runL bs).2, x < 256 := fun x hx => HXS'.out x (List.mem_of_mem_drop hx)
                have hp3 : p ≤ 3000 := by omega
                have tm : (((runL bs).2 : Int) == 0) = false := by simp; omega
                have KL := Lib.hid (fun w5 (hr : R w.heap.size w5 g (bs.drop (runL bs).2) false) => (show Calls Try.prog 20 #[.pointer (some ⟨g, 0, none⟩)] w5 fun e w' => e = .returned (.int .i64 (p : Int)) ∧ w5 = w' from by rw [← hdl]; exact K.left _ _ _ _ _ hr (by omega)))
                have KF := Lib.hid (fun w5 (hr : R w.heap.size w5 g (bs.drop (runL bs).2) false) => (show Calls Try.prog 21 #[.pointer (some ⟨g, 0, none⟩)] w5 fun e w' => e = .returned (.bool true) ∧ w5 = w' from K.fine _ _ _ _ _ hr))
                have KE := Lib.hid (fun w5 (hr : R w.heap.size w5 g (bs.drop (runL bs).2) false) => (show Calls Try.prog 22 #[.pointer (some ⟨g, 0, none⟩)] w5 fun e w' => e = .returned (.bool ((p : Int) == 0)) ∧ w5 = w' from by
                  have h := K.end_ _ _ _ _ _ hr (by omega)
                  rw [hdl, end_eq] at h; exact h))
                have HDR := Lib.hid hdr
                have HDL := Lib.hid hdl
                have HDX := Lib.hid hdx
                clear hdr hdl hdx hp hsv
                rw [show leftS bs false (runL bs).2 = (bs.drop (runL bs).2, false) from if_neg hrm] at hbyt
                generalize (takeL bs).1 = tn at *
                generalize (takeL bs).2 = tk at *
                generalize (runL bs).1 = rx at *
                generalize (runL bs).2 = rm at *
                have HRUN := Lib.hid hrun
                have HBYT := Lib.hid hbyt
                clear hrun hbyt htake htl hrl htz hrm hpos
                have KK := K
                go_wp2_with (first
                  | (go_at_call 14; (with_reducible refine (HTAKE.out _ hbel).mono ?_); rintro e w2 ⟨rfl, hb2⟩; have hbel2 : Below w.heap.size w w2 := hbel.trans (hb2.mono hbel.size); have HRR2 := Lib.hid (K.keep HRR.out hb2); clear hb2)
                  | (go_at_call 15; (with_reducible refine (HRUN.out _ hbel2).mono ?_); rintro e w3 ⟨v10, rfl, hv10, hb3⟩; have hbel3 : Below w.heap.size w w3 := hbel2.trans (hb3.mono hbel2.size); have HRR3 := Lib.hid (K.keep HRR2.out hb3); have HX10 := Lib.hid (hv10 w HB'.out); obtain ⟨c0, c1, _, _⟩ := HCS.out w3 hbel3; (try simp only at c0 c1); clear hb3 hv10))
                have hb0 : Below w.heap.size w w3.drew := hbel3.trans (Below.refl _ w3).drew
                have VX := Lib.hid (fun w' (hw : Below w.heap.size w w') => conv_rd (HX10.out.below hw))
                refine wp_region_noPanic ?_
                refine wp_region_held_drew (S := fun w' => Below w.heap.size w w') (by kernel_rfl) hb0 (fun HH => ?_)
                refine wpAnyH_take (i := 0) (v := ?_) rfl (by kernel_rfl) (by kernel_rfl) (by kernel_rfl) (fun _ _ _ h => h) (Or.inl ⟨by rfl, ?_⟩) HH ?_
                rotate_left
                · intro w hSw; go_simp; try with_reducible rfl
                simp only [List.getElem_toArray, List.getElem_cons_succ, List.getElem_cons_zero, Act.put, List.setIfInBounds_toArray, List.set_cons_zero, List.set_cons_succ]
                refine wpAnyH_take (i := 2) (v := ?_) rfl (by kernel_rfl) (by kernel_rfl) (by kernel_rfl) (fun _ _ _ h => h) (Or.inl ⟨by rfl, ?_⟩) HH ?_
                rotate_left
                · intro w hSw; go_simp; try with_reducible rfl
                simp only [List.getElem_toArray, List.getElem_cons_succ, List.getElem_cons_zero, Act.put, List.setIfInBounds_toArray, List.set_cons_zero, List.set_cons_succ]
                refine wpAnyH_take (i := 3) (v := ?_) rfl (by kernel_rfl) (by kernel_rfl) (by kernel_rfl) (fun _ _ _ h => h) (Or.inl ⟨by rfl, ?_⟩) HH ?_
                rotate_left
                · intro w hSw; have hcv := VX.out w hSw; go_simp; try with_reducible rfl
                simp only [List.getElem_toArray, List.getElem_cons_succ, List.getElem_cons_zero, Act.put, List.setIfInBounds_toArray, List.set_cons_zero, List.set_cons_succ]
                refine wpAnyH_ready (rs := [1]) (by kernel_rfl) (by simp) ?_
                refine AllReadyH.cons rfl (fun K hK => ?_) AllReadyH.nil
                go_simp
                go_at_call 19
                refine (HBYT.out _ (KK.keep HRR3.out (Below.refl _ w3).drew) (Nat.le_trans hbel3.size (Nat.le_refl _))).mono ?_
                rintro e w4 ⟨rfl, hr4, hb4⟩
                have hbel4 : Below w.heap.size w w4 := hb0.trans hb4
                have HRR4 := Lib.hid (show R w.heap.size w4 g (bs.drop rm) false from hr4)
                clear hr4 hb4
                go_simp
                refine hK.out _ _ hbel4 (fun HG1 => ?_)
                clear hK
                try simp only [List.getElem_toArray, List.getElem_cons_succ, List.getElem_cons_zero, Act.put, List.setIfInBounds_toArray, List.set_cons_zero, List.set_cons_succ]
                refine wpAnyH_take (i := 4) (v := ?_) rfl (by kernel_rfl) (by kernel_rfl) (by kernel_rfl) (fun _ _ _ h => h) (Or.inl ⟨by rfl, ?_⟩) HG1 ?_
                rotate_left
                · intro w hSw; go_simp; try with_reducible rfl
                simp only [List.getElem_toArray, List.getElem_cons_succ, List.getElem_cons_zero, Act.put, List.setIfInBounds_toArray, List.set_cons_zero, List.set_cons_succ]
                refine wpAnyH_done (by kernel_rfl) ?_ _
                refine NoPanic.normal ?_
                go_wp2_with (first
                  | (go_at_call 20; (with_reducible refine (KL.out _ HRR4.out).mono ?_); rintro e w5 ⟨rfl, rfl⟩)
                  | (go_at_call 21; (with_reducible refine (KF.out _ HRR4.out).mono ?_); rintro e w5 ⟨rfl, rfl⟩)
                  | (go_at_call 22; (with_reducible refine (KE.out _ HRR4.out).mono ?_); rintro e w5 ⟨rfl, rfl⟩))
                go_roundw
                case rel => exact ⟨k + 1, _, _, _, _, _, by omega, by omega, rfl, rfl, by go_num, hp3, Lib.hid HDL.out.symm, HDR, HDX, HRR4, hbel4⟩
                case measure => simp [intOf]; omega
      · have hk9 : 40 ≤ k := by omega
        have KI := Lib.hid (fun w5 (hr : R w.heap.size w5 g bs bad) (hB : w.heap.size ≤ w5.heap.size) => (show Calls Try.prog 17 #[.pointer (some ⟨g, 0, none⟩), .int .i64 (-1)] w5 fun e w' => e = .returned (.int .i64 0) ∧ R w.heap.size w' g [] true ∧ Below w.heap.size w5 w' from by
          have h := K.int w.heap.size g bs bad (-1) w5 hr hB (by have := HNB'.out; omega) HXS'.out (by omega) (by omega)
          have e1 : intV bs (-1) = 0 := if_pos (Or.inr (by omega))
          have e2 : intN bs (-1) = 0 := if_pos (Or.inr (by omega))
          rw [e1, e2] at h; exact h))
        have KF := Lib.hid (fun w5 (hr : R w.heap.size w5 g [] true) => (show Calls Try.prog 21 #[.pointer (some ⟨g, 0, none⟩)] w5 fun e w' => e = .returned (.bool false) ∧ w5 = w' from K.fine _ _ _ _ _ hr))
        go_wp2_with (first
          | (go_at_call 20; (with_reducible refine (K.leftNil _).mono ?_); rintro e w5 ⟨rfl, rfl⟩)
          | (go_at_call 21; (with_reducible refine (K.fineNil _).mono ?_); rintro e w5 ⟨rfl, rfl⟩)
          | (go_at_call 22; (with_reducible refine (K.endNil _).mono ?_); rintro e w5 ⟨rfl, rfl⟩)
          | (go_at_call 17; (with_reducible refine (KI.out _ HRR.out hbel.size).mono ?_); rintro e w4 ⟨rfl, hr4, hb4⟩; have hbel4 : Below w.heap.size w w4 := hbel.trans hb4; have HRR4 := Lib.hid hr4; clear hr4 hb4)
          | (go_at_call 21; (with_reducible refine (KF.out _ HRR4.out).mono ?_); rintro e w5 ⟨rfl, rfl⟩)
          | (go_at_call 6; (with_reducible refine (awake_any _).mono ?_); rintro e w6 ⟨rfl, hb6⟩))
        go_ret
        exact ⟨rfl, hbel4.trans (hb6.mono hbel4.size)⟩
    · have hkn' : n ≤ k := by omega
      have KI := Lib.hid (fun w5 (hr : R w.heap.size w5 g bs bad) (hB : w.heap.size ≤ w5.heap.size) => (show Calls Try.prog 17 #[.pointer (some ⟨g, 0, none⟩), .int .i64 (-1)] w5 fun e w' => e = .returned (.int .i64 0) ∧ R w.heap.size w' g [] true ∧ Below w.heap.size w5 w' from by
        have h := K.int w.heap.size g bs bad (-1) w5 hr hB (by have := HNB'.out; omega) HXS'.out (by omega) (by omega)
        have e1 : intV bs (-1) = 0 := if_pos (Or.inr (by omega))
        have e2 : intN bs (-1) = 0 := if_pos (Or.inr (by omega))
        rw [e1, e2] at h; exact h))
      have KF := Lib.hid (fun w5 (hr : R w.heap.size w5 g [] true) => (show Calls Try.prog 21 #[.pointer (some ⟨g, 0, none⟩)] w5 fun e w' => e = .returned (.bool false) ∧ w5 = w' from K.fine _ _ _ _ _ hr))
      go_wp2_with (first
        | (go_at_call 20; (with_reducible refine (K.leftNil _).mono ?_); rintro e w5 ⟨rfl, rfl⟩)
        | (go_at_call 21; (with_reducible refine (K.fineNil _).mono ?_); rintro e w5 ⟨rfl, rfl⟩)
        | (go_at_call 22; (with_reducible refine (K.endNil _).mono ?_); rintro e w5 ⟨rfl, rfl⟩)
        | (go_at_call 17; (with_reducible refine (KI.out _ HRR.out hbel.size).mono ?_); rintro e w4 ⟨rfl, hr4, hb4⟩; have hbel4 : Below w.heap.size w w4 := hbel.trans hb4; have HRR4 := Lib.hid hr4; clear hr4 hb4)
        | (go_at_call 21; (with_reducible refine (KF.out _ HRR4.out).mono ?_); rintro e w5 ⟨rfl, rfl⟩)
        | (go_at_call 6; (with_reducible refine (awake_any _).mono ?_); rintro e w6 ⟨rfl, hb6⟩))
      go_ret
      exact ⟨rfl, hbel4.trans (hb6.mono hbel4.size)⟩

/-- WireTakes. -/
theorem law_takes {R : Nat → World → Nat → List Nat → Bool → Prop} (K : ReaderOk R) (v : Value) (xs : List Nat) (vl : Value) (l : List (Int × Nat × List Nat)) (w : World) (h : Rd w v xs ∧ ∀ x ∈ xs, x < 256) (h2 : RdAct w vl l ∧ FitAct l) :
    Calls Try.prog 4 #[v, vl] w fun e w' => e = .returned (.bool true) ∧ Below w.heap.size w w' := by
  obtain ⟨hr, hx⟩ := h
  obtain ⟨hl, hf⟩ := h2
  obtain ⟨Ab, nb, cb, rfl, hnb⟩ := hr.named
  by_cases h3 : 3000 < nb
  · obtain ⟨_, _, _, h4, h5⟩ := hr.addr (by omega)
    exact takes_long Ab nb cb vl h3 (Nat.le_trans h4 h5) w
  · have hv : ∃ A n c, vl = .slice A n c ∧ n = l.length := by
      rcases hl with ⟨p, c, rfl, rfl⟩ | ⟨b, off, cap, rfl, _⟩
      · exact ⟨p, 0, c, rfl, rfl⟩
      · exact ⟨_, _, cap, rfl, rfl⟩
    obtain ⟨A, n, c, rfl, hn⟩ := hv
    exact takes_form K xs nb cb Ab hnb (by omega) hx l n c A hn hf w hr hl
end Go.Proofs.Ytcgkigcokjdkjaa
