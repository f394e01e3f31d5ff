/-
Reader.Bytes, Text, by contracts; all contracts of the Reader together.
-/
import Derived.Test.YtcgkigcokjdkjaaWRInt
namespace Go.Proofs.Ytcgkigcokjdkjaa
open Go.RowKit
open Wire (numL valL takeL runL bytesL)

theorem run_of (xs : List Nat) (bad : Bool) (hb : bad = true → xs = []) :
    (intV xs 65536 ≤ (leftS xs bad (intN xs 65536)).1.length → (runL xs).1 = (leftS xs bad (intN xs 65536)).1.take (intV xs 65536) ∧ leftS xs bad (runL xs).2 = ((leftS xs bad (intN xs 65536)).1.drop (intV xs 65536), (leftS xs bad (intN xs 65536)).2)) ∧
    ((leftS xs bad (intN xs 65536)).1.length < intV xs 65536 → runL xs = ([], 0)) := by
  have hle := Wire.takeL_le xs
  by_cases h : (takeL xs).2 = 0 ∨ (65536 : Int) < ((takeL xs).1 : Int)
  · have e1 : intV xs 65536 = 0 := if_pos h
    have e2 : intN xs 65536 = 0 := if_pos h
    have e3 : runL xs = ([], 0) := by
      unfold runL
      rw [if_pos]
      rcases h with h | h
      · exact .inl h
      · exact .inr (.inl (by omega))
    rw [e1, e2, e3]
    exact ⟨fun _ => ⟨rfl, rfl⟩, fun _ => rfl⟩
  · have e1 : intV xs 65536 = (takeL xs).1 := if_neg h
    have e2 : intN xs 65536 = (takeL xs).2 := if_neg h
    have h0 : (takeL xs).2 ≠ 0 := fun e => h (Or.inl e)
    have hbad : bad = false := by
      cases hbd : bad
      · rfl
      · rw [hb hbd, Wire.take_none (b := []) (fun j y _ h => by simp at h)] at h0
        exact absurd rfl h0
    subst hbad
    have e4 : leftS xs false (takeL xs).2 = (xs.drop (takeL xs).2, false) := if_neg h0
    rw [e1, e2, e4]
    simp only [List.length_drop]
    refine ⟨fun hm => ?_, fun hm => ?_⟩
    · have e5 : runL xs = ((xs.drop (takeL xs).2).take (takeL xs).1, (takeL xs).2 + (takeL xs).1) := by
        unfold runL
        rw [if_neg]
        intro hc
        rcases hc with hc | hc | hc
        · exact h0 hc
        · exact h (Or.inr (by omega))
        · omega
      rw [e5]
      refine ⟨rfl, ?_⟩
      show leftS xs false ((takeL xs).2 + (takeL xs).1) = _
      unfold leftS
      rw [if_neg (by omega), List.drop_drop]
    · unfold runL
      rw [if_pos (Or.inr (Or.inr (by omega)))]

theorem runL_len (xs : List Nat) : (runL xs).1.length ≤ xs.length := by
  unfold runL
  split
  · simp
  · simp only [List.length_take, List.length_drop]; omega

set_option maxRecDepth 20000 in
set_option maxHeartbeats 1000000 in
/-- The bytes lie in the Reader's own memory. -/
theorem counted_form (B g : Nat) (v : Value) (xs : List Nat) (bad : Bool) (w : World) (h : Rr B w g v xs bad) (hl : xs.length ≤ 100000) (hx : ∀ x ∈ xs, x < 256) (hB : B ≤ w.heap.size) :
    Calls Try.prog 26 #[.pointer (some ⟨g, 0, none⟩)] w fun e w' => ∃ v', e = .returned v' ∧ Rd w' v' (runL xs).1 ∧ (∃ u, Rr B w' g u (leftS xs bad (runL xs).2).1 (leftS xs bad (runL xs).2).2) ∧ KeptG g w w' := by
  have hint := int_form B g v xs bad 65536 w h hl hx (by omega) (by omega)
  obtain ⟨r1, r2⟩ := run_of xs bad h.2.2.2.2
  have hil : intV xs 65536 ≤ 65536 := by
    unfold intV; split <;> omega
  have hrl : (leftS xs bad (intN xs 65536)).1.length ≤ 100000 := by
    unfold leftS
    split
    · simp
    · simp; omega
  generalize intV xs 65536 = m at *
  generalize hrest : leftS xs bad (intN xs 65536) = st at *
  obtain ⟨rest, bad1⟩ := st
  simp only at hint r1 r2 hrl
  have HINT := Lib.hid hint
  have hfail : leftS xs bad 0 = ([], true) := rfl
  have HF := Lib.hid hfail
  clear hint hrest h hl hx hfail
  by_cases hm : m ≤ rest.length
  · obtain ⟨e1, e2⟩ := r1 hm
    have E1 := Lib.hid e1
    have E2 := Lib.hid e2
    have HM := Lib.hid hm
    have HRL := Lib.hid hrl
    clear e1 e2 r1 r2 hm hrl
    go_enter Try.func26, Try.ntmps26
    go_wp2_with (go_at_call 17; (with_reducible refine (HINT.out).mono ?_); rintro e w1 ⟨rfl, ⟨v1, hr1⟩, hk1⟩; (obtain ⟨A1, n1, c1, rfl, hn1⟩ := hr1.2.2.1.named); have c0 := hr1.cell0; have f0 := hr1.fr0; have hmn : m ≤ n1 := (by have := HM.out; omega); have hcn := hr1.2.2.1.cap_le; have hn5 : n1 ≤ 100000 := (by have := HRL.out; omega); have hqH := (fun W => sliceH_run A1 n1 c1 m (Nat.le_trans hmn hcn) W); have HTH := Lib.hid (hr1.2.2.1.takeH m hmn); (obtain ⟨AH, pH, cH, hsH⟩ : ∃ AA p cc, sliceH A1 c1 m = .slice AA p cc := ⟨_, _, _, rfl⟩); have HSO : Hid ((sliceH A1 c1 m).ownBlock ≠ some g) := (by have e : (sliceH A1 c1 m).ownBlock = (Value.slice A1 n1 c1).ownBlock := sliceH_own A1 n1 c1 m; show _ ≠ _; rw [e]; exact hr1.2.2.2.1); rw [hsH] at hqH HTH HSO; have hq := (fun W => slice_run A1 n1 c1 m hmn W); have hs := hr1.set0 (hr1.2.2.1.cutV m hmn) (by rw [sliceV_own]; exact hr1.2.2.2.1) (fun e => by rw [hr1.2.2.2.2 e]; simp); (obtain ⟨AA, p, cc, hsv⟩ : ∃ AA p cc, sliceV A1 n1 c1 m = .slice AA p cc := ⟨_, _, _, rfl⟩); rw [hsv] at hq hs; have HS := Lib.hid hs; clear hr1 hn1 hs hsv hsH)
    go_ret
    refine ⟨_, rfl, ?_, ⟨.slice AA p cc, ?_⟩, hk1.trans HS.out.2⟩
    · rw [E1.out]
      exact Rd.keptG HTH.out HS.out.2 HSO.out
    · rw [E2.out]; exact HS.out.1
  · have e1 := r2 (by omega)
    have hm2 : rest.length < m := by omega
    have E1 := Lib.hid e1
    have HM := Lib.hid hm2
    have HRL := Lib.hid hrl
    clear e1 r1 r2 hm hm2 hrl
    go_enter Try.func26, Try.ntmps26
    go_wp2_with (first
      | (go_at_call 17; (with_reducible refine (HINT.out).mono ?_); rintro e w1 ⟨rfl, ⟨v1, hr1⟩, hk1⟩; (obtain ⟨A1, n1, c1, rfl, hn1⟩ := hr1.2.2.1.named); have c0 := hr1.cell0; have hmn : n1 < m := (by have := HM.out; omega); have HR1 := Lib.hid hr1; clear hr1 hn1)
      | (go_at_call 25; (with_reducible refine (fail_any _ _ _ _ _ _ HR1.out).mono ?_); rintro e w2 ⟨⟨r, rfl⟩, hr2, hk2⟩; have HR2 := Lib.hid hr2; clear hr2))
    go_ret
    refine ⟨.slice none 0 0, rfl, ?_, ⟨.slice none 0 0, ?_⟩, hk1.trans hk2⟩
    · rw [E1.out]; exact .inl ⟨none, 0, rfl, rfl, fun _ => rfl⟩
    · rw [E1.out]; exact HR2.out

set_option maxRecDepth 20000 in
theorem bytes_form (B g : Nat) (v : Value) (xs : List Nat) (bad : Bool) (w : World) (h : Rr B w g v xs bad) (hl : xs.length ≤ 100000) (hx : ∀ x ∈ xs, x < 256) (hB : B ≤ w.heap.size) :
    Calls Try.prog 18 #[.pointer (some ⟨g, 0, none⟩)] w fun e w' => ∃ v', e = .returned v' ∧ Rd w' v' (runL xs).1 ∧ (∃ u, Rr B w' g u (leftS xs bad (runL xs).2).1 (leftS xs bad (runL xs).2).2) ∧ KeptG g w w' := by
  have hc := counted_form B g v xs bad w h hl hx hB
  have hrl := runL_len xs
  have HC := Lib.hid hc
  have HL := Lib.hid (show (runL xs).1.length ≤ 500000 by omega)
  clear hc h hl hx hB hrl
  go_enter Try.func18, Try.ntmps18
  go_wp2_with (first
    | (go_at_call 26; (with_reducible refine (HC.out).mono ?_); rintro e w1 ⟨v1, rfl, hr1, hs1, hk1⟩; have HRD := Lib.hid hr1; have HS := Lib.hid hs1; clear hr1 hs1)
    | (go_at_call 23; (with_reducible refine (clone_any _ _ _ HRD.out HL.out).mono ?_); rintro e w2 ⟨v2, rfl, hown2, hb2⟩; have HO2 := Lib.hid hown2; clear hown2))
  go_ret
  obtain ⟨u, hu⟩ := HS.out
  exact ⟨_, rfl, HO2.out.rd, ⟨u, hu.keep hb2⟩, hk1.trans (Kept.of_below hb2)⟩

set_option maxRecDepth 20000 in
theorem text_form (B g : Nat) (v : Value) (xs : List Nat) (bad : Bool) (w : World) (h : Rr B w g v xs bad) (hl : xs.length ≤ 100000) (hx : ∀ x ∈ xs, x < 256) (hB : B ≤ w.heap.size) :
    Calls Try.prog 19 #[.pointer (some ⟨g, 0, none⟩)] w fun e w' => e = .returned (.string (strN (runL xs).1)) ∧ (∃ u, Rr B w' g u (leftS xs bad (runL xs).2).1 (leftS xs bad (runL xs).2).2) ∧ KeptG g w w' := by
  have hb := counted_form B g v xs bad w h hl hx hB
  have HB := Lib.hid hb
  clear hb h hl hx hB
  go_enter Try.func19, Try.ntmps19
  go_wp2_with (go_at_call 26; (with_reducible refine (HB.out).mono ?_); rintro e w1 ⟨v1, rfl, hr1, hs1, hk1⟩; have hcv := conv_rd hr1; have HS := Lib.hid hs1; clear hr1 hs1)
  go_ret
  exact ⟨rfl, HS.out, hk1⟩

/-- The Reader meets all that the laws ask. -/
def RdrT (B : Nat) (w : World) (g : Nat) (xs : List Nat) (bad : Bool) : Prop := ∃ v, Rr B w g v xs bad
theorem readerOk : ReaderOk RdrT where
  keep := fun ⟨v, h⟩ hb => ⟨v, h.keep hb⟩
  base := fun ⟨v, h⟩ hB => ⟨v, Nat.le_trans hB h.1, h.2⟩
  fails := fun ⟨v, h⟩ hb => h.2.2.2.2 hb
  read := fun v xs w h hl _ => (read_any v xs w h hl).mono fun e w' ⟨g, v', he, hr, hb⟩ => ⟨g, he, ⟨v', hr⟩, hb⟩
  num := fun B g xs bad w ⟨v, h⟩ hB hl hx => by
    obtain ⟨A, n, c, rfl, hn⟩ := h.2.2.1.named
    exact (num_form B g n c A xs bad w h (by omega) hn hx).mono fun e w' ⟨he, hr, hk⟩ => ⟨he, hr, KeptG.below hk h.1 hB⟩
  int := fun B g xs bad most w ⟨v, h⟩ hB hl hx h1 h2 => (int_form B g v xs bad most w h hl hx h1 h2).mono fun e w' ⟨he, hr, hk⟩ => ⟨he, hr, KeptG.below hk h.1 hB⟩
  bytes := fun B g xs bad w ⟨v, h⟩ hB hl hx => (bytes_form B g v xs bad w h hl hx hB).mono fun e w' ⟨v', he, hr, hs, hk⟩ => ⟨v', he, hr, hs, KeptG.below hk h.1 hB⟩
  text := fun B g xs bad w ⟨v, h⟩ hB hl hx => (text_form B g v xs bad w h hl hx hB).mono fun e w' ⟨he, hr, hk⟩ => ⟨he, hr, KeptG.below hk h.1 hB⟩
  left := fun B g xs bad w ⟨v, h⟩ hl => left_any B g v xs bad w h hl
  fine := fun B g xs bad w ⟨v, h⟩ => fine_any B g v xs bad w h
  end_ := fun B g xs bad w ⟨v, h⟩ hl => end_any B g v xs bad w h hl
  leftNil := left_nil
  fineNil := fine_nil
  endNil := end_nil
end Go.Proofs.Ytcgkigcokjdkjaa
