/-
Package clock: Take, by a contract; what the law ClockBytes asks of Put and Take.
-/
import Derived.Test.YtepafmoohlognaaKClkD
namespace Go.Proofs.Ytepafmoohlognaa
open Go.RowKit
open Wire (numL valL takeL runL bytesL)

set_option maxRecDepth 20000 in
set_option maxHeartbeats 2000000 in
theorem num_own (B g n c : Nat) (A : Option Addr) (xs : List Nat) (bad : Bool) (w : World) (h : Rr B w g (.slice A n c) xs bad) (hl : n ≤ 100000) (hn : n = xs.length) (hx : ∀ x ∈ xs, x < 256) :
    Calls Try.prog 36 #[.pointer (some ⟨g, 0, none⟩)] w fun e w' => e = .returned (.int .u64 ((takeL xs).1 : Nat)) ∧ (∃ v', Rr B w' g v' (numS xs bad).1 (numS xs bad).2 ∧ (v'.ownBlock = none ∨ v'.ownBlock = (Value.slice A n c).ownBlock)) ∧ KeptG g w w' := by
  have c0 := h.cell0
  have f0 := h.fr0
  have HR := Lib.hid h
  have hfirst := first_form n c A xs w h.2.2.1 hl hn hx
  have hle := (Wire.takeL_le xs).1
  have hz := fun e => Wire.takeL_zero (b := xs) e
  have hbad := h.2.2.2.2
  unfold numS
  rw [← hn] at hle
  by_cases h0 : (takeL xs).2 = 0
  · rw [if_pos h0]
    rw [hz h0, h0] at hfirst
    rw [hz h0]
    have HF := Lib.hid hfirst
    clear hfirst hle hz h0 hn hx h hbad
    go_enter Try.func36, Try.ntmps36
    go_wp2_with (first
      | (go_at_call 41; (with_reducible refine (HF.out).mono ?_); rintro e w1 ⟨rfl, rfl⟩)
      | (go_at_call 40; (with_reducible refine (fail_any _ _ _ _ _ _ HR.out).mono ?_); rintro e w2 ⟨⟨r, rfl⟩, hr2, hk2⟩; have HR2 := Lib.hid hr2; clear hr2))
    go_ret
    exact ⟨rfl, ⟨_, HR2.out, .inl rfl⟩, hk2⟩
  · rw [if_neg h0]
    have hr1 := HR.out.set0 (HR.out.2.2.1.cutV (takeL xs).2 hle) (by rw [sliceV_own]; exact HR.out.2.2.2.1) (fun e => by
      have e2 := hbad e
      rw [e2, List.length_nil] at hn
      omega)
    have hq := fun W => slice_run A n c (takeL xs).2 hle W
    obtain ⟨AA, p, cc, hsv⟩ : ∃ AA p cc, sliceV A n c (takeL xs).2 = .slice AA p cc := ⟨_, _, _, rfl⟩
    have hown : (Value.slice AA p cc).ownBlock = (Value.slice A n c).ownBlock := by rw [← hsv]; exact sliceV_own A n c _
    rw [hsv] at hq hr1
    have HOWN := Lib.hid hown
    have HR1 := Lib.hid hr1
    have HF := Lib.hid hfirst
    clear hfirst hr1 hsv hz hn hx h hbad hown
    generalize (takeL xs).1 = tn at *
    generalize (takeL xs).2 = tk at *
    have tz : ((tk : Int) == 0) = false := by simp; exact h0
    clear h0
    go_enter Try.func36, Try.ntmps36
    go_wp2_with (go_at_call 41; (with_reducible refine (HF.out).mono ?_); rintro e w1 ⟨rfl, rfl⟩)
    go_ret
    exact ⟨rfl, ⟨_, HR1.out.1, .inr HOWN.out⟩, HR1.out.2⟩

theorem Rd.block_lt {w : World} {v : Value} {xs : List Nat} (h : Rd w v xs) (hne : xs ≠ []) {b : Nat} (hb : v.ownBlock = some b) : b < w.heap.size := by
  rcases h with ⟨_, _, _, rfl, _⟩ | ⟨b', off, cap, rfl, hcap, hm, hlt, hc⟩
  · exact absurd rfl hne
  · obtain rfl : b' = b := Option.some.inj hb
    exact hlt
theorem KeptG.setNew {g h k : Nat} {w w' : World} (hk : KeptG g w w') (hh : w.heap.size ≤ h) (u : Value) : KeptG g w (w'.setCell ⟨h, k, none⟩ u) :=
  ⟨hk.os, hk.tape, hk.output, by simpa using hk.size, fun i hi hg hv => (Below.heap_setCell w' _ u i (by show i ≠ h; omega)).trans (hk.block i hi hg hv), hk.row⟩
theorem take_nil : takeL [] = (0, 0) := Wire.take_none (b := []) (fun j y _ h => by simp at h)
/-- How far Take has come: k numbers, in F; st: what the Reader has left. -/
def Prog (n : Nat) (rest : List Nat) (k : Nat) (F : List Nat) (st : List Nat × Bool) : Prop :=
  (st = ([], true) ∧ takeNums n rest = none) ∨ ∃ m, st = (rest.drop m, false) ∧ joinN (F.take k) m (takeNums (n - k) (rest.drop m)) = takeNums n rest
theorem Prog.start {n : Nat} {rest F : List Nat} : Prog n rest 0 F (rest, false) := by
  refine .inr ⟨0, by rw [List.drop_zero], ?_⟩
  rw [List.drop_zero, List.take_zero, Nat.sub_zero]
  cases takeNums n rest with
  | none => rfl
  | some r => simp [joinN]
theorem Prog.step {n : Nat} {rest F : List Nat} {k : Nat} {st : List Nat × Bool} (h : Prog n rest k F st) (hk : k < n) (hF : F.length = n) : Prog n rest (k + 1) (F.set k (takeL st.1).1) (numS st.1 st.2) := by
  rcases h with ⟨rfl, hn⟩ | ⟨m, rfl, hj⟩
  · refine .inl ⟨?_, hn⟩
    unfold numS
    rw [take_nil]; rfl
  · simp only
    obtain ⟨j, hj2⟩ : ∃ j, n - k = j + 1 := ⟨n - k - 1, by omega⟩
    have hj3 : n - (k + 1) = j := by omega
    rw [hj2] at hj
    by_cases h0 : (takeL (rest.drop m)).2 = 0
    · refine .inl ⟨by unfold numS; rw [if_pos h0], ?_⟩
      rw [← hj, takeNums_none _ _ h0]
    · refine .inr ⟨m + (takeL (rest.drop m)).2, by unfold numS; rw [if_neg h0, List.drop_drop], ?_⟩
      rw [← hj, hj3, takeNums_step _ _ h0, List.drop_drop]
      congr 1
      rw [List.take_add_one, List.getElem?_set_self (by omega), List.take_set_of_le (Nat.le_refl _)]
      rfl
theorem Prog.fin {n : Nat} {rest F : List Nat} {st : List Nat × Bool} (h : Prog n rest n F st) (hF : F.length = n) : (st = ([], true) ∧ takeNums n rest = none) ∨ ∃ m, st = (rest.drop m, false) ∧ takeNums n rest = some (F, m) := by
  rcases h with h | ⟨m, rfl, hj⟩
  · exact .inl h
  · refine .inr ⟨m, rfl, ?_⟩
    rw [← hj, Nat.sub_self, List.take_of_length_le (by omega)]
    simp [takeNums, joinN]
theorem Prog.left {n : Nat} {rest F : List Nat} {k : Nat} {st : List Nat × Bool} (h : Prog n rest k F st) : st.1.length ≤ rest.length ∧ ∀ x ∈ st.1, x ∈ rest := by
  rcases h with ⟨rfl, _⟩ | ⟨m, rfl, _⟩
  · exact ⟨Nat.zero_le _, fun x hx => by cases hx⟩
  · exact ⟨by simp, fun x hx => List.mem_of_mem_drop hx⟩
theorem cutN_short {F : List Nat} (h : F.getLast? = some 0) : cutN F < F.length := by
  have h1 := cut_last F
  rcases Nat.eq_or_lt_of_le (cutN_le F) with e | e
  · exfalso
    unfold cutF at h1
    rw [e, List.take_length] at h1
    exact h1 h
  · exact e
theorem cutN_full {F : List Nat} (h : F.getLast? ≠ some 0) : cutN F = F.length := by
  refine cutN_of (Nat.le_refl _) (fun j x hj hx => by rw [List.getElem?_eq_none hj] at hx; cases hx) ?_
  rcases Nat.eq_zero_or_pos F.length with e | e
  · exact .inl e
  · refine .inr ⟨F[F.length - 1], List.getElem?_eq_getElem (by omega), fun e2 => h ?_⟩
    rw [List.getLast?_eq_getElem?, List.getElem?_eq_getElem (by omega), e2]
theorem clkT_no {xs : List Nat} (h : (takeL xs).2 = 0 ∨ 64 < (takeL xs).1) : clkT xs = none := if_pos h
theorem clkT_gone {xs : List Nat} (h : takeNums (takeL xs).1 (xs.drop (takeL xs).2) = none) : clkT xs = none := by
  unfold clkT
  split
  · rfl
  · rw [h]
theorem clkT_zero {xs F : List Nat} {m : Nat} (h : takeNums (takeL xs).1 (xs.drop (takeL xs).2) = some (F, m)) (h0 : F.getLast? = some 0) : clkT xs = none := by
  unfold clkT
  split
  · rfl
  · rw [h]; simp only; rw [if_pos h0]
theorem clkT_yes {xs F : List Nat} {m : Nat} (h1 : ¬ ((takeL xs).2 = 0 ∨ 64 < (takeL xs).1)) (h : takeNums (takeL xs).1 (xs.drop (takeL xs).2) = some (F, m)) (h0 : F.getLast? ≠ some 0) : clkT xs = some (F, (takeL xs).2 + m) := by
  unfold clkT
  rw [if_neg h1, h]; simp only; rw [if_neg h0]
/-- Take's memory in the round: block h: the numbers F. -/
structure Tk (B g h n : Nat) (rest : List Nat) (w wr : World) (k : Nat) (F : List Nat) (st : List Nat × Bool) (v : Value) : Prop where
  row : RowU wr h F
  len : F.length = n
  rr : Rr B wr g v st.1 st.2
  own : st.1 = [] ∨ v.ownBlock ≠ some h
  kept : KeptG g w wr
  new : w.heap.size ≤ h
  prog : Prog n rest k F st
theorem Tk.gh {B g h n : Nat} {rest : List Nat} {w wr : World} {k : Nat} {F : List Nat} {st : List Nat × Bool} {v : Value} (t : Tk B g h n rest w wr k F st v) (hg : g < w.heap.size) : h ≠ g := by have := t.new; omega
theorem Tk.step {B g h n : Nat} {rest : List Nat} {w wr w2 : World} {k : Nat} {F : List Nat} {st : List Nat × Bool} {v v2 : Value} (t : Tk B g h n rest w wr k F st v) (hg : g < w.heap.size) (hk : k < n)
    (hr : Rr B w2 g v2 (numS st.1 st.2).1 (numS st.1 st.2).2) (ho : v2.ownBlock = none ∨ v2.ownBlock = v.ownBlock) (hk2 : KeptG g wr w2) :
    RowU w2 h F ∧ Tk B g h n rest w (w2.setCell ⟨h, k, none⟩ (.int .u64 (((takeL st.1).1 : Nat) : Int))) (k + 1) (F.set k (takeL st.1).1) (numS st.1 st.2) v2 := by
  have hgh := t.gh hg
  have hrow : RowU w2 h F := t.row.block (hk2.block h t.row.lt hgh (by simp [Value.ownBlock]))
  have hown : (numS st.1 st.2).1 = [] ∨ v2.ownBlock ≠ some h := by
    rcases t.own with e | e
    · left; rw [e]; unfold numS; rw [take_nil]; rfl
    · rcases ho with e2 | e2
      · exact .inr (by rw [e2]; simp)
      · exact .inr (by rw [e2]; exact e)
  refine ⟨hrow, hrow.set k _, by rw [List.length_set]; exact t.len, ?_, hown, KeptG.setNew (t.kept.trans hk2) t.new _, t.new, t.prog.step hk t.len⟩
  rcases hown with e | e
  · rw [e] at hr ⊢
    exact hr.otherNil (Kept.set h _ w2 k _) (fun e => hgh e.symm)
  · exact hr.otherG (Kept.set h _ w2 k _) (fun e => hgh e.symm) e

set_option maxRecDepth 20000 in
set_option maxHeartbeats 2000000 in
theorem take_clk (B g : Nat) (v : Value) (xs : List Nat) (w : World) (h : Rr B w g v xs false) (hl : xs.length ≤ 100000) (hx : ∀ x ∈ xs, x < 256) :
    Calls Try.prog 21 #[.pointer (some ⟨g, 0, none⟩)] w fun e w' => ∃ u, e = .returned (.tuple #[u, .bool (clkT xs).isSome]) ∧ RdU w' u (clkX (clkT xs)) ∧ (clkX (clkT xs) = [] ∨ ∀ k, u.ownBlock = some k → w.heap.size ≤ k) ∧
      (∀ ys k, clkT xs = some (ys, k) → ∃ v', Rr B w' g v' (xs.drop k) false) ∧ KeptG g w w' := by
  have hint := int_form B g v xs false 64 w h hl hx (by omega) (by omega)
  have hgw := h.lt
  have hnone : clkT xs = none → ∀ (w' : World), KeptG g w w' → ∃ u, (Ending.returned (.tuple #[.slice none 0 0, .bool false])) = .returned (.tuple #[u, .bool (clkT xs).isSome]) ∧ RdU w' u (clkX (clkT xs)) ∧ (clkX (clkT xs) = [] ∨ ∀ k, u.ownBlock = some k → w.heap.size ≤ k) ∧
      (∀ ys k, clkT xs = some (ys, k) → ∃ v', Rr B w' g v' (xs.drop k) false) ∧ KeptG g w w' := fun e w' hk => by
    rw [e]
    exact ⟨_, rfl, .inl ⟨none, 0, rfl, rfl, fun _ => rfl⟩, .inl rfl, (fun ys k h => by cases h), hk⟩
  have HNO := Lib.hid hnone
  by_cases hc : (takeL xs).2 = 0 ∨ 64 < (takeL xs).1
  · have hct := clkT_no hc
    have e1 : intV xs 64 = 0 := if_pos (by omega)
    have e2 : intN xs 64 = 0 := if_pos (by omega)
    have e3 : leftS xs false 0 = ([], true) := rfl
    rw [e1, e2, e3] at hint
    have HINT := Lib.hid hint
    have HCT := Lib.hid hct
    clear hint hnone hc hct e1 e2 e3 h hl hx
    go_enter Try.func21, Try.ntmps21
    go_wp2_with (first
      | (go_at_call 35; (with_reducible refine (HINT.out).mono ?_); rintro e w1 ⟨rfl, ⟨v1, hr1⟩, hk1⟩; have HR1 := Lib.hid hr1; have HK1 := Lib.hid hk1; clear hr1 hk1)
      | (at_make; go_must (refine wp_makeU rfl _ _ rfl 0 _ rfl rfl rfl (by omega) ?_); intro w2 hrow2 hb2; have HR2 := Lib.hid (HR1.out.keep hb2); have HK2 := Lib.hid (HK1.out.trans (Kept.of_below hb2)); clear hrow2 hb2))
    go_loopw [11] (fun i wr => i = .int .i64 0 ∧ w2 = wr) (fun _ _ => 0)
    case atStart => exact ⟨rfl, rfl⟩
    case round =>
      obtain ⟨rfl, rfl⟩ := hrel
      have HFI := Lib.hid (fine_any _ _ _ _ _ _ HR2.out)
      go_wp2_with (go_at_call 37; (with_reducible refine (HFI.out).mono ?_); rintro e w3 ⟨rfl, rfl⟩)
      all_goals go_ret2
      all_goals exact HNO.out HCT.out _ HK2.out
  · have h0 : (takeL xs).2 ≠ 0 := fun e => hc (.inl e)
    have h64 : (takeL xs).1 ≤ 64 := by omega
    have e1 : intV xs 64 = (takeL xs).1 := if_neg (by omega)
    have e2 : intN xs 64 = (takeL xs).2 := if_neg (by omega)
    have e3 : leftS xs false (takeL xs).2 = (xs.drop (takeL xs).2, false) := if_neg h0
    rw [e1, e2, e3] at hint
    have hgone := clkT_gone (xs := xs)
    have hzero := fun (F : List Nat) (m : Nat) => clkT_zero (xs := xs) (F := F) (m := m)
    have hyes := fun (F : List Nat) (m : Nat) => clkT_yes (xs := xs) (F := F) (m := m) hc
    have hrl : (xs.drop (takeL xs).2).length ≤ 100000 := by rw [List.length_drop]; omega
    have hrx : ∀ x ∈ xs.drop (takeL xs).2, x < 256 := fun x h => hx x (List.mem_of_mem_drop h)
    have hdd : ∀ m, xs.drop ((takeL xs).2 + m) = (xs.drop (takeL xs).2).drop m := fun m => by rw [List.drop_drop]
    clear hnone hc e1 e2 e3 h hl hx h0
    generalize (takeL xs).1 = n at *
    generalize (takeL xs).2 = tk at *
    generalize xs.drop tk = rest at *
    have HINT := Lib.hid hint
    have HGONE := Lib.hid hgone
    have HZERO := Lib.hid hzero
    have HYES := Lib.hid hyes
    have HRL := Lib.hid hrl
    have HRX := Lib.hid hrx
    have HDD := Lib.hid hdd
    clear hint hgone hzero hyes hrl hrx hdd
    go_enter Try.func21, Try.ntmps21
    go_wp2_with (first
      | (go_at_call 35; (with_reducible refine (HINT.out).mono ?_); rintro e w1 ⟨rfl, ⟨v1, hr1⟩, hk1⟩; have HR1 := Lib.hid hr1; have HK1 := Lib.hid hk1; clear hr1 hk1)
      | (at_make; go_must (refine wp_makeU rfl _ _ rfl n _ rfl rfl rfl (by omega) ?_); intro w2 hrow2 hb2; have HB2 := Lib.hid hb2; have HROW2 := Lib.hid hrow2; clear hrow2 hb2))
    have hT0 : Tk B g w1.heap.size n rest w w2 0 (List.replicate n 0) (rest, false) v1 := by
      refine ⟨HROW2.out, by simp, HR1.out.keep HB2.out, ?_, HK1.out.trans (Kept.of_below HB2.out), HK1.out.size, Prog.start⟩
      by_cases hr : rest = []
      · exact .inl hr
      · exact .inr fun e => Nat.lt_irrefl _ (HR1.out.2.2.1.block_lt hr e)
    have HT0 := Lib.hid hT0
    clear hT0
    generalize w1.heap.size = hh at *
    go_loopw [11] (fun i wr => ∃ (k : Nat), k ≤ n ∧ i = .int .i64 (k : Int) ∧ Hid (∃ F st v', Tk B g hh n rest w wr k F st v')) (fun i _ => n - (intOf i).toNat)
    case atStart => exact ⟨0, Nat.zero_le _, rfl, Lib.hid ⟨_, _, _, HT0.out⟩⟩
    case round =>
      obtain ⟨k, hk, rfl, HI⟩ := hrel
      obtain ⟨F, st, v', hT⟩ := HI.out
      have HT := Lib.hid hT
      clear hT HI HT0 HB2 HROW2 HR1 HK1
      by_cases hkn : k < n
      · obtain ⟨A, q, c, rfl, hq⟩ := HT.out.rr.2.2.1.named
        have hle := HT.out.prog.left
        have hnum := num_own B g q c A st.1 st.2 wr HT.out.rr (by have := HRL.out; omega) hq (fun x hx => HRX.out x (hle.2 x hx))
        have HNUM := Lib.hid hnum
        obtain ⟨y, hy⟩ : ∃ y, y = (takeL st.1).1 := ⟨_, rfl⟩
        have HY := Lib.hid hy
        rw [← hy] at hnum
        have HNUM := Lib.hid hnum
        clear hnum hle hq hy
        go_wp2_with (go_at_call 36; (with_reducible refine (HNUM.out).mono ?_); rintro e w3 ⟨rfl, ⟨v3, hr3, ho3⟩, hk3⟩; have hS := HT.out.step hgw hkn hr3 ho3 hk3; rw [← HY.out] at hS; (obtain ⟨x0, hx0⟩ : ∃ x, F[k]? = some x := ⟨_, List.getElem?_eq_getElem (by have := HT.out.len; omega)⟩); have p0 := hS.1.cell hx0; have f0 := hS.1.frozen k; have HS := Lib.hid hS.2; clear hr3 ho3 hk3 hS hx0)
        go_roundw
        case rel => exact ⟨k + 1, by omega, by go_num, Lib.hid ⟨_, _, _, HS.out⟩⟩
        case measure => simp [intOf]; omega
      · obtain rfl : k = n := by omega
        clear hkn
        rcases HT.out.prog.fin HT.out.len with ⟨rfl, hn⟩ | ⟨m, rfl, hn⟩
        · have HFI := Lib.hid (fine_any _ _ _ _ _ _ HT.out.rr)
          have HN := Lib.hid hn
          clear hn
          go_wp2_with (go_at_call 37; (with_reducible refine (HFI.out).mono ?_); rintro e w3 ⟨rfl, rfl⟩)
          all_goals go_ret2
          all_goals exact HNO.out (HGONE.out HN.out) _ HT.out.kept
        · have HFI := Lib.hid (fine_any _ _ _ _ _ _ HT.out.rr)
          have HN := Lib.hid hn
          have hrd := HT.out.row.rd (L := k) HT.out.len.symm (by omega)
          have hS : Calls Try.prog 30 #[.slice (some ⟨hh, 0, none⟩) k k] wr fun e w' => e = .returned (.slice (some ⟨hh, 0, none⟩) (cutN F) k) ∧ wr = w' := (short_clk F k k (some ⟨hh, 0, none⟩) HT.out.len.symm (by omega) wr hrd).mono (fun e w' ⟨m, h1, h2, _, h4⟩ => ⟨by rw [h1, h2], h4⟩)
          have HRD := Lib.hid hrd
          clear hn hrd
          by_cases hz : F.getLast? = some 0
          · have hlt := cutN_short hz
            rw [HT.out.len] at hlt
            have HZ := Lib.hid (HZERO.out _ _ HN.out hz)
            generalize cutN F = r at *
            have hi : (r : Int) < (k : Int) := by omega
            have HS := Lib.hid hS
            clear hS hz hlt
            go_wp2_with (first
              | (go_at_call 37; (with_reducible refine (HFI.out).mono ?_); rintro e w3 ⟨rfl, rfl⟩)
              | (go_at_call 30; (with_reducible refine (HS.out).mono ?_); rintro e w3 ⟨rfl, rfl⟩))
            all_goals go_ret2
            all_goals exact HNO.out HZ.out _ HT.out.kept
          · have hlt := cutN_full hz
            rw [HT.out.len] at hlt
            have HZ := Lib.hid (HYES.out _ _ HN.out hz)
            rw [hlt] at hS
            have HS := Lib.hid hS
            clear hS hz hlt
            go_wp2_with (first
              | (go_at_call 37; (with_reducible refine (HFI.out).mono ?_); rintro e w3 ⟨rfl, rfl⟩)
              | (go_at_call 30; (with_reducible refine (HS.out).mono ?_); rintro e w3 ⟨rfl, rfl⟩))
            all_goals go_ret2
            all_goals
              rw [HZ.out]
              refine ⟨_, rfl, HRD.out, .inr fun b hb => ?_, fun ys b hb => ?_, HT.out.kept⟩
              · obtain rfl : hh = b := Option.some.inj hb
                exact HT.out.new
              · simp only [Option.some.injEq, Prod.mk.injEq] at hb
                obtain ⟨rfl, rfl⟩ := hb
                rw [HDD.out]
                exact ⟨_, HT.out.rr⟩

/-- What the law asks of Put and Take: here of any world. -/
theorem clock_io (E : World → Prop) : ClockIO E where
  put B g v xs ns u w _ hf hu hB hw hl hBw := put_clk B g v xs ns u w hf hu hB hw hl hBw
  take B g v xs w _ h hl hx := take_clk B g v xs w h hl hx
end Go.Proofs.Ytepafmoohlognaa
