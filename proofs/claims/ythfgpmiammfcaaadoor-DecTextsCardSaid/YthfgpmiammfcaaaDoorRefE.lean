/-
The reference's division of two numbers of digits, by its contract.
-/
import Derived.Test.YthfgpmiammfcaaaDoorRefD
namespace Go.Proofs.YthfgpmiammfcaaaDoor
open Go.RowKit
open Num (digs valD cutL Ten)

/-- A literal of one digit. -/
theorem own_lit1 (w : World) (t : Nat) : Own w.heap.size (w.alloc (.cells #[.int .u8 (t : Int)] 5)) (.slice (some ⟨w.heap.size, 0, none⟩) 1 1) [t] := by
  refine ⟨by simp, .inr ⟨w.heap.size, 1, #[.int .u8 (t : Int)], rfl, Nat.le_refl _, heap_alloc_new w _, by simp, by decide, by simp, by simp [nv]⟩⟩

/-- The cell of a row of digits, and its store. -/
theorem Own.cellAt {B g n cap : Nat} {w : World} {xs : List Nat} (h : Own B w (.slice (some ⟨g, 0, none⟩) n cap) xs) (j : Nat) (hj : j < xs.length) : w.cell? ⟨g, j, none⟩ = some (.int .u8 ((xs[j]?.getD 0 : Nat) : Int)) := by
  rcases h.cases with ⟨h, _⟩ | ⟨g', cap', h, _, _, _, hc⟩
  · simp at h
  · simp at h; rw [h.1]; exact hc j hj
theorem Own.lenEq {B g n cap : Nat} {w : World} {xs : List Nat} (h : Own B w (.slice (some ⟨g, 0, none⟩) n cap) xs) : n = xs.length := by
  rcases h.cases with ⟨h, _⟩ | ⟨g', cap', h, _⟩
  · simp at h
  · simp at h; exact h.2.1
theorem Own.frozenAt {B g n cap : Nat} {w : World} {xs : List Nat} (h : Own B w (.slice (some ⟨g, 0, none⟩) n cap) xs) (j : Nat) : w.frozen? ⟨g, j, none⟩ = false := by
  have hn := h.lenEq; subst hn
  exact World.ownsRow.frozenAt h j
theorem Own.stored {B g n cap : Nat} {w : World} {xs : List Nat} (h : Own B w (.slice (some ⟨g, 0, none⟩) n cap) xs) (j u : Nat) : Own B (w.setCell ⟨g, j, none⟩ (.int .u8 (u : Int))) (.slice (some ⟨g, 0, none⟩) n cap) (xs.set j u) := by
  have hn := h.lenEq; subst hn
  have := (World.ownsRow.stored h j (.int .u8 (u : Int))).1
  unfold Own
  simpa [List.map_set, nv] using this
theorem Own.setBelow {B : Nat} {w : World} {v : Value} {xs : List Nat} (h : Own B w v xs) {a : Addr} (ha : a.block < B) (u : Value) : Own B (w.setCell a u) v xs := ownsRow_setCell_below h ha u

theorem cellB {w w' : World} {p : Addr} {v : Value} (h : w.cell? p = some v) (hb : Below w.heap.size w w') : w'.cell? p = some v := by
  rw [hb.cell (World.block_lt_of_cell? w p h)]; exact h
theorem frozB {w w' : World} {p : Addr} {v : Value} {f : Bool} (h : w.cell? p = some v) (hf : w.frozen? p = f) (hb : Below w.heap.size w w') : w'.frozen? p = f := by
  rw [hb.frozen (World.block_lt_of_cell? w p h)]; exact hf

set_option maxRecDepth 20000 in
set_option maxHeartbeats 1000000 in
/-- ref.Over. -/
theorem over_any (w : World) (va vb : Value) (a b : Nat) (ha : Rd w va (digs a)) (hb : Rd w vb (digs b)) (la : (digs a).length ≤ 90) (lb : (digs b).length ≤ 40) (hb0 : 0 < b) :
    Calls Tryd.prog 51 #[va, vb] w fun e w' => ∃ v1 v2, e = .returned (.tuple #[v1, v2]) ∧ Own w.heap.size w' v1 (digs (a / b)) ∧ Own w.heap.size w' v2 (digs (a % b)) ∧ Below w.heap.size w w' := by
  obtain ⟨xs, hxs⟩ : ∃ xs, xs = digs a := ⟨_, rfl⟩
  have tx : Ten xs := hxs ▸ Num.digs_ten a
  have hva : valD xs = a := by rw [hxs, Num.valD_digs]
  rw [← hxs] at ha la
  obtain ⟨lx, hlx⟩ : ∃ lx, lx = xs.length := ⟨_, rfl⟩
  have hx' : lx ≤ 90 := by omega
  obtain ⟨pa, ca, rfl⟩ := ha.lens hlx
  have hcells : ∀ j, j < lx → ∃ g, pa = some ⟨g, 0, none⟩ ∧ g < w.heap.size ∧ w.cell? ⟨g, j, none⟩ = some (.int .u8 ((xs[j]?.getD 0 : Nat) : Int)) := by
    intro j hj
    rcases ha.cases with ⟨h, h'⟩ | ⟨g, cap, h, hcap, hm, hg, hc⟩
    · rw [h'] at hlx; simp at hlx; omega
    · simp at h; exact ⟨g, h.1, hg, hc j (by omega)⟩
  -- what is left is always short
  have hshort : ∀ r, r < 10 * b → (digs r).length ≤ 41 := by
    intro r hr
    have h2 : b < 10 ^ 40 := by have := Num.valD_lt (Num.digs_ten b); rw [Num.valD_digs] at this; exact Nat.lt_of_lt_of_le this (Nat.pow_le_pow_right (by decide) lb)
    refine Num.digs_length_le ?_
    rw [Nat.pow_succ]; omega
  have HV := Lib.hid hva; clear hva hxs
  have HLX := Lib.hid hlx; clear hlx
  have HS := Lib.hid hshort; clear hshort
  have HC := Lib.hid hcells; clear hcells
  go_enter Tryd.func51, Tryd.ntmps51
  go_wp2_with (at_make; go_must (refine wp_makeN rfl _ _ rfl lx _ rfl rfl rfl (by omega) ?_); intro w1 hown1 hbel1 hsz1)
  go_loopw [7, 8] (fun v iv wr => ∃ (k r : Nat) (zs : List Nat), iv = .int .i64 ((k : Int) - 1) ∧ k ≤ lx ∧ r < b ∧ Own (w.heap.size + 1) wr v (digs r) ∧ Own w.heap.size wr (.slice (some ⟨w.heap.size, 0, none⟩) lx lx) (List.replicate k 0 ++ zs) ∧ w.heap.size < wr.heap.size
      ∧ Ten zs ∧ Below w.heap.size w wr ∧ Hid (valD (xs.drop k) = b * valD zs + r))
    (fun _ i _ => (intOf i + 1).toNat)
  case atStart => exact ⟨lx, 0, [], by go_num, by omega, hb0, by rw [Num.digs_zero]; exact Own.nil _ _, by simpa using hown1, by omega, Ten.nil, hbel1, by show _ = _; rw [List.drop_of_length_le (by rw [← HLX.out]; exact Nat.le_refl _)]; simp [valD]⟩
  case round =>
    obtain ⟨k, r, zs, rfl, hk, hr, hrest, hout, hsz, tz, hbel, heq⟩ := hrel
    cases k with
    | zero =>
      have h0 := heq.out
      rw [List.drop_zero, HV.out] at h0
      have h1 := Num.over_end h0 hr
      rw [List.replicate_zero, List.nil_append] at hout
      have hzl : zs.length ≤ 90 := by have := hout.lenEq; omega
      have H1 := Lib.hid h1; clear h1 h0
      go_wp2_with (go_at_call 38; go_must (refine (cut_any w.heap.size _ _ zs hout (by omega)).mono ?_); rintro e w' ⟨v', rfl, hv', rfl⟩)
      go_ret2
      exact ⟨_, _, rfl, by rw [← H1.out.1, ← Num.cutL_digs tz]; exact hv', by rw [← H1.out.2]; exact hrest.base (by omega), hbel⟩
    | succ i =>
      have e1 : (((i + 1 : Nat) : Int) - 1) = (i : Int) := by omega
      rw [e1]
      clear e1
      obtain ⟨t, ht⟩ : ∃ d, xs[i]?.getD 0 = d := ⟨_, rfl⟩
      have ht9 : t < 10 := by rw [← ht]; exact tx.getD i
      obtain ⟨g, hpa, hgw, hcell⟩ := HC.out i (by omega)
      subst hpa
      have hxx := Num.valD_drop_getD xs i (by rw [← HLX.out]; omega)
      rw [ht] at hxx hcell
      have hcell1 : wr.cell? ⟨g, i, none⟩ = some (.int .u8 (t : Int)) := by rw [hbel.cell (p := ⟨g, i, none⟩) hgw]; exact hcell
      have HX := Lib.hid hxx; clear hxx ht
      have hrl := HS.out r (by omega)
      have hsnoc := Num.digs_snoc (r := r) ht9
      obtain ⟨R, hR⟩ : ∃ R, t + 10 * r = R := ⟨_, rfl⟩
      have hR10 : R < 10 * b := by omega
      rw [hR] at hsnoc
      have HSN := Lib.hid hsnoc; clear hsnoc
      have HR := Lib.hid hR; clear hR
      have hik : (i : Int) < (lx : Int) := by omega
      obtain ⟨wo, hwo⟩ : ∃ wo : World, wo = wr := ⟨_, rfl⟩
      subst hwo
      go_wp2_with (first
        | (at_builtin; go_must (refine wp_appN rfl _ _ rfl _ _ _ rfl (own_lit1 _ t) _ _ rfl (hrest.alloc _).rd (by simp; omega) (by simp) ?_); intro v3 w3 hown3 hbel3 hsz3)
        | (go_at_call 38; go_must (refine (cut_any _ _ _ _ hown3 (by simp; omega)).mono ?_); rintro e w4 ⟨v4, rfl, hown4, rfl⟩))
      have hb3 : Below wo.heap.size wo w3 := ((Below.refl _ wo).alloc (Nat.le_refl _) _).trans hbel3
      have hown5 : Own (w.heap.size + 1) w3 v4 (digs R) := by rw [← HSN.out]; exact hown4.base (by omega)
      have hout3 := hout.below hb3
      rw [Num.rep_succ] at hout3
      have hbel5 : Below w.heap.size w w3 := hbel.trans (hb3.mono (by omega))
      have hsz5 : w.heap.size < w3.heap.size := by have := hb3.size; omega
      have hll : (List.replicate i 0 ++ 0 :: zs).length = lx := hout3.lenEq.symm
      simp only [List.length_append, List.length_replicate, List.length_cons] at hll
      have HLL := Lib.hid hll; clear hll
      clear hown4 hown3 hbel3 hsz3 hb3 hrest hout
      go_loopw [7] (fun v wr => ∃ (j r' : Nat), Hid (r' + j * b = R) ∧ Own (w.heap.size + 1) wr v (digs r') ∧ Own w.heap.size wr (.slice (some ⟨w.heap.size, 0, none⟩) lx lx) (List.replicate i 0 ++ j :: zs) ∧ w.heap.size < wr.heap.size ∧ Below w.heap.size w wr)
        (fun _ wr => 10 - (intOf ((wr.cell? ⟨w.heap.size, i, none⟩).getD undef)).toNat)
      case atStart => exact ⟨0, R, by show _ = _; omega, hown5, hout3, hsz5, hbel5⟩
      case round =>
        obtain ⟨j, r', hj, hrest, hout, hszr, hbelr⟩ := hrel
        have hrl' := HS.out r' (by have := hj.out; omega)
        have hcj : wr.cell? ⟨w.heap.size, i, none⟩ = some (.int .u8 (j : Int)) := by
          rw [hout.cellAt i (by simp), Num.mid_getD]
        have hfz : wr.frozen? ⟨w.heap.size, i, none⟩ = false := hout.frozenAt i
        by_cases hgo : r' < b
        · have hlt := decide_eq_true hgo
          have hq := Num.over_step heq.out (by rw [hj.out, ← HR.out])
          rw [← HX.out] at hq
          have HQ := Lib.hid hq; clear hq
          have hj9 : j < 10 := by
            rcases Nat.lt_or_ge j 10 with h | h
            · exact h
            · have := hj.out; have h2 : 10 * b ≤ j * b := Nat.mul_le_mul_right _ h; omega
          go_wp2_with (go_at_call 36; go_must (refine (less_any _ _ _ _ _ hrest.rd (hb.below hbelr) (by omega) (by omega) true hlt).mono ?_); rintro e w6 ⟨rfl, hbel6⟩)
          go_roundw
          case rel => exact ⟨i, r', j :: zs, by go_num, by omega, hgo, hrest.below hbel6, hout.below hbel6, by have := hbel6.size; omega, Ten.cons hj9 tz, hbelr.trans (hbel6.mono (by omega)), by show _ = _; rw [HQ.out]; rfl⟩
          case measure => simp [intOf] <;> omega
        · have hlt := decide_eq_false hgo
          have hj9 : j < 10 := by
            rcases Nat.lt_or_ge j 10 with h | h
            · exact h
            · have := hj.out; have h2 : 10 * b ≤ j * b := Nat.mul_le_mul_right _ h; omega
          have hji : (j : Int) < 10 := by omega
          go_wp2_with (first
            | (go_at_call 36; go_must (refine (less_any _ _ _ _ _ hrest.rd (hb.below hbelr) (by omega) (by omega) false hlt).mono ?_); rintro e w6 ⟨rfl, hbel6⟩)
            | (go_at_call 53; go_must (refine (minus_any _ _ _ _ _ (hrest.below hbel6).rd (hb.below (hbelr.trans (hbel6.mono (by omega)))) (Num.digs_ten _) (Num.digs_ten _) (by omega) (Num.digs_length_mono (by omega)) (by rw [Num.valD_digs, Num.valD_digs]; omega)).mono ?_); rintro e w7 ⟨v7, rfl, hown7, hbel7⟩; have hb67 := hbel6.trans (hbel7.mono (by have := hbel6.size; omega)); have hc7 := cellB hcj hb67; have hf7 := frozB hcj hfz hb67))
          rw [Num.valD_digs, Num.valD_digs] at hown7
          have hout7 := (hout.below hb67).stored i (j + 1)
          rw [Num.set_mid] at hout7
          have hr7 := (hown7.base (B' := w.heap.size + 1) (by have := hbel6.size; omega)).setBelow (a := ⟨w.heap.size, i, none⟩) (Nat.lt_succ_self _) (.int .u8 ((j + 1 : Nat) : Int))
          have hbx : Below w.heap.size w (w7.setCell ⟨w.heap.size, i, none⟩ (.int .u8 ((j + 1 : Nat) : Int))) := (hbelr.trans (hb67.mono (by omega))).setCell (Nat.le_refl _) _
          have hszx := hb67.size
          have hjj := hj.out
          have hcx : (w7.setCell ⟨w.heap.size, i, none⟩ (.int .u8 ((j + 1 : Nat) : Int))).cell? ⟨w.heap.size, i, none⟩ = some (.int .u8 ((j + 1 : Nat) : Int)) := by
            rw [hout7.cellAt i (by simp), Num.mid_getD]
          have ecast : ((j + 1 : Nat) : Int) = (j : Int) + 1 := by omega
          rw [ecast] at hout7 hr7 hbx hcx
          clear hown7 hc7 hf7 ecast
          go_roundw
          case rel => exact ⟨j + 1, r' - b, by show _ = _; rw [Nat.add_mul]; omega, hr7, hout7, by simp; omega, hbx⟩
          case measure => rw [hcj]; rw [hcx]; simp [intOf]; omega
end Go.Proofs.YthfgpmiammfcaaaDoor
