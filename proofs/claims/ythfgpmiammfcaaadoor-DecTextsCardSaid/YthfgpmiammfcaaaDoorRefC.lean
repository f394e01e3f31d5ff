/-
The reference's difference and order of two numbers of digits, by contracts.
-/
import Derived.Test.YthfgpmiammfcaaaDoorRefB
import Derived.Deep.QuietTactic
import Derived.BigQuiet
namespace Go.Proofs.YthfgpmiammfcaaaDoor
open Go.RowKit
open Num (digs valD cutL Ten)

theorem Own.lens {B : Nat} {w : World} {v : Value} {xs : List Nat} (h : Own B w v xs) {n : Nat} (hn : n = xs.length) : ∃ p c, v = .slice p n c := by
  subst hn
  rcases h.cases with ⟨rfl, rfl⟩ | ⟨g, cap, rfl, _⟩
  · exact ⟨none, 0, rfl⟩
  · exact ⟨_, _, rfl⟩

theorem minus_step {k c dx dy a q s x y : Nat} (h : x + 10 ^ k * c = s + y) (hd : dx + 10 * (1 - q) = a + dy + c) :
    (x + 10 ^ k * dx) + 10 ^ (k + 1) * (1 - q) = (s + 10 ^ k * a) + (y + 10 ^ k * dy) := by
  have : 10 ^ k * (dx + 10 * (1 - q)) = 10 ^ k * (a + dy + c) := by rw [hd]
  simp only [Nat.mul_add] at this
  rw [Nat.pow_succ, Nat.mul_assoc]
  omega

set_option maxRecDepth 20000 in
set_option maxHeartbeats 800000 in
/-- ref.Minus. -/
theorem minus_any (w : World) (va vb : Value) (xs ys : List Nat) (ha : Rd w va xs) (hb : Rd w vb ys) (tx : Ten xs) (ty : Ten ys) (hx : xs.length ≤ 100) (hy : ys.length ≤ xs.length) (hle : valD ys ≤ valD xs) :
    Calls Tryd.prog 53 #[va, vb] w fun e w' => ∃ v', e = .returned v' ∧ Own w.heap.size w' v' (digs (valD xs - valD ys)) ∧ Below w.heap.size w w' := by
  obtain ⟨lx, hlx⟩ : ∃ lx, lx = xs.length := ⟨_, rfl⟩
  obtain ⟨ly, hly⟩ : ∃ ly, ly = ys.length := ⟨_, rfl⟩
  have hx' : lx ≤ 100 := by omega
  obtain ⟨pa, ca, rfl⟩ := ha.lens hlx
  obtain ⟨pb, cb, rfl⟩ := hb.lens hly
  have HLX := Lib.hid hlx; clear hlx
  have HLY := Lib.hid hly; clear hly
  go_enter Tryd.func53, Tryd.ntmps53
  go_wp2
  go_loopw [5, 6, 7] (fun v cv iv wr => ∃ (k c : Nat) (ds : List Nat), cv = .int .u8 (c : Int) ∧ iv = .int .i64 (k : Int) ∧ c ≤ 1 ∧ k ≤ lx ∧ Hid (ds.length = k) ∧ Ten ds ∧ Own w.heap.size wr v ds ∧ Below w.heap.size w wr
      ∧ Hid (valD (xs.take k) + 10 ^ k * c = valD ds + valD (ys.take k)))
    (fun _ _ i _ => lx - (intOf i).toNat)
  case atStart => exact ⟨0, 0, [], rfl, rfl, by omega, by omega, rfl, Ten.nil, Own.nil _ _, Below.refl _ _, by simp [Hid, valD]⟩
  case round =>
    obtain ⟨k, c, ds, rfl, rfl, hc, hk, hdl, hds, hown, hbel, heq⟩ := hrel
    have hsz := hbel.size
    have hdl' : ds.length ≤ 101 := by have := hdl.out; omega
    obtain ⟨dx, hdx⟩ : ∃ d, xs[k]?.getD 0 = d := ⟨_, rfl⟩
    obtain ⟨dy, hdy⟩ : ∃ d, ys[k]?.getD 0 = d := ⟨_, rfl⟩
    have hdx9 : dx < 10 := by rw [← hdx]; exact tx.getD k
    have hdy9 : dy < 10 := by rw [← hdy]; exact ty.getD k
    have HX := Lib.hid hdx; clear hdx
    have HY := Lib.hid hdy; clear hdy
    have haw : Rd wr _ xs := ha.below hbel
    have hbw : Rd wr _ ys := hb.below hbel
    by_cases hgo : k < lx
    · obtain ⟨s, hs⟩ : ∃ s, 10 + dx - dy - c = s := ⟨_, rfl⟩
      obtain ⟨da, hda⟩ : ∃ a, s % 10 = a := ⟨_, rfl⟩
      have stp := minus_step (q := s / 10) (dx := dx) (dy := dy) (a := da) heq.out (by omega)
      have hs20 : s < 20 := by omega
      have hda9 : da < 10 := by omega
      have HS := Lib.hid stp; clear stp
      have HD := Lib.hid hs; clear hs
      have HDA := Lib.hid hda; clear hda
      go_wp2_with (first
          | (go_at_call_of 54 (Value.slice pa lx ca); refine (digit_any _ _ xs haw (by omega) k dx HX.out (by omega)).mono ?_; rintro e w' ⟨rfl, rfl⟩)
          | (go_at_call_of 54 (Value.slice pb ly cb); refine (digit_any _ _ ys hbw (by omega) k dy HY.out (by omega)).mono ?_; rintro e w' ⟨rfl, rfl⟩)
          | (at_builtin; go_must (refine wp_app1 rfl _ _ rfl w.heap.size _ ds rfl hown _ da (by have := HD.out; have := HDA.out; omega) rfl (by omega) (by omega) ?_); intro v' w1 hown1 hbel1 hsz1))
      go_roundw
      case rel => exact ⟨k + 1, 1 - s / 10, ds ++ [da], by have := HD.out; go_num, by go_num, by omega, by omega, by show _ = _; have := hdl.out; simp [this], hds.append (Ten.cons hda9 Ten.nil), hown1, hbel.trans hbel1,
          by show _ = _; rw [Num.valD_append, hdl.out, Num.valD_take_succ, Num.valD_take_succ, HX.out, HY.out, HS.out]; simp [valD]⟩
      case measure => simp [intOf] <;> omega
    · obtain rfl : k = lx := by omega
      have h1 : xs.take k = xs := List.take_of_length_le (by have := HLX.out; omega)
      have h2 : ys.take k = ys := List.take_of_length_le (by have := HLX.out; omega)
      have h3 := heq.out
      rw [h1, h2] at h3
      have h4 := Num.valD_lt hds
      rw [hdl.out] at h4
      have hc0 : c = 0 := by
        rcases (show c = 0 ∨ c = 1 from by omega) with h | h
        · exact h
        · subst h; omega
      subst hc0
      have h5 : valD ds = valD xs - valD ys := by omega
      have H3 := Lib.hid h5; clear h3 h4 h5 h1 h2
      go_wp2_with (go_at_call 38; refine (cut_any w.heap.size _ _ ds hown (by omega)).mono ?_; rintro e w' ⟨v', rfl, hv', rfl⟩)
      go_ret
      exact ⟨_, rfl, by rw [← H3.out, ← Num.cutL_digs hds]; exact hv', hbel⟩

theorem ret_bool {a b : Bool} (h : a = b) : Ending.returned (.bool a) = .returned (.bool b) := by rw [h]

set_option maxRecDepth 20000 in
set_option maxHeartbeats 800000 in
theorem less_same (w : World) (ga gb ca cb n : Nat) (xs ys : List Nat) (hn : n = xs.length) (hn' : n = ys.length) (hx : xs.length ≤ 100) (tx : Ten xs) (ty : Ten ys)
    (ha : ∀ j, j < n → w.cell? ⟨ga, j, none⟩ = some (.int .u8 ((xs[j]?.getD 0 : Nat) : Int))) (hb : ∀ j, j < n → w.cell? ⟨gb, j, none⟩ = some (.int .u8 ((ys[j]?.getD 0 : Nat) : Int)))
    (hga : ga < w.heap.size) (hgb : gb < w.heap.size) (hca : n ≤ ca) (hcb : n ≤ cb) :
    Calls Tryd.prog 36 #[.slice (some ⟨ga, 0, none⟩) n ca, .slice (some ⟨gb, 0, none⟩) n cb] w fun e w' => e = .returned (.bool (decide (valD xs < valD ys))) ∧ Below w.heap.size w w' := by
  have hx' : n ≤ 100 := by omega
  have HN := Lib.hid hn; clear hn
  have HN' := Lib.hid hn'; clear hn'
  go_enter Tryd.func36, Tryd.ntmps36
  go_wp2
  go_loopw [5] (fun iv wr => ∃ k : Nat, k ≤ n ∧ iv = .int .i64 ((k : Int) - 1) ∧ Below w.heap.size w wr ∧ Hid (valD (xs.drop k) = valD (ys.drop k)))
    (fun i _ => (intOf i + 1).toNat)
  case atStart => exact ⟨n, Nat.le_refl _, by go_num, Below.refl _ _, by show _ = _; rw [List.drop_of_length_le (by have := HN.out; omega), List.drop_of_length_le (by have := HN'.out; omega)]⟩
  case round =>
    obtain ⟨k, hk, rfl, hbel, he⟩ := hrel
    cases k with
    | zero =>
      go_wp2
      go_ret
      have := he.out
      simp only [List.drop_zero] at this
      exact ⟨by rw [this]; simp, hbel⟩
    | succ k =>
      have e1 : (((k + 1 : Nat) : Int) - 1) = (k : Int) := by omega
      rw [e1]
      clear e1
      obtain ⟨dx, hdx⟩ : ∃ d, xs[k]?.getD 0 = d := ⟨_, rfl⟩
      obtain ⟨dy, hdy⟩ : ∃ d, ys[k]?.getD 0 = d := ⟨_, rfl⟩
      have cx : wr.cell? ⟨ga, k, none⟩ = some (.int .u8 (dx : Int)) := by rw [hbel.cell (p := ⟨ga, k, none⟩) hga, ha k (by omega), hdx]
      have cy : wr.cell? ⟨gb, k, none⟩ = some (.int .u8 (dy : Int)) := by rw [hbel.cell (p := ⟨gb, k, none⟩) hgb, hb k (by omega), hdy]
      have hxx := Num.valD_drop_getD xs k (by have := HN.out; omega)
      have hyy := Num.valD_drop_getD ys k (by have := HN'.out; omega)
      rw [hdx] at hxx
      rw [hdy] at hyy
      have HX := Lib.hid hxx; clear hxx hdx
      have HY := Lib.hid hyy; clear hyy hdy
      have hk' : (k : Int) < (n : Int) := by omega
      by_cases hne : dx = dy
      · subst hne
        go_wp2
        go_quiet (fail)
        go_wp2
        go_roundw
        case rel => exact ⟨k, by omega, rfl, below_drewN hbel _, (HX.out.trans (by rw [he.out])).trans HY.out.symm⟩
        case measure => simp [intOf] <;> omega
      · have hb1 : ((dx : Int) != (dy : Int)) = true := by rw [bne_iff_ne]; omega
        have hb2 : ((dx : Int) == (dy : Int)) = false := by rw [beq_eq_false_iff_ne]; omega
        go_wp2
        go_quiet (fail)
        go_wp2
        go_quiet (fail)
        go_wp2
        go_ret
        refine ⟨ret_bool ?_, below_drewN (below_drewN hbel _) _⟩
        have t1 := Num.valD_lt (tx.take k)
        have t2 := Num.valD_lt (ty.take k)
        rw [List.length_take, Nat.min_eq_left (by have := HN.out; omega)] at t1
        rw [List.length_take, Nat.min_eq_left (by have := HN'.out; omega)] at t2
        have h1 := Num.valD_take_drop xs k (by have := HN.out; omega)
        have h2 := Num.valD_take_drop ys k (by have := HN'.out; omega)
        rw [HX.out, he.out] at h1
        rw [HY.out] at h2
        have := Num.lt_iff_digit (t := valD (ys.drop (k + 1))) t1 t2 hne
        rw [h1, h2, Bool.eq_iff_iff]
        simp [this]

set_option maxRecDepth 20000 in
/-- ref.Less. -/
theorem less_any (w : World) (va vb : Value) (a b : Nat) (ha : Rd w va (digs a)) (hb : Rd w vb (digs b)) (la : (digs a).length ≤ 100) (lb : (digs b).length ≤ 100) (r : Bool) (hr : decide (a < b) = r) :
    Calls Tryd.prog 36 #[va, vb] w fun e w' => e = .returned (.bool r) ∧ Below w.heap.size w w' := by
  subst hr
  by_cases hl : (digs a).length = (digs b).length
  · by_cases h0 : (digs a).length = 0
    · have hxa := List.eq_nil_of_length_eq_zero h0
      have hxb := List.eq_nil_of_length_eq_zero (hl ▸ h0)
      have hab : a = b := by rw [← Num.valD_digs a, ← Num.valD_digs b, hxa, hxb]
      subst hab
      obtain ⟨pa, ca, rfl⟩ := ha.lens h0.symm
      obtain ⟨pb, cb, rfl⟩ := hb.lens h0.symm
      clear hxa hxb h0 hl
      go_enter Tryd.func36, Tryd.ntmps36
      go_wp2
      refine wp_loop_rounds 1 ?_; rw [rounds_succ]
      go_wp2
      go_ret
      exact ⟨ret_bool (by simp), Below.refl _ _⟩
    · rcases ha.cases with ⟨rfl, hxa⟩ | ⟨g, cap, rfl, hcap, hm, hg, hc⟩
      · rw [hxa] at h0; exact absurd rfl h0
      · rcases hb.cases with ⟨rfl, hxb⟩ | ⟨g', cap', rfl, hcap', hm', hg', hc'⟩
        · rw [hl, hxb] at h0; exact absurd rfl h0
        · have := less_same w g g' cap cap' (digs a).length (digs a) (digs b) rfl hl la (Num.digs_ten a) (Num.digs_ten b) hc (by rw [hl]; exact hc') hg hg' hcap (by rw [hl]; exact hcap')
          rw [Num.valD_digs, Num.valD_digs] at this
          rw [← hl]
          exact this
  · obtain ⟨lx, hlx⟩ : ∃ lx, lx = (digs a).length := ⟨_, rfl⟩
    obtain ⟨ly, hly⟩ : ∃ ly, ly = (digs b).length := ⟨_, rfl⟩
    obtain ⟨pa, ca, rfl⟩ := ha.lens hlx
    obtain ⟨pb, cb, rfl⟩ := hb.lens hly
    have hd : decide (a < b) = decide (lx < ly) := by
      rcases Nat.lt_or_ge lx ly with h | h
      · have := Num.lt_of_length (a := a) (b := b) (by omega); simp [h, this]
      · have := Num.lt_of_length (a := b) (b := a) (by omega)
        rw [decide_eq_false (by omega), decide_eq_false (by omega)]
    have hne : lx ≠ ly := by omega
    rw [hd]
    have hb1 : ((lx : Int) != (ly : Int)) = true := by rw [bne_iff_ne]; omega
    have hb2 : ((lx : Int) == (ly : Int)) = false := by rw [beq_eq_false_iff_ne]; omega
    clear hd hlx hly hl
    go_enter Tryd.func36, Tryd.ntmps36
    go_wp2
    go_ret
    exact ⟨by simp, Below.refl _ _⟩
end Go.Proofs.YthfgpmiammfcaaaDoor
