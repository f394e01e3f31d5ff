/-
The reference's sum of two numbers of digits, by its contract.
-/
import Derived.Test.YthfgpmiammfcaaaDoorRefA
import Derived.Deep.RegionWith
namespace Go.Proofs.YthfgpmiammfcaaaDoor
open Go.RowKit
open Num (digs valD cutL Ten)

theorem plus_step {k c d dx dy a b s x y : Nat} (h : s + 10 ^ k * c = x + y) (hd : dx + dy + c = d) (ha : d % 10 = a) (hb : d / 10 = b) :
    (s + 10 ^ k * a) + 10 ^ (k + 1) * b = (x + 10 ^ k * dx) + (y + 10 ^ k * dy) := by
  have e : d = a + 10 * b := by omega
  have : 10 ^ k * (dx + dy + c) = 10 ^ k * (a + 10 * b) := by rw [hd, e]
  simp only [Nat.mul_add] at this
  rw [Nat.pow_succ, Nat.mul_assoc]
  omega

set_option maxRecDepth 20000 in
set_option maxHeartbeats 800000 in
/-- ref.Plus. -/
theorem plus_any (w : World) (va vb : Value) (xs ys : List Nat) (ha : Rd w va xs) (hb : Rd w vb ys) (tx : Ten xs) (ty : Ten ys) (hx : xs.length ≤ 100) (hy : ys.length ≤ 100) :
    Calls Tryd.prog 37 #[va, vb] w fun e w' => ∃ v', e = .returned v' ∧ Own w.heap.size w' v' (digs (valD xs + valD ys)) ∧ Below w.heap.size w w' := by
  obtain ⟨lx, hlx⟩ : ∃ lx, lx = xs.length := ⟨_, rfl⟩
  obtain ⟨ly, hly⟩ : ∃ ly, ly = ys.length := ⟨_, rfl⟩
  have hx' : lx ≤ 100 := by omega
  have hy' : ly ≤ 100 := by omega
  have lenA : ∃ pa ca, va = .slice pa lx ca := by
    rcases ha.cases with ⟨rfl, rfl⟩ | ⟨g, cap, rfl, _⟩
    · exact ⟨none, 0, by rw [hlx]; rfl⟩
    · exact ⟨_, _, by rw [hlx]⟩
  have lenB : ∃ pa ca, vb = .slice pa ly ca := by
    rcases hb.cases with ⟨rfl, rfl⟩ | ⟨g, cap, rfl, _⟩
    · exact ⟨none, 0, by rw [hly]; rfl⟩
    · exact ⟨_, _, by rw [hly]⟩
  obtain ⟨pa, ca, rfl⟩ := lenA
  obtain ⟨pb, cb, rfl⟩ := lenB
  have HLX := Lib.hid hlx; clear hlx
  have HLY := Lib.hid hly; clear hly
  go_enter Tryd.func37, Tryd.ntmps37
  go_wp2
  go_loopw [5, 6, 7] (fun v cv iv wr => ∃ (k c : Nat) (ds : List Nat), cv = .int .u8 (c : Int) ∧ iv = .int .i64 (k : Int) ∧ c ≤ 1 ∧ k ≤ max lx ly + 1 ∧ (max lx ly < k → c = 0) ∧ Hid (ds.length = k) ∧ Ten ds ∧ Own w.heap.size wr v ds ∧ Below w.heap.size w wr
      ∧ Hid (valD ds + 10 ^ k * c = valD (xs.take k) + valD (ys.take k)))
    (fun _ _ i _ => max lx ly + 1 - (intOf i).toNat)
  case atStart => exact ⟨0, 0, [], rfl, rfl, by omega, by omega, by omega, rfl, Ten.nil, Own.nil _ _, Below.refl _ _, by simp [Hid, valD]⟩
  case round =>
    obtain ⟨k, c, ds, rfl, rfl, hc, hk, hkc, hdl, hds, hown, hbel, heq⟩ := hrel
    have hsz := hbel.size
    have hdl' : ds.length ≤ 101 := by have := hdl.out; omega
    obtain ⟨dx, hdx⟩ : ∃ d, xs[k]?.getD 0 = d := ⟨_, rfl⟩
    obtain ⟨dy, hdy⟩ : ∃ d, ys[k]?.getD 0 = d := ⟨_, rfl⟩
    have hdx9 : dx < 10 := by rw [← hdx]; exact tx.getD k
    have hdy9 : dy < 10 := by rw [← hdy]; exact ty.getD k
    have HX := Lib.hid hdx; clear hdx
    have HY := Lib.hid hdy; clear hdy
    have haw : Rd wr _ xs := ha.below hbel
    have hbw : Rd wr _ ys := hb.below hbel
    by_cases hgo : k < lx ∨ k < ly ∨ 0 < c
    · have hkm : k ≤ max lx ly := by rcases Nat.lt_or_ge (max lx ly) k with h | h
                                     · have := hkc h; omega
                                     · exact h
      obtain ⟨d, hd⟩ : ∃ d, dx + dy + c = d := ⟨_, rfl⟩
      obtain ⟨da, hda⟩ : ∃ a, d % 10 = a := ⟨_, rfl⟩
      have stp := plus_step heq.out hd hda rfl
      have hend : max lx ly < k + 1 → d / 10 = 0 := by
        intro h
        have h1 : dx = 0 := by rw [← HX.out]; exact Num.getD_of_le (by rw [← HLX.out]; omega)
        have h2 : dy = 0 := by rw [← HY.out]; exact Num.getD_of_le (by rw [← HLY.out]; omega)
        omega
      have hd10 : d < 20 := by omega
      have hda9 : da < 10 := by omega
      have HE := Lib.hid hend; clear hend
      have HS := Lib.hid stp; clear stp
      have HKC := Lib.hid hkc; clear hkc
      have HD := Lib.hid hd; clear hd
      have HDA := Lib.hid hda; clear hda
      rcases (show k < lx ∨ (lx ≤ k ∧ k < ly) ∨ (lx ≤ k ∧ ly ≤ k ∧ 0 < c) from by omega) with h1 | ⟨h1, h2⟩ | ⟨h1, h2, h3⟩
      all_goals
        clear hgo
        go_wp2_with (first
          | (go_at_call_of 54 (Value.slice pa lx ca); refine (digit_any _ _ xs haw (by omega) k dx HX.out (by omega)).mono ?_; rintro e w' ⟨rfl, rfl⟩)
          | (go_at_call_of 54 (Value.slice pb ly cb); refine (digit_any _ _ ys hbw (by omega) k dy HY.out (by omega)).mono ?_; rintro e w' ⟨rfl, rfl⟩)
          | (at_builtin; go_must (refine wp_app1 rfl _ _ rfl w.heap.size _ ds rfl hown _ da (by have := HD.out; have := HDA.out; omega) rfl (by omega) (by omega) ?_); intro v' w1 hown1 hbel1 hsz1))
        go_roundw
        case rel => exact ⟨k + 1, d / 10, ds ++ [da], by have := HD.out; go_num, by go_num, by omega, by omega, HE.out, by show _ = _; have := hdl.out; simp [this], hds.append (Ten.cons hda9 Ten.nil), hown1, hbel.trans hbel1,
          by show _ = _; rw [Num.valD_append, hdl.out, Num.valD_take_succ, Num.valD_take_succ, HX.out, HY.out, ← HS.out]; simp [valD]⟩
        case measure => simp [intOf]; omega
    · have hc0 : c = 0 := by omega
      subst hc0
      have h1 : xs.take k = xs := List.take_of_length_le (by have := HLX.out; omega)
      have h2 : ys.take k = ys := List.take_of_length_le (by have := HLY.out; omega)
      have h3 := heq.out
      rw [h1, h2, Nat.mul_zero, Nat.add_zero] at h3
      have H3 := Lib.hid h3; clear h3 h1 h2
      have h1 : lx ≤ k := by omega
      have h2 : ly ≤ k := by omega
      clear hgo hkc
      go_wp2_with (go_at_call 38; refine (cut_any w.heap.size _ _ ds hown (by omega)).mono ?_; rintro e w' ⟨v', rfl, hv', rfl⟩)
      go_ret
      exact ⟨_, rfl, by rw [← H3.out, ← Num.cutL_digs hds]; exact hv', hbel⟩
end Go.Proofs.YthfgpmiammfcaaaDoor
