/-
The program's a1.Rect.Ordered and Has, by contracts.
-/
import Derived.Test.YtggdpnkfambmfaaDoorCpText
import Derived.Test.YtggdpnkfambmfaaDoorCeRectA
namespace Go.Proofs.YtggdpnkfambmfaaDoor
open Go.RowKit Go.Proofs.YtggdpnkfambmfaaDoor.Dig

theorem loadVar_rect {w : World} {b : Nat} {x y z u : Value} (c0 : w.cell? ⟨b, 0, none⟩ = some x) (c1 : w.cell? ⟨b, 1, none⟩ = some y) (c2 : w.cell? ⟨b, 2, none⟩ = some z) (c3 : w.cell? ⟨b, 3, none⟩ = some u) : (loadVar 38 ⟨b, 0, none⟩).run Tryd.prog w = .ok (.agg #[x, y, z, u]) w := by
  unfold loadVar
  go_simp
theorem results_rect {fn : Func} {t : Tmp} (h : fn.results = #[.cell t 38]) {tmps : Array Value} {w : World} {b : Nat} {x y z u : Value} (ht : tmps.getD t undef = .pointer (some ⟨b, 0, none⟩))
    (c0 : w.cell? ⟨b, 0, none⟩ = some x) (c1 : w.cell? ⟨b, 1, none⟩ = some y) (c2 : w.cell? ⟨b, 2, none⟩ = some z) (c3 : w.cell? ⟨b, 3, none⟩ = some u) : (results fn tmps).run Tryd.prog w = .ok (.agg #[x, y, z, u]) w := by
  have ht' : tmps[t]?.getD undef = .pointer (some ⟨b, 0, none⟩) := by simpa using ht
  simp [results, h, ht', asAddr, loadVar_rect c0 c1 c2 c3]

set_option maxRecDepth 20000 in
set_option maxHeartbeats 4000000 in
theorem ordered_any (a b c d : Int) (w : World) :
    Calls Tryd.prog 18 #[rectV a b c d] w fun e w' => e = .returned (rectV (min a c) (min b d) (max a c) (max b d)) ∧ Below w.heap.size w w' := by
  have HZ := Cells4.keep (Cells4.new w rfl a b c d 38) (below_alloc _ (.cells #[.int .i64 0, .int .i64 0, .int .i64 0, .int .i64 0] 38))
  obtain ⟨p0, p1, p2, p3⟩ := HZ
  have HB0 := Lib.hid (below2 w (.cells #[.int .i64 a, .int .i64 b, .int .i64 c, .int .i64 d] 38) (.cells #[.int .i64 (min a c), .int .i64 (min b d), .int .i64 (max a c), .int .i64 (max b d)] 38))
  unfold rectV
  go_enter Tryd.func18, Tryd.ntmps18
  go_wp2
  obtain ⟨k0, k1, k2, k3⟩ := Cells4.new (w.alloc (.cells #[.int .i64 a, .int .i64 b, .int .i64 c, .int .i64 d] 38)) (g := w.heap.size + 1) (by simp) (min a c) (min b d) (max a c) (max b d) 38
  refine bodyPost_ret (results_rect rfl rfl k0 k1 k2 k3) rfl ?_
  exact ⟨rfl, HB0.out⟩

set_option maxRecDepth 20000 in
set_option maxHeartbeats 4000000 in
theorem has_any (a b c d x y : Int) (w : World) :
    Calls Tryd.prog 20 #[rectV a b c d, cellV x y] w fun e w' => e = .returned (.bool (hasB a b c d x y)) ∧ Below w.heap.size w w' := by
  have ho := fun W => ordered_any a b c d W
  obtain ⟨p0, p1, p2, p3⟩ := Cells4.keep (Cells4.new w rfl a b c d 38) (below_alloc _ (.cells #[.int .i64 x, .int .i64 y] 27))
  have HX := Lib.hid (box_newC (w.alloc (.cells #[.int .i64 a, .int .i64 b, .int .i64 c, .int .i64 d] 38)) (g := w.heap.size + 1) (by simp) x y 27)
  have HB0 := Lib.hid (below2 w (.cells #[.int .i64 a, .int .i64 b, .int .i64 c, .int .i64 d] 38) (.cells #[.int .i64 x, .int .i64 y] 27))
  unfold rectV cellV at *
  have he : hasB a b c d x y = decide ((min a c ≤ x ∧ x ≤ max a c) ∧ min b d ≤ y ∧ y ≤ max b d) := rfl
  rw [he]
  generalize min a c = m1 at *
  generalize min b d = m2 at *
  generalize max a c = M1 at *
  generalize max b d = M2 at *
  have HO := Lib.hid ho
  clear ho he
  by_cases h1 : m1 ≤ x
  · by_cases h2 : x ≤ M1
    · by_cases h3 : m2 ≤ y
      · by_cases h4 : y ≤ M2
        · have e : decide ((m1 ≤ x ∧ x ≤ M1) ∧ m2 ≤ y ∧ y ≤ M2) = true := decide_eq_true ⟨⟨h1, h2⟩, h3, h4⟩
          rw [e]; clear e
          go_enter Tryd.func20, Tryd.ntmps20
          go_wp2_with fail
          go_at_call 18
          with_reducible refine (HO.out _).mono ?_
          rintro e w1 ⟨rfl, hb1⟩
          have HB1 := Lib.hid (hb1.trans ((below_alloc w1 (.cells #[.int .i64 m1, .int .i64 m2, .int .i64 M1, .int .i64 M2] 38)).mono hb1.size))
          obtain ⟨x0, x1⟩ := box_keepC HX.out HB1.out
          obtain ⟨k0, k1, k2, k3⟩ := Cells4.new w1 rfl m1 m2 M1 M2 38
          clear hb1 p0 p1 p2 p3
          go_wp2_with fail
          go_ret
          exact ⟨rfl, HB0.out.trans (HB1.out.mono HB0.out.size)⟩
        · have e : decide ((m1 ≤ x ∧ x ≤ M1) ∧ m2 ≤ y ∧ y ≤ M2) = false := decide_eq_false (by omega)
          have hd : decide (y ≤ M2) = false := decide_eq_false h4
          have h4' : M2 < y := by omega
          rw [e]; clear e h4
          go_enter Tryd.func20, Tryd.ntmps20
          go_wp2_with fail
          go_at_call 18
          with_reducible refine (HO.out _).mono ?_
          rintro e w1 ⟨rfl, hb1⟩
          have HB1 := Lib.hid (hb1.trans ((below_alloc w1 (.cells #[.int .i64 m1, .int .i64 m2, .int .i64 M1, .int .i64 M2] 38)).mono hb1.size))
          obtain ⟨x0, x1⟩ := box_keepC HX.out HB1.out
          obtain ⟨k0, k1, k2, k3⟩ := Cells4.new w1 rfl m1 m2 M1 M2 38
          clear hb1 p0 p1 p2 p3
          go_wp2_with fail
          go_ret
          exact ⟨by first | rfl | (simp only [hd]; rfl), HB0.out.trans (HB1.out.mono HB0.out.size)⟩
      · have e : decide ((m1 ≤ x ∧ x ≤ M1) ∧ m2 ≤ y ∧ y ≤ M2) = false := decide_eq_false (by omega)
        have hd : decide (m2 ≤ y) = false := decide_eq_false h3
        have h3' : y < m2 := by omega
        rw [e]; clear e h3
        go_enter Tryd.func20, Tryd.ntmps20
        go_wp2_with fail
        go_at_call 18
        with_reducible refine (HO.out _).mono ?_
        rintro e w1 ⟨rfl, hb1⟩
        have HB1 := Lib.hid (hb1.trans ((below_alloc w1 (.cells #[.int .i64 m1, .int .i64 m2, .int .i64 M1, .int .i64 M2] 38)).mono hb1.size))
        obtain ⟨x0, x1⟩ := box_keepC HX.out HB1.out
        obtain ⟨k0, k1, k2, k3⟩ := Cells4.new w1 rfl m1 m2 M1 M2 38
        clear hb1 p0 p1 p2 p3
        go_wp2_with fail
        go_ret
        exact ⟨by first | rfl | (simp only [hd]; rfl), HB0.out.trans (HB1.out.mono HB0.out.size)⟩
    · have e : decide ((m1 ≤ x ∧ x ≤ M1) ∧ m2 ≤ y ∧ y ≤ M2) = false := decide_eq_false (by omega)
      have hd : decide (x ≤ M1) = false := decide_eq_false h2
      have h2' : M1 < x := by omega
      rw [e]; clear e h2
      go_enter Tryd.func20, Tryd.ntmps20
      go_wp2_with fail
      go_at_call 18
      with_reducible refine (HO.out _).mono ?_
      rintro e w1 ⟨rfl, hb1⟩
      have HB1 := Lib.hid (hb1.trans ((below_alloc w1 (.cells #[.int .i64 m1, .int .i64 m2, .int .i64 M1, .int .i64 M2] 38)).mono hb1.size))
      obtain ⟨x0, x1⟩ := box_keepC HX.out HB1.out
      obtain ⟨k0, k1, k2, k3⟩ := Cells4.new w1 rfl m1 m2 M1 M2 38
      clear hb1 p0 p1 p2 p3
      go_wp2_with fail
      go_ret
      exact ⟨by first | rfl | (simp only [hd]; rfl), HB0.out.trans (HB1.out.mono HB0.out.size)⟩
  · have e : decide ((m1 ≤ x ∧ x ≤ M1) ∧ m2 ≤ y ∧ y ≤ M2) = false := decide_eq_false (by omega)
    have hd : decide (m1 ≤ x) = false := decide_eq_false h1
    have h1' : x < m1 := by omega
    rw [e]; clear e h1
    go_enter Tryd.func20, Tryd.ntmps20
    go_wp2_with fail
    go_at_call 18
    with_reducible refine (HO.out _).mono ?_
    rintro e w1 ⟨rfl, hb1⟩
    have HB1 := Lib.hid (hb1.trans ((below_alloc w1 (.cells #[.int .i64 m1, .int .i64 m2, .int .i64 M1, .int .i64 M2] 38)).mono hb1.size))
    obtain ⟨x0, x1⟩ := box_keepC HX.out HB1.out
    obtain ⟨k0, k1, k2, k3⟩ := Cells4.new w1 rfl m1 m2 M1 M2 38
    clear hb1 p0 p1 p2 p3
    go_wp2_with fail
    go_ret
    exact ⟨by first | rfl | (simp only [hd]; rfl), HB0.out.trans (HB1.out.mono HB0.out.size)⟩
end Go.Proofs.YtggdpnkfambmfaaDoor
