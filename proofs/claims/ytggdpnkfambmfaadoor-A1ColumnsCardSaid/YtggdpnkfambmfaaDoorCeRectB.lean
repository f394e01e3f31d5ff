/-
The law A1Rects: the second half of its cases.
-/
import Derived.Test.YtggdpnkfambmfaaDoorCeRectA
namespace Go.Proofs.YtggdpnkfambmfaaDoor
open Go.RowKit Go.Proofs.YtggdpnkfambmfaaDoor.Dig

set_option maxRecDepth 20000 in
set_option maxHeartbeats 8000000 in
theorem rects_100 {E : World → Prop} (a b c d x y m1 m2 M1 M2 : Int) (q2 qb : Bool) (s1 s2 sw : ByteArray) (w : World)
    (HKEEP : Hid (∀ w w', E w → Below w.heap.size w w' → E w')) (HE : Hid (E ((w.alloc (.cells #[.int .i64 a, .int .i64 b, .int .i64 c, .int .i64 d] 38)).alloc (.cells #[.int .i64 x, .int .i64 y] 27))))
    (HO : Hid (∀ W, E W → Calls Tryd.prog 18 #[.agg #[.int .i64 a, .int .i64 b, .int .i64 c, .int .i64 d]] W fun e w' => e = .returned (.agg #[.int .i64 m1, .int .i64 m2, .int .i64 M1, .int .i64 M2]) ∧ Below W.heap.size W w'))
    (HI1 : Hid (∀ W, Calls Tryd.prog 19 #[.int .i64 x, .int .i64 a, .int .i64 c] W fun e w' => e = .returned (.bool true) ∧ w' = W))
    (HI2 : Hid (∀ W, Calls Tryd.prog 19 #[.int .i64 y, .int .i64 b, .int .i64 d] W fun e w' => e = .returned (.bool q2) ∧ w' = W))
    (HH : Hid (∀ W, E W → Calls Tryd.prog 20 #[.agg #[.int .i64 a, .int .i64 b, .int .i64 c, .int .i64 d], .agg #[.int .i64 x, .int .i64 y]] W fun e w' => e = .returned (.bool q2) ∧ Below W.heap.size W w'))
    (HRA : Hid (∀ W, E W → Calls Tryd.prog 15 #[.agg #[.int .i64 a, .int .i64 b]] W fun e w' => e = .returned (.bool false) ∧ Below W.heap.size W w'))
    (HRB : Hid (∀ W, E W → Calls Tryd.prog 15 #[.agg #[.int .i64 c, .int .i64 d]] W fun e w' => e = .returned (.bool qb) ∧ Below W.heap.size W w'))
    (HT1 : Hid (∀ W, Calls Tryd.prog 17 #[.int .i64 a, .int .i64 b] W fun e w' => e = .returned (.string s1) ∧ Below W.heap.size W w'))
    (HT2 : Hid (∀ W, Calls Tryd.prog 17 #[.int .i64 c, .int .i64 d] W fun e w' => e = .returned (.string s2) ∧ Below W.heap.size W w'))
    (hz1 : s1.size ≤ 20) (hz2 : s2.size ≤ 20) (HSW : Hid (s1 ++ ⟨#[58]⟩ ++ s2 = sw))
    (HRT : Hid (∀ W, E W → Calls Tryd.prog 21 #[.agg #[.int .i64 a, .int .i64 b, .int .i64 c, .int .i64 d]] W fun e w' => e = .returned (.string ⟨#[]⟩) ∧ Below W.heap.size W w'))
    (HAW : Hid (∀ W, E W → Calls Tryd.prog 7 #[] W fun e w' => e = .returned (.bool true) ∧ Below W.heap.size W w'))
    (hle1 : m1 ≤ M1) (hle2 : m2 ≤ M2) (hs1 : m1 + M1 = a + c) (hs2 : m2 + M2 = b + d)
    (HC : Hid ((m1 == a) = true ∨ ((m1 == a) = false ∧ (m1 == c) = true))) (HD : Hid ((m2 == b) = true ∨ ((m2 == b) = false ∧ (m2 == d) = true))) :
    Calls Tryd.prog 5 #[.agg #[.int .i64 a, .int .i64 b, .int .i64 c, .int .i64 d], .agg #[.int .i64 x, .int .i64 y]] w fun e w' => e = .returned (.bool true) ∧ Below w.heap.size w w' := by
  have hb0 : Below w.heap.size w ((w.alloc (.cells #[.int .i64 a, .int .i64 b, .int .i64 c, .int .i64 d] 38)).alloc (.cells #[.int .i64 x, .int .i64 y] 27)) := (below_alloc w _).alloc (by simp) _
  have HR := Lib.hid (Cells4.keep (Cells4.new w rfl a b c d 38) (below_alloc _ (.cells #[.int .i64 x, .int .i64 y] 27)))
  have HX := Lib.hid (box_newC (w.alloc (.cells #[.int .i64 a, .int .i64 b, .int .i64 c, .int .i64 d] 38)) (g := w.heap.size + 1) (by simp) x y 27)
  have HC1 : Hid ((9223372036854775807 < s1.size + 1) = False) := eq_false (by omega)
  have HC2 : Hid ((9223372036854775807 < s1.size + 1 + s2.size) = False) := eq_false (by omega)
  go_enter Tryd.func5, Tryd.ntmps5
  go_wp2_with fail
  go_at_call 18
  with_reducible refine (HO.out _ HE.out).mono ?_
  rintro e w1 ⟨rfl, hb1⟩
  have HB1 := Lib.hid (hb1.trans ((below_alloc w1 (.cells #[.int .i64 m1, .int .i64 m2, .int .i64 M1, .int .i64 M2] 38)).mono hb1.size))
  obtain ⟨r0, r1, r2, r3⟩ := HR.out.keep HB1.out
  obtain ⟨x0, x1⟩ := box_keepC HX.out HB1.out
  have HO4 := Lib.hid (Cells4.new w1 rfl m1 m2 M1 M2 38)
  obtain ⟨k0, k1, k2, k3⟩ := HO4.out
  clear hb1
  go_wp2_with fail
  go_at_call 19
  with_reducible refine (HI1.out _).mono ?_
  rintro e w1' ⟨rfl, rfl⟩
  go_wp2_with fail
  go_at_call 19
  with_reducible refine (HI2.out _).mono ?_
  rintro e w1' ⟨rfl, rfl⟩
  go_wp2_with fail
  go_at_call 20
  with_reducible refine (HH.out _ (HKEEP.out _ _ HE.out HB1.out)).mono ?_
  rintro e w2 ⟨rfl, hb2⟩
  clear r0 r1 r2 r3 x0 x1 k0 k1 k2 k3
  have HB2 := Lib.hid (HB1.out.trans (hb2.mono HB1.out.size))
  obtain ⟨r0, r1, r2, r3⟩ := HR.out.keep HB2.out
  obtain ⟨k0, k1, k2, k3⟩ := HO4.out.keep hb2
  have HO2 := Lib.hid (HO4.out.keep hb2)
  clear hb2
  go_wp2_with fail
  go_at_call 15
  with_reducible refine (HRA.out _ (HKEEP.out _ _ HE.out HB2.out)).mono ?_
  rintro e w3 ⟨rfl, hb3⟩
  clear r0 r1 r2 r3 k0 k1 k2 k3
  have HB3 := Lib.hid (HB2.out.trans (hb3.mono HB2.out.size))
  obtain ⟨r0, r1, r2, r3⟩ := HR.out.keep HB3.out
  obtain ⟨k0, k1, k2, k3⟩ := HO2.out.keep hb3
  have HO3 := Lib.hid (HO2.out.keep hb3)
  clear hb3
  rcases HC.out with t1 | ⟨t1, t2⟩ <;> rcases HD.out with t3 | ⟨t3, t4⟩
  all_goals (
    go_wp2_with fail
    go_at_call 21
    with_reducible refine (HRT.out _ (HKEEP.out _ _ HE.out HB3.out)).mono ?_
    rintro e w6 ⟨rfl, hb6⟩
    have HB6 := Lib.hid (HB3.out.trans (hb6.mono HB3.out.size))
    clear hb6
    go_wp2_with fail
    go_at_call 7
    with_reducible refine (HAW.out _ (HKEEP.out _ _ HE.out HB6.out)).mono ?_
    rintro e w7 ⟨rfl, hb7⟩
    have HB7 := Lib.hid (HB6.out.trans (hb7.mono HB6.out.size))
    clear hb7
    go_wp2_with fail
    go_ret
    exact ⟨rfl, hb0.trans (HB7.out.mono hb0.size)⟩)

set_option maxRecDepth 20000 in
set_option maxHeartbeats 8000000 in
theorem rects_110 {E : World → Prop} (a b c d x y m1 m2 M1 M2 : Int) (q2 : Bool) (s1 s2 sw : ByteArray) (w : World)
    (HKEEP : Hid (∀ w w', E w → Below w.heap.size w w' → E w')) (HE : Hid (E ((w.alloc (.cells #[.int .i64 a, .int .i64 b, .int .i64 c, .int .i64 d] 38)).alloc (.cells #[.int .i64 x, .int .i64 y] 27))))
    (HO : Hid (∀ W, E W → Calls Tryd.prog 18 #[.agg #[.int .i64 a, .int .i64 b, .int .i64 c, .int .i64 d]] W fun e w' => e = .returned (.agg #[.int .i64 m1, .int .i64 m2, .int .i64 M1, .int .i64 M2]) ∧ Below W.heap.size W w'))
    (HI1 : Hid (∀ W, Calls Tryd.prog 19 #[.int .i64 x, .int .i64 a, .int .i64 c] W fun e w' => e = .returned (.bool true) ∧ w' = W))
    (HI2 : Hid (∀ W, Calls Tryd.prog 19 #[.int .i64 y, .int .i64 b, .int .i64 d] W fun e w' => e = .returned (.bool q2) ∧ w' = W))
    (HH : Hid (∀ W, E W → Calls Tryd.prog 20 #[.agg #[.int .i64 a, .int .i64 b, .int .i64 c, .int .i64 d], .agg #[.int .i64 x, .int .i64 y]] W fun e w' => e = .returned (.bool q2) ∧ Below W.heap.size W w'))
    (HRA : Hid (∀ W, E W → Calls Tryd.prog 15 #[.agg #[.int .i64 a, .int .i64 b]] W fun e w' => e = .returned (.bool true) ∧ Below W.heap.size W w'))
    (HRB : Hid (∀ W, E W → Calls Tryd.prog 15 #[.agg #[.int .i64 c, .int .i64 d]] W fun e w' => e = .returned (.bool false) ∧ Below W.heap.size W w'))
    (HT1 : Hid (∀ W, Calls Tryd.prog 17 #[.int .i64 a, .int .i64 b] W fun e w' => e = .returned (.string s1) ∧ Below W.heap.size W w'))
    (HT2 : Hid (∀ W, Calls Tryd.prog 17 #[.int .i64 c, .int .i64 d] W fun e w' => e = .returned (.string s2) ∧ Below W.heap.size W w'))
    (hz1 : s1.size ≤ 20) (hz2 : s2.size ≤ 20) (HSW : Hid (s1 ++ ⟨#[58]⟩ ++ s2 = sw))
    (HRT : Hid (∀ W, E W → Calls Tryd.prog 21 #[.agg #[.int .i64 a, .int .i64 b, .int .i64 c, .int .i64 d]] W fun e w' => e = .returned (.string ⟨#[]⟩) ∧ Below W.heap.size W w'))
    (HAW : Hid (∀ W, E W → Calls Tryd.prog 7 #[] W fun e w' => e = .returned (.bool true) ∧ Below W.heap.size W w'))
    (hle1 : m1 ≤ M1) (hle2 : m2 ≤ M2) (hs1 : m1 + M1 = a + c) (hs2 : m2 + M2 = b + d)
    (HC : Hid ((m1 == a) = true ∨ ((m1 == a) = false ∧ (m1 == c) = true))) (HD : Hid ((m2 == b) = true ∨ ((m2 == b) = false ∧ (m2 == d) = true))) :
    Calls Tryd.prog 5 #[.agg #[.int .i64 a, .int .i64 b, .int .i64 c, .int .i64 d], .agg #[.int .i64 x, .int .i64 y]] w fun e w' => e = .returned (.bool true) ∧ Below w.heap.size w w' := by
  have hb0 : Below w.heap.size w ((w.alloc (.cells #[.int .i64 a, .int .i64 b, .int .i64 c, .int .i64 d] 38)).alloc (.cells #[.int .i64 x, .int .i64 y] 27)) := (below_alloc w _).alloc (by simp) _
  have HR := Lib.hid (Cells4.keep (Cells4.new w rfl a b c d 38) (below_alloc _ (.cells #[.int .i64 x, .int .i64 y] 27)))
  have HX := Lib.hid (box_newC (w.alloc (.cells #[.int .i64 a, .int .i64 b, .int .i64 c, .int .i64 d] 38)) (g := w.heap.size + 1) (by simp) x y 27)
  have HC1 : Hid ((9223372036854775807 < s1.size + 1) = False) := eq_false (by omega)
  have HC2 : Hid ((9223372036854775807 < s1.size + 1 + s2.size) = False) := eq_false (by omega)
  go_enter Tryd.func5, Tryd.ntmps5
  go_wp2_with fail
  go_at_call 18
  with_reducible refine (HO.out _ HE.out).mono ?_
  rintro e w1 ⟨rfl, hb1⟩
  have HB1 := Lib.hid (hb1.trans ((below_alloc w1 (.cells #[.int .i64 m1, .int .i64 m2, .int .i64 M1, .int .i64 M2] 38)).mono hb1.size))
  obtain ⟨r0, r1, r2, r3⟩ := HR.out.keep HB1.out
  obtain ⟨x0, x1⟩ := box_keepC HX.out HB1.out
  have HO4 := Lib.hid (Cells4.new w1 rfl m1 m2 M1 M2 38)
  obtain ⟨k0, k1, k2, k3⟩ := HO4.out
  clear hb1
  go_wp2_with fail
  go_at_call 19
  with_reducible refine (HI1.out _).mono ?_
  rintro e w1' ⟨rfl, rfl⟩
  go_wp2_with fail
  go_at_call 19
  with_reducible refine (HI2.out _).mono ?_
  rintro e w1' ⟨rfl, rfl⟩
  go_wp2_with fail
  go_at_call 20
  with_reducible refine (HH.out _ (HKEEP.out _ _ HE.out HB1.out)).mono ?_
  rintro e w2 ⟨rfl, hb2⟩
  clear r0 r1 r2 r3 x0 x1 k0 k1 k2 k3
  have HB2 := Lib.hid (HB1.out.trans (hb2.mono HB1.out.size))
  obtain ⟨r0, r1, r2, r3⟩ := HR.out.keep HB2.out
  obtain ⟨k0, k1, k2, k3⟩ := HO4.out.keep hb2
  have HO2 := Lib.hid (HO4.out.keep hb2)
  clear hb2
  go_wp2_with fail
  go_at_call 15
  with_reducible refine (HRA.out _ (HKEEP.out _ _ HE.out HB2.out)).mono ?_
  rintro e w3 ⟨rfl, hb3⟩
  clear r0 r1 r2 r3 k0 k1 k2 k3
  have HB3 := Lib.hid (HB2.out.trans (hb3.mono HB2.out.size))
  obtain ⟨r0, r1, r2, r3⟩ := HR.out.keep HB3.out
  obtain ⟨k0, k1, k2, k3⟩ := HO2.out.keep hb3
  have HO3 := Lib.hid (HO2.out.keep hb3)
  clear hb3
  go_wp2_with fail
  go_at_call 15
  with_reducible refine (HRB.out _ (HKEEP.out _ _ HE.out HB3.out)).mono ?_
  rintro e w4 ⟨rfl, hb4⟩
  clear r0 r1 r2 r3 k0 k1 k2 k3
  have HB4 := Lib.hid (HB3.out.trans (hb4.mono HB3.out.size))
  obtain ⟨r0, r1, r2, r3⟩ := HR.out.keep HB4.out
  obtain ⟨k0, k1, k2, k3⟩ := HO3.out.keep hb4
  have HO5 := Lib.hid (HO3.out.keep hb4)
  clear hb4
  rcases HC.out with t1 | ⟨t1, t2⟩ <;> rcases HD.out with t3 | ⟨t3, t4⟩
  all_goals (
    go_wp2_with fail
    go_at_call 21
    with_reducible refine (HRT.out _ (HKEEP.out _ _ HE.out HB4.out)).mono ?_
    rintro e w6 ⟨rfl, hb6⟩
    have HB6 := Lib.hid (HB4.out.trans (hb6.mono HB4.out.size))
    clear hb6
    go_wp2_with fail
    go_at_call 7
    with_reducible refine (HAW.out _ (HKEEP.out _ _ HE.out HB6.out)).mono ?_
    rintro e w7 ⟨rfl, hb7⟩
    have HB7 := Lib.hid (HB6.out.trans (hb7.mono HB6.out.size))
    clear hb7
    go_wp2_with fail
    go_ret
    exact ⟨rfl, hb0.trans (HB7.out.mono hb0.size)⟩)

set_option maxRecDepth 20000 in
set_option maxHeartbeats 8000000 in
theorem rects_111 {E : World → Prop} (a b c d x y m1 m2 M1 M2 : Int) (q2 : Bool) (s1 s2 sw : ByteArray) (w : World)
    (HKEEP : Hid (∀ w w', E w → Below w.heap.size w w' → E w')) (HE : Hid (E ((w.alloc (.cells #[.int .i64 a, .int .i64 b, .int .i64 c, .int .i64 d] 38)).alloc (.cells #[.int .i64 x, .int .i64 y] 27))))
    (HO : Hid (∀ W, E W → Calls Tryd.prog 18 #[.agg #[.int .i64 a, .int .i64 b, .int .i64 c, .int .i64 d]] W fun e w' => e = .returned (.agg #[.int .i64 m1, .int .i64 m2, .int .i64 M1, .int .i64 M2]) ∧ Below W.heap.size W w'))
    (HI1 : Hid (∀ W, Calls Tryd.prog 19 #[.int .i64 x, .int .i64 a, .int .i64 c] W fun e w' => e = .returned (.bool true) ∧ w' = W))
    (HI2 : Hid (∀ W, Calls Tryd.prog 19 #[.int .i64 y, .int .i64 b, .int .i64 d] W fun e w' => e = .returned (.bool q2) ∧ w' = W))
    (HH : Hid (∀ W, E W → Calls Tryd.prog 20 #[.agg #[.int .i64 a, .int .i64 b, .int .i64 c, .int .i64 d], .agg #[.int .i64 x, .int .i64 y]] W fun e w' => e = .returned (.bool q2) ∧ Below W.heap.size W w'))
    (HRA : Hid (∀ W, E W → Calls Tryd.prog 15 #[.agg #[.int .i64 a, .int .i64 b]] W fun e w' => e = .returned (.bool true) ∧ Below W.heap.size W w'))
    (HRB : Hid (∀ W, E W → Calls Tryd.prog 15 #[.agg #[.int .i64 c, .int .i64 d]] W fun e w' => e = .returned (.bool true) ∧ Below W.heap.size W w'))
    (HT1 : Hid (∀ W, Calls Tryd.prog 17 #[.int .i64 a, .int .i64 b] W fun e w' => e = .returned (.string s1) ∧ Below W.heap.size W w'))
    (HT2 : Hid (∀ W, Calls Tryd.prog 17 #[.int .i64 c, .int .i64 d] W fun e w' => e = .returned (.string s2) ∧ Below W.heap.size W w'))
    (hz1 : s1.size ≤ 20) (hz2 : s2.size ≤ 20) (HSW : Hid (s1 ++ ⟨#[58]⟩ ++ s2 = sw))
    (HRT : Hid (∀ W, E W → Calls Tryd.prog 21 #[.agg #[.int .i64 a, .int .i64 b, .int .i64 c, .int .i64 d]] W fun e w' => e = .returned (.string sw) ∧ Below W.heap.size W w'))
    (HAW : Hid (∀ W, E W → Calls Tryd.prog 7 #[] W fun e w' => e = .returned (.bool true) ∧ Below W.heap.size W w'))
    (hle1 : m1 ≤ M1) (hle2 : m2 ≤ M2) (hs1 : m1 + M1 = a + c) (hs2 : m2 + M2 = b + d)
    (HC : Hid ((m1 == a) = true ∨ ((m1 == a) = false ∧ (m1 == c) = true))) (HD : Hid ((m2 == b) = true ∨ ((m2 == b) = false ∧ (m2 == d) = true))) :
    Calls Tryd.prog 5 #[.agg #[.int .i64 a, .int .i64 b, .int .i64 c, .int .i64 d], .agg #[.int .i64 x, .int .i64 y]] w fun e w' => e = .returned (.bool true) ∧ Below w.heap.size w w' := by
  have hb0 : Below w.heap.size w ((w.alloc (.cells #[.int .i64 a, .int .i64 b, .int .i64 c, .int .i64 d] 38)).alloc (.cells #[.int .i64 x, .int .i64 y] 27)) := (below_alloc w _).alloc (by simp) _
  have HR := Lib.hid (Cells4.keep (Cells4.new w rfl a b c d 38) (below_alloc _ (.cells #[.int .i64 x, .int .i64 y] 27)))
  have HX := Lib.hid (box_newC (w.alloc (.cells #[.int .i64 a, .int .i64 b, .int .i64 c, .int .i64 d] 38)) (g := w.heap.size + 1) (by simp) x y 27)
  have HC1 : Hid ((9223372036854775807 < s1.size + 1) = False) := eq_false (by omega)
  have HC2 : Hid ((9223372036854775807 < s1.size + 1 + s2.size) = False) := eq_false (by omega)
  go_enter Tryd.func5, Tryd.ntmps5
  go_wp2_with fail
  go_at_call 18
  with_reducible refine (HO.out _ HE.out).mono ?_
  rintro e w1 ⟨rfl, hb1⟩
  have HB1 := Lib.hid (hb1.trans ((below_alloc w1 (.cells #[.int .i64 m1, .int .i64 m2, .int .i64 M1, .int .i64 M2] 38)).mono hb1.size))
  obtain ⟨r0, r1, r2, r3⟩ := HR.out.keep HB1.out
  obtain ⟨x0, x1⟩ := box_keepC HX.out HB1.out
  have HO4 := Lib.hid (Cells4.new w1 rfl m1 m2 M1 M2 38)
  obtain ⟨k0, k1, k2, k3⟩ := HO4.out
  clear hb1
  go_wp2_with fail
  go_at_call 19
  with_reducible refine (HI1.out _).mono ?_
  rintro e w1' ⟨rfl, rfl⟩
  go_wp2_with fail
  go_at_call 19
  with_reducible refine (HI2.out _).mono ?_
  rintro e w1' ⟨rfl, rfl⟩
  go_wp2_with fail
  go_at_call 20
  with_reducible refine (HH.out _ (HKEEP.out _ _ HE.out HB1.out)).mono ?_
  rintro e w2 ⟨rfl, hb2⟩
  clear r0 r1 r2 r3 x0 x1 k0 k1 k2 k3
  have HB2 := Lib.hid (HB1.out.trans (hb2.mono HB1.out.size))
  obtain ⟨r0, r1, r2, r3⟩ := HR.out.keep HB2.out
  obtain ⟨k0, k1, k2, k3⟩ := HO4.out.keep hb2
  have HO2 := Lib.hid (HO4.out.keep hb2)
  clear hb2
  go_wp2_with fail
  go_at_call 15
  with_reducible refine (HRA.out _ (HKEEP.out _ _ HE.out HB2.out)).mono ?_
  rintro e w3 ⟨rfl, hb3⟩
  clear r0 r1 r2 r3 k0 k1 k2 k3
  have HB3 := Lib.hid (HB2.out.trans (hb3.mono HB2.out.size))
  obtain ⟨r0, r1, r2, r3⟩ := HR.out.keep HB3.out
  obtain ⟨k0, k1, k2, k3⟩ := HO2.out.keep hb3
  have HO3 := Lib.hid (HO2.out.keep hb3)
  clear hb3
  go_wp2_with fail
  go_at_call 15
  with_reducible refine (HRB.out _ (HKEEP.out _ _ HE.out HB3.out)).mono ?_
  rintro e w4 ⟨rfl, hb4⟩
  clear r0 r1 r2 r3 k0 k1 k2 k3
  have HB4 := Lib.hid (HB3.out.trans (hb4.mono HB3.out.size))
  obtain ⟨r0, r1, r2, r3⟩ := HR.out.keep HB4.out
  obtain ⟨k0, k1, k2, k3⟩ := HO3.out.keep hb4
  have HO5 := Lib.hid (HO3.out.keep hb4)
  clear hb4
  go_wp2_with fail
  have HR4 := Lib.hid (HR.out.keep HB4.out)
  have HBASE := Lib.hid (fun (w2 : World) (h : Below w4.heap.size w4 w2) => h)
  refine wp_region_noPanic ?_
  refine wp_region_below (by kernel_rfl) (fun HS0 => ?_)
  refine wpAnyH_take (i := 0) (v := ?_) rfl (by kernel_rfl) (by kernel_rfl) (by kernel_rfl) (fun _ _ _ h => h) (Or.inl ⟨by rfl, ?_⟩) HS0 ?_
  rotate_left
  · intro w hE; go_simp; try with_reducible rfl
  simp only [List.getElem_toArray, List.getElem_cons_succ, List.getElem_cons_zero, Act.put, List.setIfInBounds_toArray, List.set_cons_zero, List.set_cons_succ]
  refine wpAnyH_take (i := 1) (v := ?_) rfl (by kernel_rfl) (by kernel_rfl) (by kernel_rfl) (fun _ _ _ h => h) (Or.inl ⟨by rfl, ?_⟩) HS0 ?_
  rotate_left
  · intro w hE; go_simp; try with_reducible rfl
  simp only [List.getElem_toArray, List.getElem_cons_succ, List.getElem_cons_zero, Act.put, List.setIfInBounds_toArray, List.set_cons_zero, List.set_cons_succ]
  refine wpAnyH_take (i := 2) (v := ?_) rfl (by kernel_rfl) (by kernel_rfl) (by kernel_rfl) (fun _ _ _ h => h) (Or.inl ⟨by rfl, ?_⟩) HS0 ?_
  rotate_left
  · intro w hE; obtain ⟨r0, r1, r2, r3⟩ := Cells4.keep HR4.out (HBASE.out _ hE); go_simp; try with_reducible rfl
  simp only [List.getElem_toArray, List.getElem_cons_succ, List.getElem_cons_zero, Act.put, List.setIfInBounds_toArray, List.set_cons_zero, List.set_cons_succ]
  refine wpAnyH_take (i := 3) (v := ?_) rfl (by kernel_rfl) (by kernel_rfl) (by kernel_rfl) (fun _ _ _ h => h) (Or.inl ⟨by rfl, ?_⟩) HS0 ?_
  rotate_left
  · intro w hE; go_simp; try with_reducible rfl
  simp only [List.getElem_toArray, List.getElem_cons_succ, List.getElem_cons_zero, Act.put, List.setIfInBounds_toArray, List.set_cons_zero, List.set_cons_succ]
  refine wpAnyH_take (i := 4) (v := ?_) rfl (by kernel_rfl) (by kernel_rfl) (by kernel_rfl) (fun _ _ _ h => h) (Or.inl ⟨by rfl, ?_⟩) HS0 ?_
  rotate_left
  · intro w hE; go_simp; try with_reducible rfl
  simp only [List.getElem_toArray, List.getElem_cons_succ, List.getElem_cons_zero, Act.put, List.setIfInBounds_toArray, List.set_cons_zero, List.set_cons_succ]
  refine wpAnyH_take (i := 5) (v := ?_) rfl (by kernel_rfl) (by kernel_rfl) (by kernel_rfl) (fun _ _ _ h => h) (Or.inl ⟨by rfl, ?_⟩) HS0 ?_
  rotate_left
  · intro w hE; obtain ⟨r0, r1, r2, r3⟩ := Cells4.keep HR4.out (HBASE.out _ hE); go_simp; try with_reducible rfl
  simp only [List.getElem_toArray, List.getElem_cons_succ, List.getElem_cons_zero, Act.put, List.setIfInBounds_toArray, List.set_cons_zero, List.set_cons_succ]
  refine wpAnyH_take (i := 8) (v := ?_) rfl (by kernel_rfl) (by kernel_rfl) (by kernel_rfl) (fun _ _ _ h => h) (Or.inl ⟨by rfl, ?_⟩) HS0 ?_
  rotate_left
  · intro w hE; go_simp; try with_reducible rfl
  simp only [List.getElem_toArray, List.getElem_cons_succ, List.getElem_cons_zero, Act.put, List.setIfInBounds_toArray, List.set_cons_zero, List.set_cons_succ]
  refine wpAnyH_take (i := 9) (v := ?_) rfl (by kernel_rfl) (by kernel_rfl) (by kernel_rfl) (fun _ _ _ h => h) (Or.inl ⟨by rfl, ?_⟩) HS0 ?_
  rotate_left
  · intro w hE; go_simp; try with_reducible rfl
  simp only [List.getElem_toArray, List.getElem_cons_succ, List.getElem_cons_zero, Act.put, List.setIfInBounds_toArray, List.set_cons_zero, List.set_cons_succ]
  refine wpAnyH_take (i := 10) (v := ?_) rfl (by kernel_rfl) (by kernel_rfl) (by kernel_rfl) (fun _ _ _ h => h) (Or.inl ⟨by rfl, ?_⟩) HS0 ?_
  rotate_left
  · intro w hE; obtain ⟨r0, r1, r2, r3⟩ := Cells4.keep HR4.out (HBASE.out _ hE); go_simp; try with_reducible rfl
  simp only [List.getElem_toArray, List.getElem_cons_succ, List.getElem_cons_zero, Act.put, List.setIfInBounds_toArray, List.set_cons_zero, List.set_cons_succ]
  refine wpAnyH_take (i := 11) (v := ?_) rfl (by kernel_rfl) (by kernel_rfl) (by kernel_rfl) (fun _ _ _ h => h) (Or.inl ⟨by rfl, ?_⟩) HS0 ?_
  rotate_left
  · intro w hE; go_simp; try with_reducible rfl
  simp only [List.getElem_toArray, List.getElem_cons_succ, List.getElem_cons_zero, Act.put, List.setIfInBounds_toArray, List.set_cons_zero, List.set_cons_succ]
  refine wpAnyH_take (i := 12) (v := ?_) rfl (by kernel_rfl) (by kernel_rfl) (by kernel_rfl) (fun _ _ _ h => h) (Or.inl ⟨by rfl, ?_⟩) HS0 ?_
  rotate_left
  · intro w hE; go_simp; try with_reducible rfl
  simp only [List.getElem_toArray, List.getElem_cons_succ, List.getElem_cons_zero, Act.put, List.setIfInBounds_toArray, List.set_cons_zero, List.set_cons_succ]
  refine wpAnyH_take (i := 13) (v := ?_) rfl (by kernel_rfl) (by kernel_rfl) (by kernel_rfl) (fun _ _ _ h => h) (Or.inl ⟨by rfl, ?_⟩) HS0 ?_
  rotate_left
  · intro w hE; obtain ⟨r0, r1, r2, r3⟩ := Cells4.keep HR4.out (HBASE.out _ hE); go_simp; try with_reducible rfl
  simp only [List.getElem_toArray, List.getElem_cons_succ, List.getElem_cons_zero, Act.put, List.setIfInBounds_toArray, List.set_cons_zero, List.set_cons_succ]
  refine wpAnyH_ready (rs := [6]) (by kernel_rfl) (by simp) ?_
  refine AllReadyH.cons rfl (fun K hK => ?_) AllReadyH.nil
  go_simp
  go_at_call 17
  refine (HT1.out _).mono ?_
  rintro e v1 ⟨rfl, hb1⟩
  go_simp
  refine hK.out _ _ (HS0.trans (hb1.mono HS0.size)) (fun HS1 => ?_)
  clear hK
  have hx1 := HS0.trans (hb1.mono HS0.size)
  try simp only [List.getElem_toArray, List.getElem_cons_succ, List.getElem_cons_zero, Act.put, List.setIfInBounds_toArray, List.set_cons_zero, List.set_cons_succ]
  refine wpAnyH_take (i := 7) (v := ?_) rfl (by kernel_rfl) (by kernel_rfl) (by kernel_rfl) (fun _ _ _ h => h) (Or.inl ⟨by rfl, ?_⟩) HS1 ?_
  rotate_left
  · intro w hE; have hc := HC1.out; go_simp; try with_reducible rfl
  simp only [List.getElem_toArray, List.getElem_cons_succ, List.getElem_cons_zero, Act.put, List.setIfInBounds_toArray, List.set_cons_zero, List.set_cons_succ]
  refine wpAnyH_ready (rs := [14]) (by kernel_rfl) (by simp) ?_
  refine AllReadyH.cons rfl (fun K hK => ?_) AllReadyH.nil
  go_simp
  go_at_call 17
  refine (HT2.out _).mono ?_
  rintro e v2 ⟨rfl, hb2⟩
  go_simp
  refine hK.out _ _ (hx1.trans (hb2.mono hx1.size)) (fun HS2 => ?_)
  clear hK
  have hx2 := hx1.trans (hb2.mono hx1.size)
  try simp only [List.getElem_toArray, List.getElem_cons_succ, List.getElem_cons_zero, Act.put, List.setIfInBounds_toArray, List.set_cons_zero, List.set_cons_succ]
  refine wpAnyH_take (i := 15) (v := ?_) rfl (by kernel_rfl) (by kernel_rfl) (by kernel_rfl) (fun _ _ _ h => h) (Or.inl ⟨by rfl, ?_⟩) HS2 ?_
  rotate_left
  · intro w hE; have hc := HC2.out; go_simp; try with_reducible rfl
  simp only [List.getElem_toArray, List.getElem_cons_succ, List.getElem_cons_zero, Act.put, List.setIfInBounds_toArray, List.set_cons_zero, List.set_cons_succ]
  refine wpAnyH_take (i := 16) (v := ?_) rfl (by kernel_rfl) (by kernel_rfl) (by kernel_rfl) (fun _ _ _ h => h) (Or.inl ⟨by rfl, ?_⟩) HS2 ?_
  rotate_left
  · intro w hE; go_simp; try with_reducible rfl
  simp only [List.getElem_toArray, List.getElem_cons_succ, List.getElem_cons_zero, Act.put, List.setIfInBounds_toArray, List.set_cons_zero, List.set_cons_succ]
  refine wpAnyH_done (by kernel_rfl) ?_ _
  refine NoPanic.normal ?_
  clear r0 r1 r2 r3 k0 k1 k2 k3
  have HB5 := Lib.hid (HB4.out.trans (hx2.mono HB4.out.size))
  obtain ⟨r0, r1, r2, r3⟩ := HR.out.keep HB5.out
  obtain ⟨k0, k1, k2, k3⟩ := HO5.out.keep hx2
  have hsw := HSW.out
  rcases HC.out with t1 | ⟨t1, t2⟩ <;> rcases HD.out with t3 | ⟨t3, t4⟩
  all_goals (
    go_wp2_with fail
    go_at_call 21
    with_reducible refine (HRT.out _ (HKEEP.out _ _ HE.out HB5.out)).mono ?_
    rintro e w6 ⟨rfl, hb6⟩
    have HB6 := Lib.hid (HB5.out.trans (hb6.mono HB5.out.size))
    clear hb6
    go_wp2_with fail
    go_at_call 7
    with_reducible refine (HAW.out _ (HKEEP.out _ _ HE.out HB6.out)).mono ?_
    rintro e w7 ⟨rfl, hb7⟩
    have HB7 := Lib.hid (HB6.out.trans (hb7.mono HB6.out.size))
    clear hb7
    go_wp2_with fail
    go_ret
    exact ⟨rfl, hb0.trans (HB7.out.mono hb0.size)⟩)

end Go.Proofs.YtggdpnkfambmfaaDoor
