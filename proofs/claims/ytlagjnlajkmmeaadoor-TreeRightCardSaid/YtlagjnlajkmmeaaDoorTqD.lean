/-
Package tree's own text: equal and Same of trees whose node has 6 cells, by contracts.
-/
import Derived.Test.YtlagjnlajkmmeaaDoorTqC
import Derived.Test.YtlagjnlajkmmeaaDoorTrSame
import Derived.Defers
import Derived.Recover
namespace Go.Proofs.YtlagjnlajkmmeaaDoor
open Go.RowKit

set_option maxRecDepth 20000 in
set_option maxHeartbeats 8000000 in
theorem eqf_any (l1 l2 : List Tr) (A1 : Option Addr) (len1 c1 : Nat) (A2 : Option Addr) (len2 c2 : Nat) (w : World) (hA1 : RdA AnyB w l1 (.slice A1 len1 c1)) (hA2 : RdA AnyB w l2 (.slice A2 len2 c2))
    (hf : ∀ (i : Nat) x y, l1[i]? = some x → l2[i]? = some y → ∀ (v u : Value) W, RdN AnyB W x v → RdN AnyB W y u → Calls Tryd.prog 28 #[v, u] W fun e w' => e = .returned (.bool (sameF x y)) ∧ Below W.heap.size W w') :
    Calls Tryd.prog 36 #[.slice A1 len1 c1, .slice A2 len2 c2, .func (.func 28) #[] #[]] w fun e w' => e = .returned (.bool (decide (len1 = len2) && sameL l1 l2)) ∧ Below w.heap.size w w' := by
  have hcap1 := hA1.cap
  have hcap2 := hA2.cap
  have hlm1 : len1 ≤ 9223372036854775807 := by have := hcap1.2; unfold maxLen at this; omega
  have hlm2 : len2 ≤ 9223372036854775807 := by have := hcap2.2; unfold maxLen at this; omega
  have HLEN1 := Lib.hid hcap1.1
  have HLEN2 := Lib.hid hcap2.1
  have HA1 := Lib.hid (fun (i : Nat) (y : Tr) (hy : l1[i]? = some y) => part_s hA1 hy)
  have HA2 := Lib.hid (fun (i : Nat) (y : Tr) (hy : l2[i]? = some y) => part_s hA2 hy)
  have HF := Lib.hid hf
  clear hA1 hA2 hcap1 hcap2 hf
  by_cases hne : len1 = len2
  case neg =>
    obtain ⟨z1, z2⟩ := int_ne (show (len1 : Int) ≠ (len2 : Int) from fun e => hne (by omega))
    rw [decide_eq_false hne, Bool.false_and]
    clear hne
    go_enter Tryd.func36, Tryd.ntmps36
    go_wp2_with fail
    go_ret
    exact ⟨rfl, Below.refl _ _⟩
  subst hne
  rw [decide_eq_true rfl, Bool.true_and]
  obtain ⟨res, hres⟩ : ∃ r, r = sameL l1 l2 := ⟨_, rfl⟩
  rw [← hres]
  have HRES := Lib.hid hres
  clear hres
  go_enter Tryd.func36, Tryd.ntmps36
  go_wp2_with fail
  go_loopw [17] (fun b wr => ∃ i : Nat, i ≤ len1 ∧ b = .int .i64 (i : Int) ∧ Hid (sameL (l1.drop i) (l2.drop i) = res) ∧ Hid (Below w.heap.size w wr)) (fun b _ => len1 - (intOf b).toNat)
  case atStart => exact ⟨0, Nat.zero_le _, rfl, Lib.hid (by rw [List.drop_zero, List.drop_zero, HRES.out]), Lib.hid (Below.refl _ _)⟩
  case round =>
    obtain ⟨i, hi, rfl, HK, HB⟩ := hrel
    by_cases hlt : i < len1
    · obtain ⟨x, hx⟩ : ∃ x, l1[i]? = some x := ⟨_, List.getElem?_eq_getElem (by rw [← HLEN1.out]; exact hlt)⟩
      obtain ⟨y, hy⟩ : ∃ y, l2[i]? = some y := ⟨_, List.getElem?_eq_getElem (by rw [← HLEN2.out]; exact hlt)⟩
      have hdr := sameL_drop hx hy
      obtain ⟨b1, off1, Ax, nx, cx, rfl, hw1⟩ := HA1.out i x hx
      obtain ⟨b2, off2, Ay, ny, cy, rfl, hw2⟩ := HA2.out i y hy
      have hBx : Below w.heap.size w (wr.alloc (.cells #[.int .i64 x.kind, .int .i64 x.num, .string ⟨x.text.toArray⟩, .int .i64 x.a, .int .i64 x.b, .slice Ax nx cx] 36)) := HB.out.trans ((below_alloc wr _).mono HB.out.size)
      have hBy : Below w.heap.size w ((wr.alloc (.cells #[.int .i64 x.kind, .int .i64 x.num, .string ⟨x.text.toArray⟩, .int .i64 x.a, .int .i64 x.b, .slice Ax nx cx] 36)).alloc (.cells #[.int .i64 y.kind, .int .i64 y.num, .string ⟨y.text.toArray⟩, .int .i64 y.a, .int .i64 y.b, .slice Ay ny cy] 36)) := hBx.trans ((below_alloc _ _).mono hBx.size)
      have HBY := Lib.hid hBy
      obtain ⟨⟨c0, c1, c2, c3, c4, c5⟩, _⟩ := hw1 wr HB.out
      obtain ⟨⟨d0, d1, d2, d3, d4, d5⟩, _⟩ := hw2 (wr.alloc (.cells #[.int .i64 x.kind, .int .i64 x.num, .string ⟨x.text.toArray⟩, .int .i64 x.a, .int .i64 x.b, .slice Ax nx cx] 36)) hBx
      obtain ⟨p0, p1, p2, p3, p4, p5⟩ := (box6 wr rfl x (.slice Ax nx cx) 36).below (below_alloc _ (.cells #[.int .i64 y.kind, .int .i64 y.num, .string ⟨y.text.toArray⟩, .int .i64 y.a, .int .i64 y.b, .slice Ay ny cy] 36))
      obtain ⟨q0, q1, q2, q3, q4, q5⟩ := box6 (wr.alloc (.cells #[.int .i64 x.kind, .int .i64 x.num, .string ⟨x.text.toArray⟩, .int .i64 x.a, .int .i64 x.b, .slice Ax nx cx] 36)) (g := wr.heap.size + 1) (by simp) y (.slice Ay ny cy) 36
      have hcall := HF.out i x y hx hy _ _ _ (hw1 _ hBy).2 (hw2 _ hBy).2
      unfold nodeV at hcall
      rw [HK.out] at hdr
      have HCALL := Lib.hid hcall
      have HDR := Lib.hid hdr
      clear hx hy hdr hw1 hw2 hBx hBy hcall HK
      cases hr : sameF x y with
      | true =>
        rw [hr] at HCALL HDR
        go_wp2_with fail
        go_at_call 28
        with_reducible refine (HCALL.out).mono ?_
        rintro e w2 ⟨rfl, hb2⟩
        have HB2 := Lib.hid (HBY.out.trans (hb2.mono HBY.out.size))
        clear hb2
        go_wp2_with fail
        go_roundw
        case rel => exact ⟨i + 1, by omega, by go_num, Lib.hid (by rw [HDR.out, Bool.true_and]), HB2⟩
        case measure => simp [intOf]; omega
      | false =>
        rw [hr] at HCALL HDR
        obtain rfl : res = false := by rw [HDR.out]; rfl
        clear HDR HRES
        go_wp2_with fail
        go_at_call 28
        with_reducible refine (HCALL.out).mono ?_
        rintro e w2 ⟨rfl, hb2⟩
        have HB2 := Lib.hid (HBY.out.trans (hb2.mono HBY.out.size))
        clear hb2
        go_wp2_with fail
        go_ret
        exact ⟨rfl, HB2.out⟩
    · obtain rfl : i = len1 := by omega
      have hfin : res = true := by
        rw [← HK.out]
        conv => lhs; arg 1; rw [HLEN1.out, List.drop_length]
        unfold sameL
        rfl
      subst hfin
      clear HK HLEN1 HLEN2
      go_wp2_with fail
      go_ret
      exact ⟨rfl, HB.out⟩

set_option maxRecDepth 20000 in
set_option maxHeartbeats 16000000 in
theorem pequal_any (x : Tr) : ∀ (y : Tr) (v u : Value) (w : World), RdN AnyB w x v → RdN AnyB w y u →
    Calls Tryd.prog 28 #[v, u] w fun e w' => e = .returned (.bool (sameF x y)) ∧ Below w.heap.size w w' := by
  induction x using Tr.ind with
  | _ x ih =>
  intro y v u w hv hu
  obtain ⟨k1, n1, s1, f1, t1, l1⟩ := x
  obtain ⟨k2, n2, s2, f2, t2, l2⟩ := y
  obtain ⟨hfit1, u1, rfl, hA1⟩ := hv
  obtain ⟨hfit2, u2, rfl, hA2⟩ := hu
  simp only [Tr.kind, Tr.num, Tr.text, Tr.a, Tr.b, Tr.args] at hA1 hA2 ih ⊢
  obtain ⟨A1, c1, rfl⟩ := hA1.named
  obtain ⟨A2, c2, rfl⟩ := hA2.named
  obtain ⟨len1, hlen1⟩ : ∃ len, len = l1.length := ⟨_, rfl⟩
  obtain ⟨len2, hlen2⟩ : ∃ len, len = l2.length := ⟨_, rfl⟩
  have e0 : sameF (.mk k1 n1 s1 f1 t1 l1) (.mk k2 n2 s2 f2 t2 l2) = (decide (k1 = k2 ∧ n1 = n2 ∧ s1 = s2 ∧ f1 = f2 ∧ t1 = t2 ∧ len1 = len2) && sameL l1 l2) := by
    rw [sameF_eq, hlen1, hlen2]; rfl
  rw [e0]
  rw [← hlen1] at hA1 ⊢
  rw [← hlen2] at hA2 ⊢
  have HF := Lib.hid (fun W (hb : Below w.heap.size w W) => eqf_any l1 l2 A1 len1 c1 A2 len2 c2 W (hA1.below hb) (hA2.below hb) (fun i x y hx _ v u W h1 h2 => ih i x hx y v u W h1 h2))
  clear hA1 hA2 ih hlen1 hlen2 hfit1 hfit2 e0
  unfold nodeV
  by_cases hne : k1 = k2
  case neg =>
    obtain ⟨z1, z2⟩ := int_ne hne
    rw [decide_eq_false (fun h => hne (by first | exact h.1 | exact h.2.1 | exact h.2.2.1 | exact h.2.2.2.1 | exact h.2.2.2.2.1)), Bool.false_and]
    clear hne
    have HB0 := Lib.hid (below2 w (.cells #[.int .i64 k1, .int .i64 n1, .string ⟨s1.toArray⟩, .int .i64 f1, .int .i64 t1, .slice A1 len1 c1] 36) (.cells #[.int .i64 k2, .int .i64 n2, .string ⟨s2.toArray⟩, .int .i64 f2, .int .i64 t2, .slice A2 len2 c2] 36))
    have HX := Lib.hid ((boxv w rfl k1 n1 s1 f1 t1 (.slice A1 len1 c1) 36).below (below_alloc _ (.cells #[.int .i64 k2, .int .i64 n2, .string ⟨s2.toArray⟩, .int .i64 f2, .int .i64 t2, .slice A2 len2 c2] 36)))
    have HY := Lib.hid (boxv (w.alloc (.cells #[.int .i64 k1, .int .i64 n1, .string ⟨s1.toArray⟩, .int .i64 f1, .int .i64 t1, .slice A1 len1 c1] 36)) (g := w.heap.size + 1) (by simp) k2 n2 s2 f2 t2 (.slice A2 len2 c2) 36)
    obtain ⟨p0, p1, p2, p3, p4, p5⟩ := HX.out
    obtain ⟨q0, q1, q2, q3, q4, q5⟩ := HY.out
    generalize (⟨s1.toArray⟩ : ByteArray) = sb1 at *
    generalize (⟨s2.toArray⟩ : ByteArray) = sb2 at *
    go_enter Tryd.func28, Tryd.ntmps28
    go_wp2_with fail
    go_ret
    exact ⟨by first | rfl | simp, HB0.out⟩
  subst hne
  by_cases hne : n1 = n2
  case neg =>
    obtain ⟨z1, z2⟩ := int_ne hne
    rw [decide_eq_false (fun h => hne (by first | exact h.1 | exact h.2.1 | exact h.2.2.1 | exact h.2.2.2.1 | exact h.2.2.2.2.1)), Bool.false_and]
    clear hne
    have HB0 := Lib.hid (below2 w (.cells #[.int .i64 k1, .int .i64 n1, .string ⟨s1.toArray⟩, .int .i64 f1, .int .i64 t1, .slice A1 len1 c1] 36) (.cells #[.int .i64 k1, .int .i64 n2, .string ⟨s2.toArray⟩, .int .i64 f2, .int .i64 t2, .slice A2 len2 c2] 36))
    have HX := Lib.hid ((boxv w rfl k1 n1 s1 f1 t1 (.slice A1 len1 c1) 36).below (below_alloc _ (.cells #[.int .i64 k1, .int .i64 n2, .string ⟨s2.toArray⟩, .int .i64 f2, .int .i64 t2, .slice A2 len2 c2] 36)))
    have HY := Lib.hid (boxv (w.alloc (.cells #[.int .i64 k1, .int .i64 n1, .string ⟨s1.toArray⟩, .int .i64 f1, .int .i64 t1, .slice A1 len1 c1] 36)) (g := w.heap.size + 1) (by simp) k1 n2 s2 f2 t2 (.slice A2 len2 c2) 36)
    obtain ⟨p0, p1, p2, p3, p4, p5⟩ := HX.out
    obtain ⟨q0, q1, q2, q3, q4, q5⟩ := HY.out
    generalize (⟨s1.toArray⟩ : ByteArray) = sb1 at *
    generalize (⟨s2.toArray⟩ : ByteArray) = sb2 at *
    go_enter Tryd.func28, Tryd.ntmps28
    go_wp2_with fail
    go_ret
    exact ⟨by first | rfl | simp, HB0.out⟩
  subst hne
  by_cases hne : s1 = s2
  case neg =>
    have z1 := strN_ne (fun e : (⟨s1.toArray⟩ : ByteArray) = ⟨s2.toArray⟩ => hne (by have := congrArg (fun b : ByteArray => b.data.toList) e; simpa using this))
    rw [decide_eq_false (fun h => hne (by first | exact h.1 | exact h.2.1 | exact h.2.2.1 | exact h.2.2.2.1 | exact h.2.2.2.2.1)), Bool.false_and]
    clear hne
    have HB0 := Lib.hid (below2 w (.cells #[.int .i64 k1, .int .i64 n1, .string ⟨s1.toArray⟩, .int .i64 f1, .int .i64 t1, .slice A1 len1 c1] 36) (.cells #[.int .i64 k1, .int .i64 n1, .string ⟨s2.toArray⟩, .int .i64 f2, .int .i64 t2, .slice A2 len2 c2] 36))
    have HX := Lib.hid ((boxv w rfl k1 n1 s1 f1 t1 (.slice A1 len1 c1) 36).below (below_alloc _ (.cells #[.int .i64 k1, .int .i64 n1, .string ⟨s2.toArray⟩, .int .i64 f2, .int .i64 t2, .slice A2 len2 c2] 36)))
    have HY := Lib.hid (boxv (w.alloc (.cells #[.int .i64 k1, .int .i64 n1, .string ⟨s1.toArray⟩, .int .i64 f1, .int .i64 t1, .slice A1 len1 c1] 36)) (g := w.heap.size + 1) (by simp) k1 n1 s2 f2 t2 (.slice A2 len2 c2) 36)
    obtain ⟨p0, p1, p2, p3, p4, p5⟩ := HX.out
    obtain ⟨q0, q1, q2, q3, q4, q5⟩ := HY.out
    generalize (⟨s1.toArray⟩ : ByteArray) = sb1 at *
    generalize (⟨s2.toArray⟩ : ByteArray) = sb2 at *
    go_enter Tryd.func28, Tryd.ntmps28
    go_wp2_with fail
    go_ret
    exact ⟨by first | rfl | simp, HB0.out⟩
  subst hne
  by_cases hne : f1 = f2
  case neg =>
    obtain ⟨z1, z2⟩ := int_ne hne
    rw [decide_eq_false (fun h => hne (by first | exact h.1 | exact h.2.1 | exact h.2.2.1 | exact h.2.2.2.1 | exact h.2.2.2.2.1)), Bool.false_and]
    clear hne
    have HB0 := Lib.hid (below2 w (.cells #[.int .i64 k1, .int .i64 n1, .string ⟨s1.toArray⟩, .int .i64 f1, .int .i64 t1, .slice A1 len1 c1] 36) (.cells #[.int .i64 k1, .int .i64 n1, .string ⟨s1.toArray⟩, .int .i64 f2, .int .i64 t2, .slice A2 len2 c2] 36))
    have HX := Lib.hid ((boxv w rfl k1 n1 s1 f1 t1 (.slice A1 len1 c1) 36).below (below_alloc _ (.cells #[.int .i64 k1, .int .i64 n1, .string ⟨s1.toArray⟩, .int .i64 f2, .int .i64 t2, .slice A2 len2 c2] 36)))
    have HY := Lib.hid (boxv (w.alloc (.cells #[.int .i64 k1, .int .i64 n1, .string ⟨s1.toArray⟩, .int .i64 f1, .int .i64 t1, .slice A1 len1 c1] 36)) (g := w.heap.size + 1) (by simp) k1 n1 s1 f2 t2 (.slice A2 len2 c2) 36)
    obtain ⟨p0, p1, p2, p3, p4, p5⟩ := HX.out
    obtain ⟨q0, q1, q2, q3, q4, q5⟩ := HY.out
    generalize (⟨s1.toArray⟩ : ByteArray) = sb1 at *
    go_enter Tryd.func28, Tryd.ntmps28
    go_wp2_with fail
    go_ret
    exact ⟨by first | rfl | simp, HB0.out⟩
  subst hne
  by_cases hne : t1 = t2
  case neg =>
    obtain ⟨z1, z2⟩ := int_ne hne
    rw [decide_eq_false (fun h => hne (by first | exact h.1 | exact h.2.1 | exact h.2.2.1 | exact h.2.2.2.1 | exact h.2.2.2.2.1)), Bool.false_and]
    clear hne
    have HB0 := Lib.hid (below2 w (.cells #[.int .i64 k1, .int .i64 n1, .string ⟨s1.toArray⟩, .int .i64 f1, .int .i64 t1, .slice A1 len1 c1] 36) (.cells #[.int .i64 k1, .int .i64 n1, .string ⟨s1.toArray⟩, .int .i64 f1, .int .i64 t2, .slice A2 len2 c2] 36))
    have HX := Lib.hid ((boxv w rfl k1 n1 s1 f1 t1 (.slice A1 len1 c1) 36).below (below_alloc _ (.cells #[.int .i64 k1, .int .i64 n1, .string ⟨s1.toArray⟩, .int .i64 f1, .int .i64 t2, .slice A2 len2 c2] 36)))
    have HY := Lib.hid (boxv (w.alloc (.cells #[.int .i64 k1, .int .i64 n1, .string ⟨s1.toArray⟩, .int .i64 f1, .int .i64 t1, .slice A1 len1 c1] 36)) (g := w.heap.size + 1) (by simp) k1 n1 s1 f1 t2 (.slice A2 len2 c2) 36)
    obtain ⟨p0, p1, p2, p3, p4, p5⟩ := HX.out
    obtain ⟨q0, q1, q2, q3, q4, q5⟩ := HY.out
    generalize (⟨s1.toArray⟩ : ByteArray) = sb1 at *
    go_enter Tryd.func28, Tryd.ntmps28
    go_wp2_with fail
    go_ret
    exact ⟨by first | rfl | simp, HB0.out⟩
  subst hne
  rw [show (decide (k1 = k1 ∧ n1 = n1 ∧ s1 = s1 ∧ f1 = f1 ∧ t1 = t1 ∧ len1 = len2) && sameL l1 l2) = (decide (len1 = len2) && sameL l1 l2) from by simp]
  obtain ⟨res, hres⟩ : ∃ r, r = (decide (len1 = len2) && sameL l1 l2) := ⟨_, rfl⟩
  rw [← hres]
  rw [← hres] at HF
  clear hres
  have HB0 := Lib.hid (below2 w (.cells #[.int .i64 k1, .int .i64 n1, .string ⟨s1.toArray⟩, .int .i64 f1, .int .i64 t1, .slice A1 len1 c1] 36) (.cells #[.int .i64 k1, .int .i64 n1, .string ⟨s1.toArray⟩, .int .i64 f1, .int .i64 t1, .slice A2 len2 c2] 36))
  have HX := Lib.hid ((boxv w rfl k1 n1 s1 f1 t1 (.slice A1 len1 c1) 36).below (below_alloc _ (.cells #[.int .i64 k1, .int .i64 n1, .string ⟨s1.toArray⟩, .int .i64 f1, .int .i64 t1, .slice A2 len2 c2] 36)))
  have HY := Lib.hid (boxv (w.alloc (.cells #[.int .i64 k1, .int .i64 n1, .string ⟨s1.toArray⟩, .int .i64 f1, .int .i64 t1, .slice A1 len1 c1] 36)) (g := w.heap.size + 1) (by simp) k1 n1 s1 f1 t1 (.slice A2 len2 c2) 36)
  obtain ⟨p0, p1, p2, p3, p4, p5⟩ := HX.out
  obtain ⟨q0, q1, q2, q3, q4, q5⟩ := HY.out
  generalize (⟨s1.toArray⟩ : ByteArray) = sb1 at *
  go_enter Tryd.func28, Tryd.ntmps28
  go_wp2_with fail
  go_at_call 36
  with_reducible refine (HF.out _ HB0.out).mono ?_
  rintro e w2 ⟨rfl, hb2⟩
  have HB2 := Lib.hid (HB0.out.trans (hb2.mono HB0.out.size))
  clear hb2
  go_wp2_with fail
  go_ret
  exact ⟨by first | rfl | simp, HB2.out⟩

theorem same_idle (p : Addr) (w : World) :
    CallsD Tryd.prog 27 #[.pointer (some p)] .returning w fun e u' w' => e = .returned (.tuple #[]) ∧ u' = .returning ∧ w' = w := by
  refine callsD_of_wpS Tryd.func27 rfl fun c₀ cs hu => ?_
  apply wpS_seq
  apply wpS_region
  simp [wpOpsS, go_sem, recoverD, hu, Tryd.ntmps27, Exit.thenS]
  refine wpS_cond (t := false) (by simp [Act.eval, Array.replicate]) ?_
  simp only [Bool.false_eq_true, if_false]
  refine wpS_of_wp (wp_skip ?_)
  cases c₀
  simp_all [bodyPostS, results, Tryd.results27]

set_option maxRecDepth 20000 in
set_option maxHeartbeats 4000000 in
theorem psame_any (x y : Tr) (v u : Value) (w : World) (hv : RdN AnyB w x v) (hu : RdN AnyB w y u) :
    Calls Tryd.prog 18 #[v, u] w fun e w' => e = .returned (.bool (sameF x y)) ∧ Below w.heap.size w w' := by
  have hmf : ∀ (fn : Fn) (first cap : Array Value) (w : World), (Instr.makeFunc fn first cap).run Tryd.prog w = .ok (.func fn first cap) w := fun _ _ _ _ => rfl
  obtain ⟨k1, n1, s1, f1, t1, l1⟩ := x
  obtain ⟨k2, n2, s2, f2, t2, l2⟩ := y
  have hv0 := hv
  have hu0 := hu
  obtain ⟨_, u1, rfl, hA1⟩ := hv
  obtain ⟨_, u2, rfl, hA2⟩ := hu
  simp only [Tr.kind, Tr.num, Tr.text, Tr.a, Tr.b, Tr.args] at hA1 hA2 hv0 hu0 ⊢
  obtain ⟨A1, c1, rfl⟩ := hA1.named
  obtain ⟨A2, c2, rfl⟩ := hA2.named
  obtain ⟨len1, hlen1⟩ : ∃ len, len = l1.length := ⟨_, rfl⟩
  obtain ⟨len2, hlen2⟩ : ∃ len, len = l2.length := ⟨_, rfl⟩
  rw [← hlen1] at hv0 ⊢
  rw [← hlen2] at hu0 ⊢
  have HCALL := Lib.hid (fun W (hb : Below w.heap.size w W) => pequal_any (.mk k1 n1 s1 f1 t1 l1) (.mk k2 n2 s2 f2 t2 l2) _ _ W (hv0.below hb) (hu0.below hb))
  obtain ⟨res, hres⟩ : ∃ r, r = sameF (.mk k1 n1 s1 f1 t1 l1) (.mk k2 n2 s2 f2 t2 l2) := ⟨_, rfl⟩
  rw [← hres] at HCALL ⊢
  clear hA1 hA2 hlen1 hlen2 hv0 hu0 hres
  unfold nodeV at HCALL ⊢
  have hB3 := below3 w (.cells #[.int .i64 k1, .int .i64 n1, .string ⟨s1.toArray⟩, .int .i64 f1, .int .i64 t1, .slice A1 len1 c1] 36) (.cells #[.int .i64 k2, .int .i64 n2, .string ⟨s2.toArray⟩, .int .i64 f2, .int .i64 t2, .slice A2 len2 c2] 36) (.cells #[.bool false] 4)
  have HB3 := Lib.hid hB3
  have HX := Lib.hid ((boxv w rfl k1 n1 s1 f1 t1 (.slice A1 len1 c1) 36).below (below2 _ (.cells #[.int .i64 k2, .int .i64 n2, .string ⟨s2.toArray⟩, .int .i64 f2, .int .i64 t2, .slice A2 len2 c2] 36) (.cells #[.bool false] 4)))
  have HY := Lib.hid ((boxv (w.alloc (.cells #[.int .i64 k1, .int .i64 n1, .string ⟨s1.toArray⟩, .int .i64 f1, .int .i64 t1, .slice A1 len1 c1] 36)) (g := w.heap.size + 1) (by simp) k2 n2 s2 f2 t2 (.slice A2 len2 c2) 36).below (below_alloc _ (.cells #[.bool false] 4)))
  obtain ⟨p0, p1, p2, p3, p4, p5⟩ := HX.out
  obtain ⟨q0, q1, q2, q3, q4, q5⟩ := HY.out
  have hC : (((w.alloc (.cells #[.int .i64 k1, .int .i64 n1, .string ⟨s1.toArray⟩, .int .i64 f1, .int .i64 t1, .slice A1 len1 c1] 36)).alloc (.cells #[.int .i64 k2, .int .i64 n2, .string ⟨s2.toArray⟩, .int .i64 f2, .int .i64 t2, .slice A2 len2 c2] 36)).alloc (.cells #[.bool false] 4)).heap[w.heap.size + 1 + 1]? = some (.cells #[.bool false] 4 (0, 0)) := heap_new (by simp)
  have HC := Lib.hid hC
  clear hB3 hC
  generalize (⟨s1.toArray⟩ : ByteArray) = sb1 at *
  generalize (⟨s2.toArray⟩ : ByteArray) = sb2 at *
  go_enter_defers Tryd.func18, Tryd.ntmps18
  go_wp2_with fail
  go_at_call 28
  with_reducible refine (HCALL.out _ HB3.out).mono ?_
  rintro e w2 ⟨rfl, hb2⟩
  have HR := Lib.hid ((hb2.block (w.heap.size + 1 + 1) (by simp)).trans HC.out)
  have hc1 : w2.cell? ⟨w.heap.size + 1 + 1, 0, none⟩ = some (.bool false) := by rw [cell_of_row _ _ 0 _ _ _ HR.out]; rfl
  have hf1 : w2.frozen? ⟨w.heap.size + 1 + 1, 0, none⟩ = false := by have := HR.out; simp [World.frozen?, this]
  have HB2 := Lib.hid (HB3.out.trans (hb2.mono HB3.out.size))
  have HC2 := Lib.hid (World.cell?_setCell_same w2 ⟨w.heap.size + 1 + 1, 0, none⟩ (.bool res) hc1)
  clear hb2
  go_wp2_with fail
  refine leaves_cons (f := 27) (args := #[.pointer (some ⟨w.heap.size + 1 + 1, 0, none⟩)]) (by simp) (by simp [go_sem]) ?_
  refine (same_idle ⟨w.heap.size + 1 + 1, 0, none⟩ _).mono ?_
  rintro e u' w'' ⟨rfl, rfl, rfl⟩
  have hc2 := HC2.out
  simp [Leaves, settle, results, Tryd.results18, go_sem, hc2]
  exact HB2.out.setCell (by simp; omega) _
end Go.Proofs.YtlagjnlajkmmeaaDoor
