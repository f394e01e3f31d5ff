/-
The reference of stage 9: Same, by a contract.
-/
import Derived.Test.YtlagjnlajkmmeaaDoorTrRight
import Derived.Test.YtlagjnlajkmmeaaDoorBHeld
namespace Go.Proofs.YtlagjnlajkmmeaaDoor
open Go.RowKit

theorem sameL_drop {l m : List Tr} {i : Nat} {x y : Tr} (h : l[i]? = some x) (h2 : m[i]? = some y) : sameL (l.drop i) (m.drop i) = (sameF x y && sameL (l.drop (i + 1)) (m.drop (i + 1))) := by
  rw [drop_at h, drop_at h2]
  conv => lhs; unfold sameL
theorem int_ne {a b : Int} (h : a ≠ b) : (a == b) = false ∧ (a != b) = true := by
  have : (a == b) = false := beq_eq_false_iff_ne.2 h
  exact ⟨this, by simp [bne, this]⟩

set_option maxRecDepth 20000 in
set_option maxHeartbeats 8000000 in
theorem rsame_any (x : Tr) : ∀ (y : Tr) (v u : Value) (w : World), RdN AnyB w x v → RdN AnyB w y u →
    Calls Tryd.prog 19 #[v, u] w fun e w' => e = .returned (.bool (sameF x y)) ∧ Below w.heap.size w w' := by
  induction x using Tr.ind with
  | _ x ih =>
  intro y v u w hv hu
  obtain ⟨k1, n1, s1, f1, t1, l1⟩ := x
  obtain ⟨k2, n2, s2, f2, t2, l2⟩ := y
  obtain ⟨hfit1, u1, rfl, hA1⟩ := hv
  obtain ⟨hfit2, u2, rfl, hA2⟩ := hu
  simp only [Tr.kind, Tr.num, Tr.text, Tr.a, Tr.b, Tr.args] at hA1 hA2 ih ⊢
  obtain ⟨A1, c1, rfl⟩ := hA1.named
  obtain ⟨A2, c2, rfl⟩ := hA2.named
  have hcap1 := hA1.cap
  have hcap2 := hA2.cap
  obtain ⟨len1, hlen1⟩ : ∃ len, len = l1.length := ⟨_, rfl⟩
  obtain ⟨len2, hlen2⟩ : ∃ len, len = l2.length := ⟨_, rfl⟩
  have e0 : sameF (.mk k1 n1 s1 f1 t1 l1) (.mk k2 n2 s2 f2 t2 l2) = (decide (k1 = k2 ∧ n1 = n2 ∧ s1 = s2 ∧ f1 = f2 ∧ t1 = t2 ∧ len1 = len2) && sameL l1 l2) := by
    rw [sameF_eq, hlen1, hlen2]; rfl
  rw [e0]
  rw [← hlen1] at hA1 hcap1 ⊢
  rw [← hlen2] at hA2 hcap2 ⊢
  have hlm1 : len1 ≤ 9223372036854775807 := by have := hcap1.2; unfold maxLen at this; omega
  have hlm2 : len2 ≤ 9223372036854775807 := by have := hcap2.2; unfold maxLen at this; omega
  have HA1 := Lib.hid (fun (i : Nat) (y : Tr) (hy : l1[i]? = some y) => part_at hA1 hy)
  have HA2 := Lib.hid (fun (i : Nat) (y : Tr) (hy : l2[i]? = some y) => part_at hA2 hy)
  have HIH := Lib.hid ih
  have HLEN1 := Lib.hid hlen1
  have HLEN2 := Lib.hid hlen2
  clear hA1 hA2 hcap1 hcap2 ih hlen1 hlen2 hfit1 hfit2 e0
  unfold nodeV
  by_cases hne : k1 = k2
  case neg =>
    obtain ⟨z1, z2⟩ := int_ne hne
    rw [decide_eq_false (fun h => hne (by first | exact h.1 | exact h.2.1 | exact h.2.2.1 | exact h.2.2.2.1 | exact h.2.2.2.2.1 | exact h.2.2.2.2.2)), Bool.false_and]
    clear hne
    have HB0 := Lib.hid (below2 w (.cells #[.int .i64 k1, .int .i64 n1, .string ⟨s1.toArray⟩, .int .i64 f1, .int .i64 t1, .slice A1 len1 c1] 30) (.cells #[.int .i64 k2, .int .i64 n2, .string ⟨s2.toArray⟩, .int .i64 f2, .int .i64 t2, .slice A2 len2 c2] 30))
    have HX := Lib.hid ((box6v w rfl k1 n1 s1 f1 t1 (.slice A1 len1 c1) 30).below (below_alloc _ (.cells #[.int .i64 k2, .int .i64 n2, .string ⟨s2.toArray⟩, .int .i64 f2, .int .i64 t2, .slice A2 len2 c2] 30)))
    have HY := Lib.hid (box6v (w.alloc (.cells #[.int .i64 k1, .int .i64 n1, .string ⟨s1.toArray⟩, .int .i64 f1, .int .i64 t1, .slice A1 len1 c1] 30)) (g := w.heap.size + 1) (by simp) k2 n2 s2 f2 t2 (.slice A2 len2 c2) 30)
    obtain ⟨p0, p1, p2, p3, p4, p5⟩ := HX.out
    obtain ⟨q0, q1, q2, q3, q4, q5⟩ := HY.out
    generalize (⟨s1.toArray⟩ : ByteArray) = sb1 at *
    generalize (⟨s2.toArray⟩ : ByteArray) = sb2 at *
    go_enter Tryd.func19, Tryd.ntmps19
    go_wp2_with fail
    go_ret
    exact ⟨rfl, HB0.out⟩
  subst hne
  by_cases hne : n1 = n2
  case neg =>
    obtain ⟨z1, z2⟩ := int_ne hne
    rw [decide_eq_false (fun h => hne (by first | exact h.1 | exact h.2.1 | exact h.2.2.1 | exact h.2.2.2.1 | exact h.2.2.2.2.1 | exact h.2.2.2.2.2)), Bool.false_and]
    clear hne
    have HB0 := Lib.hid (below2 w (.cells #[.int .i64 k1, .int .i64 n1, .string ⟨s1.toArray⟩, .int .i64 f1, .int .i64 t1, .slice A1 len1 c1] 30) (.cells #[.int .i64 k1, .int .i64 n2, .string ⟨s2.toArray⟩, .int .i64 f2, .int .i64 t2, .slice A2 len2 c2] 30))
    have HX := Lib.hid ((box6v w rfl k1 n1 s1 f1 t1 (.slice A1 len1 c1) 30).below (below_alloc _ (.cells #[.int .i64 k1, .int .i64 n2, .string ⟨s2.toArray⟩, .int .i64 f2, .int .i64 t2, .slice A2 len2 c2] 30)))
    have HY := Lib.hid (box6v (w.alloc (.cells #[.int .i64 k1, .int .i64 n1, .string ⟨s1.toArray⟩, .int .i64 f1, .int .i64 t1, .slice A1 len1 c1] 30)) (g := w.heap.size + 1) (by simp) k1 n2 s2 f2 t2 (.slice A2 len2 c2) 30)
    obtain ⟨p0, p1, p2, p3, p4, p5⟩ := HX.out
    obtain ⟨q0, q1, q2, q3, q4, q5⟩ := HY.out
    generalize (⟨s1.toArray⟩ : ByteArray) = sb1 at *
    generalize (⟨s2.toArray⟩ : ByteArray) = sb2 at *
    go_enter Tryd.func19, Tryd.ntmps19
    go_wp2_with fail
    go_ret
    exact ⟨rfl, HB0.out⟩
  subst hne
  by_cases hne : s1 = s2
  case neg =>
    have z1 := strN_ne (fun e : (⟨s1.toArray⟩ : ByteArray) = ⟨s2.toArray⟩ => hne (by have := congrArg (fun b : ByteArray => b.data.toList) e; simpa using this))
    rw [decide_eq_false (fun h => hne (by first | exact h.1 | exact h.2.1 | exact h.2.2.1 | exact h.2.2.2.1 | exact h.2.2.2.2.1 | exact h.2.2.2.2.2)), Bool.false_and]
    clear hne
    have HB0 := Lib.hid (below2 w (.cells #[.int .i64 k1, .int .i64 n1, .string ⟨s1.toArray⟩, .int .i64 f1, .int .i64 t1, .slice A1 len1 c1] 30) (.cells #[.int .i64 k1, .int .i64 n1, .string ⟨s2.toArray⟩, .int .i64 f2, .int .i64 t2, .slice A2 len2 c2] 30))
    have HX := Lib.hid ((box6v w rfl k1 n1 s1 f1 t1 (.slice A1 len1 c1) 30).below (below_alloc _ (.cells #[.int .i64 k1, .int .i64 n1, .string ⟨s2.toArray⟩, .int .i64 f2, .int .i64 t2, .slice A2 len2 c2] 30)))
    have HY := Lib.hid (box6v (w.alloc (.cells #[.int .i64 k1, .int .i64 n1, .string ⟨s1.toArray⟩, .int .i64 f1, .int .i64 t1, .slice A1 len1 c1] 30)) (g := w.heap.size + 1) (by simp) k1 n1 s2 f2 t2 (.slice A2 len2 c2) 30)
    obtain ⟨p0, p1, p2, p3, p4, p5⟩ := HX.out
    obtain ⟨q0, q1, q2, q3, q4, q5⟩ := HY.out
    generalize (⟨s1.toArray⟩ : ByteArray) = sb1 at *
    generalize (⟨s2.toArray⟩ : ByteArray) = sb2 at *
    go_enter Tryd.func19, Tryd.ntmps19
    go_wp2_with fail
    go_ret
    exact ⟨rfl, HB0.out⟩
  subst hne
  by_cases hne : f1 = f2
  case neg =>
    obtain ⟨z1, z2⟩ := int_ne hne
    rw [decide_eq_false (fun h => hne (by first | exact h.1 | exact h.2.1 | exact h.2.2.1 | exact h.2.2.2.1 | exact h.2.2.2.2.1 | exact h.2.2.2.2.2)), Bool.false_and]
    clear hne
    have HB0 := Lib.hid (below2 w (.cells #[.int .i64 k1, .int .i64 n1, .string ⟨s1.toArray⟩, .int .i64 f1, .int .i64 t1, .slice A1 len1 c1] 30) (.cells #[.int .i64 k1, .int .i64 n1, .string ⟨s1.toArray⟩, .int .i64 f2, .int .i64 t2, .slice A2 len2 c2] 30))
    have HX := Lib.hid ((box6v w rfl k1 n1 s1 f1 t1 (.slice A1 len1 c1) 30).below (below_alloc _ (.cells #[.int .i64 k1, .int .i64 n1, .string ⟨s1.toArray⟩, .int .i64 f2, .int .i64 t2, .slice A2 len2 c2] 30)))
    have HY := Lib.hid (box6v (w.alloc (.cells #[.int .i64 k1, .int .i64 n1, .string ⟨s1.toArray⟩, .int .i64 f1, .int .i64 t1, .slice A1 len1 c1] 30)) (g := w.heap.size + 1) (by simp) k1 n1 s1 f2 t2 (.slice A2 len2 c2) 30)
    obtain ⟨p0, p1, p2, p3, p4, p5⟩ := HX.out
    obtain ⟨q0, q1, q2, q3, q4, q5⟩ := HY.out
    generalize (⟨s1.toArray⟩ : ByteArray) = sb1 at *
    go_enter Tryd.func19, Tryd.ntmps19
    go_wp2_with fail
    go_ret
    exact ⟨rfl, HB0.out⟩
  subst hne
  by_cases hne : t1 = t2
  case neg =>
    obtain ⟨z1, z2⟩ := int_ne hne
    rw [decide_eq_false (fun h => hne (by first | exact h.1 | exact h.2.1 | exact h.2.2.1 | exact h.2.2.2.1 | exact h.2.2.2.2.1 | exact h.2.2.2.2.2)), Bool.false_and]
    clear hne
    have HB0 := Lib.hid (below2 w (.cells #[.int .i64 k1, .int .i64 n1, .string ⟨s1.toArray⟩, .int .i64 f1, .int .i64 t1, .slice A1 len1 c1] 30) (.cells #[.int .i64 k1, .int .i64 n1, .string ⟨s1.toArray⟩, .int .i64 f1, .int .i64 t2, .slice A2 len2 c2] 30))
    have HX := Lib.hid ((box6v w rfl k1 n1 s1 f1 t1 (.slice A1 len1 c1) 30).below (below_alloc _ (.cells #[.int .i64 k1, .int .i64 n1, .string ⟨s1.toArray⟩, .int .i64 f1, .int .i64 t2, .slice A2 len2 c2] 30)))
    have HY := Lib.hid (box6v (w.alloc (.cells #[.int .i64 k1, .int .i64 n1, .string ⟨s1.toArray⟩, .int .i64 f1, .int .i64 t1, .slice A1 len1 c1] 30)) (g := w.heap.size + 1) (by simp) k1 n1 s1 f1 t2 (.slice A2 len2 c2) 30)
    obtain ⟨p0, p1, p2, p3, p4, p5⟩ := HX.out
    obtain ⟨q0, q1, q2, q3, q4, q5⟩ := HY.out
    generalize (⟨s1.toArray⟩ : ByteArray) = sb1 at *
    go_enter Tryd.func19, Tryd.ntmps19
    go_wp2_with fail
    go_ret
    exact ⟨rfl, HB0.out⟩
  subst hne
  by_cases hne : len1 = len2
  case neg =>
    obtain ⟨z1, z2⟩ := int_ne (show (len1 : Int) ≠ (len2 : Int) from fun e => hne (by omega))
    rw [decide_eq_false (fun h => hne (by first | exact h.1 | exact h.2.1 | exact h.2.2.1 | exact h.2.2.2.1 | exact h.2.2.2.2.1 | exact h.2.2.2.2.2)), Bool.false_and]
    clear hne
    have HB0 := Lib.hid (below2 w (.cells #[.int .i64 k1, .int .i64 n1, .string ⟨s1.toArray⟩, .int .i64 f1, .int .i64 t1, .slice A1 len1 c1] 30) (.cells #[.int .i64 k1, .int .i64 n1, .string ⟨s1.toArray⟩, .int .i64 f1, .int .i64 t1, .slice A2 len2 c2] 30))
    have HX := Lib.hid ((box6v w rfl k1 n1 s1 f1 t1 (.slice A1 len1 c1) 30).below (below_alloc _ (.cells #[.int .i64 k1, .int .i64 n1, .string ⟨s1.toArray⟩, .int .i64 f1, .int .i64 t1, .slice A2 len2 c2] 30)))
    have HY := Lib.hid (box6v (w.alloc (.cells #[.int .i64 k1, .int .i64 n1, .string ⟨s1.toArray⟩, .int .i64 f1, .int .i64 t1, .slice A1 len1 c1] 30)) (g := w.heap.size + 1) (by simp) k1 n1 s1 f1 t1 (.slice A2 len2 c2) 30)
    obtain ⟨p0, p1, p2, p3, p4, p5⟩ := HX.out
    obtain ⟨q0, q1, q2, q3, q4, q5⟩ := HY.out
    generalize (⟨s1.toArray⟩ : ByteArray) = sb1 at *
    go_enter Tryd.func19, Tryd.ntmps19
    go_wp2_with fail
    go_ret
    exact ⟨rfl, HB0.out⟩
  subst hne
  rw [decide_eq_true ⟨rfl, rfl, rfl, rfl, rfl, rfl⟩, Bool.true_and]
  obtain ⟨res, hres⟩ : ∃ r, r = sameL l1 l2 := ⟨_, rfl⟩
  rw [← hres]
  have HRES := Lib.hid hres
  clear hres
  have HB0 := Lib.hid (below2 w (.cells #[.int .i64 k1, .int .i64 n1, .string ⟨s1.toArray⟩, .int .i64 f1, .int .i64 t1, .slice A1 len1 c1] 30) (.cells #[.int .i64 k1, .int .i64 n1, .string ⟨s1.toArray⟩, .int .i64 f1, .int .i64 t1, .slice A2 len1 c2] 30))
  have HX := Lib.hid ((box6v w rfl k1 n1 s1 f1 t1 (.slice A1 len1 c1) 30).below (below_alloc _ (.cells #[.int .i64 k1, .int .i64 n1, .string ⟨s1.toArray⟩, .int .i64 f1, .int .i64 t1, .slice A2 len1 c2] 30)))
  have HY := Lib.hid (box6v (w.alloc (.cells #[.int .i64 k1, .int .i64 n1, .string ⟨s1.toArray⟩, .int .i64 f1, .int .i64 t1, .slice A1 len1 c1] 30)) (g := w.heap.size + 1) (by simp) k1 n1 s1 f1 t1 (.slice A2 len1 c2) 30)
  obtain ⟨p0, p1, p2, p3, p4, p5⟩ := HX.out
  obtain ⟨q0, q1, q2, q3, q4, q5⟩ := HY.out
  go_enter Tryd.func19, Tryd.ntmps19
  go_wp2_with fail
  clear p0 p1 p2 p3 p4 p5 q0 q1 q2 q3 q4 q5
  go_loopw [5] (fun b wr => ∃ i : Nat, i ≤ len1 ∧ b = .int .i64 (i : Int) ∧ Hid (sameL (l1.drop i) (l2.drop i) = res) ∧ Hid (Below ((w.alloc (.cells #[.int .i64 k1, .int .i64 n1, .string ⟨s1.toArray⟩, .int .i64 f1, .int .i64 t1, .slice A1 len1 c1] 30)).alloc (.cells #[.int .i64 k1, .int .i64 n1, .string ⟨s1.toArray⟩, .int .i64 f1, .int .i64 t1, .slice A2 len1 c2] 30)).heap.size ((w.alloc (.cells #[.int .i64 k1, .int .i64 n1, .string ⟨s1.toArray⟩, .int .i64 f1, .int .i64 t1, .slice A1 len1 c1] 30)).alloc (.cells #[.int .i64 k1, .int .i64 n1, .string ⟨s1.toArray⟩, .int .i64 f1, .int .i64 t1, .slice A2 len1 c2] 30)) wr)) (fun b _ => len1 - (intOf b).toNat)
  case atStart => exact ⟨0, Nat.zero_le _, rfl, Lib.hid (by rw [List.drop_zero, List.drop_zero, HRES.out]), Lib.hid (Below.refl _ _)⟩
  case round =>
    obtain ⟨i, hi, rfl, HK, HB⟩ := hrel
    have HXR := Lib.hid (HX.out.below HB.out)
    have HYR := Lib.hid (HY.out.below HB.out)
    obtain ⟨p0, p1, p2, p3, p4, p5⟩ := HXR.out
    by_cases hlt : i < len1
    · obtain ⟨x, hx⟩ : ∃ x, l1[i]? = some x := ⟨_, List.getElem?_eq_getElem (by rw [← HLEN1.out]; exact hlt)⟩
      obtain ⟨y, hy⟩ : ∃ y, l2[i]? = some y := ⟨_, List.getElem?_eq_getElem (by rw [← HLEN2.out]; exact hlt)⟩
      have hdr := sameL_drop hx hy
      obtain ⟨b1, off1, ux, rfl, hw1⟩ := HA1.out i x hx
      obtain ⟨b2, off2, uy, rfl, hw2⟩ := HA2.out i y hy
      have hBw := HB0.out.trans (HB.out.mono HB0.out.size)
      have HPX := Lib.hid (fun w' (h : Below _ _ w') => hw1 w' (hBw.trans (Below.mono h hBw.size)))
      have HPY := Lib.hid (fun w' (h : Below _ _ w') => hw2 w' (hBw.trans (Below.mono h hBw.size)))
      have hcall := fun w' h => HIH.out i x hx y _ _ w' (HPX.out w' h).2 (HPY.out w' h).2
      unfold nodeV at hcall
      rw [HK.out] at hdr
      cases hr : sameF x y with
      | true =>
        rw [hr, Bool.true_and] at hdr
        rw [hr] at hcall
        have HNEW := Lib.hid hdr.symm
        have HCALL := Lib.hid hcall
        clear hx hy hdr hw1 hw2 hBw hcall hr HK p0 p1 p2 p3 p4
        go_wp2_with fail
        clear p5
        refine wp_region_noPanic ?_
        refine wp_region_below (by kernel_rfl) (fun HS0 => ?_)
        refine wpAnyH_take (i := 0) (v := ?_) rfl (by kernel_rfl) (by kernel_rfl) (by kernel_rfl) (fun _ _ _ h => h) (Or.inl ⟨by rfl, ?_⟩) HS0 ?_
        rotate_left
        · intro w hE; go_simp; try with_reducible rfl
        simp only [List.getElem_toArray, List.getElem_cons_succ, List.getElem_cons_zero, Act.put, List.setIfInBounds_toArray, List.set_cons_zero, List.set_cons_succ]
        refine wpAnyH_take (i := 1) (v := ?_) rfl (by kernel_rfl) (by kernel_rfl) (by kernel_rfl) (fun _ _ _ h => h) (Or.inl ⟨by rfl, ?_⟩) HS0 ?_
        rotate_left
        · intro w hE; obtain ⟨_, _, _, _, _, p5⟩ := HXR.out.below hE; go_simp; try with_reducible rfl
        simp only [List.getElem_toArray, List.getElem_cons_succ, List.getElem_cons_zero, Act.put, List.setIfInBounds_toArray, List.set_cons_zero, List.set_cons_succ]
        refine wpAnyH_take (i := 2) (v := ?_) rfl (by kernel_rfl) (by kernel_rfl) (by kernel_rfl) (fun _ _ _ h => h) (Or.inl ⟨by rfl, ?_⟩) HS0 ?_
        rotate_left
        · intro w hE; go_simp; try with_reducible rfl
        simp only [List.getElem_toArray, List.getElem_cons_succ, List.getElem_cons_zero, Act.put, List.setIfInBounds_toArray, List.set_cons_zero, List.set_cons_succ]
        refine wpAnyH_take (i := 3) (v := ?_) rfl (by kernel_rfl) (by kernel_rfl) (by kernel_rfl) (fun _ _ _ h => h) (Or.inl ⟨by rfl, ?_⟩) HS0 ?_
        rotate_left
        · intro w hE; go_simp; try with_reducible rfl
        simp only [List.getElem_toArray, List.getElem_cons_succ, List.getElem_cons_zero, Act.put, List.setIfInBounds_toArray, List.set_cons_zero, List.set_cons_succ]
        refine wpAnyH_take (i := 4) (v := ?_) rfl (by kernel_rfl) (by kernel_rfl) (by kernel_rfl) (fun _ _ _ h => h) (Or.inl ⟨by rfl, ?_⟩) HS0 ?_
        rotate_left
        · intro w hE; obtain ⟨⟨c0, c1, c2, c3, c4, c5⟩, _⟩ := HPX.out _ hE; go_simp; try with_reducible rfl
        simp only [List.getElem_toArray, List.getElem_cons_succ, List.getElem_cons_zero, Act.put, List.setIfInBounds_toArray, List.set_cons_zero, List.set_cons_succ]
        refine wpAnyH_take (i := 5) (v := ?_) rfl (by kernel_rfl) (by kernel_rfl) (by kernel_rfl) (fun _ _ _ h => h) (Or.inl ⟨by rfl, ?_⟩) HS0 ?_
        rotate_left
        · intro w hE; go_simp; try with_reducible rfl
        simp only [List.getElem_toArray, List.getElem_cons_succ, List.getElem_cons_zero, Act.put, List.setIfInBounds_toArray, List.set_cons_zero, List.set_cons_succ]
        refine wpAnyH_take (i := 6) (v := ?_) rfl (by kernel_rfl) (by kernel_rfl) (by kernel_rfl) (fun _ _ _ h => h) (Or.inl ⟨by rfl, ?_⟩) HS0 ?_
        rotate_left
        · intro w hE; obtain ⟨_, _, _, _, _, q5⟩ := HYR.out.below hE; go_simp; try with_reducible rfl
        simp only [List.getElem_toArray, List.getElem_cons_succ, List.getElem_cons_zero, Act.put, List.setIfInBounds_toArray, List.set_cons_zero, List.set_cons_succ]
        refine wpAnyH_take (i := 7) (v := ?_) rfl (by kernel_rfl) (by kernel_rfl) (by kernel_rfl) (fun _ _ _ h => h) (Or.inl ⟨by rfl, ?_⟩) HS0 ?_
        rotate_left
        · intro w hE; go_simp; try with_reducible rfl
        simp only [List.getElem_toArray, List.getElem_cons_succ, List.getElem_cons_zero, Act.put, List.setIfInBounds_toArray, List.set_cons_zero, List.set_cons_succ]
        refine wpAnyH_take (i := 8) (v := ?_) rfl (by kernel_rfl) (by kernel_rfl) (by kernel_rfl) (fun _ _ _ h => h) (Or.inl ⟨by rfl, ?_⟩) HS0 ?_
        rotate_left
        · intro w hE; go_simp; try with_reducible rfl
        simp only [List.getElem_toArray, List.getElem_cons_succ, List.getElem_cons_zero, Act.put, List.setIfInBounds_toArray, List.set_cons_zero, List.set_cons_succ]
        refine wpAnyH_take (i := 9) (v := ?_) rfl (by kernel_rfl) (by kernel_rfl) (by kernel_rfl) (fun _ _ _ h => h) (Or.inl ⟨by rfl, ?_⟩) HS0 ?_
        rotate_left
        · intro w hE; obtain ⟨⟨c0, c1, c2, c3, c4, c5⟩, _⟩ := HPY.out _ hE; go_simp; try with_reducible rfl
        simp only [List.getElem_toArray, List.getElem_cons_succ, List.getElem_cons_zero, Act.put, List.setIfInBounds_toArray, List.set_cons_zero, List.set_cons_succ]
        refine wpAnyH_ready (rs := [10]) (by kernel_rfl) (by simp) ?_
        refine AllReadyH.cons rfl (fun K hK => ?_) AllReadyH.nil
        go_simp
        go_at_call 19
        refine (HCALL.out _ HS0).mono ?_
        rintro e wA ⟨rfl, hbA⟩
        go_simp
        refine hK.out _ _ (HS0.trans (hbA.mono HS0.size)) (fun HS1 => ?_)
        clear hK
        have hxA := HS0.trans (hbA.mono HS0.size)
        try simp only [List.getElem_toArray, List.getElem_cons_succ, List.getElem_cons_zero, Act.put, List.setIfInBounds_toArray, List.set_cons_zero, List.set_cons_succ]
        refine wpAnyH_take (i := 11) (v := ?_) rfl (by kernel_rfl) (by kernel_rfl) (by kernel_rfl) (fun _ _ _ h => h) (Or.inl ⟨by rfl, ?_⟩) HS1 ?_
        rotate_left
        · intro w hE; go_simp; try with_reducible rfl
        simp only [List.getElem_toArray, List.getElem_cons_succ, List.getElem_cons_zero, Act.put, List.setIfInBounds_toArray, List.set_cons_zero, List.set_cons_succ]
        refine wpAnyH_done (by kernel_rfl) ?_ _
        refine NoPanic.normal ?_
        go_wp2_with fail
        go_roundw
        case rel => exact ⟨i + 1, by omega, by go_num, HNEW, Lib.hid (HB.out.trans (hxA.mono HB.out.size))⟩
        case measure => simp [intOf]; omega
      | false =>
        rw [hr, Bool.false_and] at hdr
        rw [hr] at hcall
        subst hdr
        have HCALL := Lib.hid hcall
        clear hx hy hw1 hw2 hcall hr HK p0 p1 p2 p3 p4
        go_wp2_with fail
        clear p5
        refine wp_region_noPanic ?_
        refine wp_region_below (by kernel_rfl) (fun HS0 => ?_)
        refine wpAnyH_take (i := 0) (v := ?_) rfl (by kernel_rfl) (by kernel_rfl) (by kernel_rfl) (fun _ _ _ h => h) (Or.inl ⟨by rfl, ?_⟩) HS0 ?_
        rotate_left
        · intro w hE; go_simp; try with_reducible rfl
        simp only [List.getElem_toArray, List.getElem_cons_succ, List.getElem_cons_zero, Act.put, List.setIfInBounds_toArray, List.set_cons_zero, List.set_cons_succ]
        refine wpAnyH_take (i := 1) (v := ?_) rfl (by kernel_rfl) (by kernel_rfl) (by kernel_rfl) (fun _ _ _ h => h) (Or.inl ⟨by rfl, ?_⟩) HS0 ?_
        rotate_left
        · intro w hE; obtain ⟨_, _, _, _, _, p5⟩ := HXR.out.below hE; go_simp; try with_reducible rfl
        simp only [List.getElem_toArray, List.getElem_cons_succ, List.getElem_cons_zero, Act.put, List.setIfInBounds_toArray, List.set_cons_zero, List.set_cons_succ]
        refine wpAnyH_take (i := 2) (v := ?_) rfl (by kernel_rfl) (by kernel_rfl) (by kernel_rfl) (fun _ _ _ h => h) (Or.inl ⟨by rfl, ?_⟩) HS0 ?_
        rotate_left
        · intro w hE; go_simp; try with_reducible rfl
        simp only [List.getElem_toArray, List.getElem_cons_succ, List.getElem_cons_zero, Act.put, List.setIfInBounds_toArray, List.set_cons_zero, List.set_cons_succ]
        refine wpAnyH_take (i := 3) (v := ?_) rfl (by kernel_rfl) (by kernel_rfl) (by kernel_rfl) (fun _ _ _ h => h) (Or.inl ⟨by rfl, ?_⟩) HS0 ?_
        rotate_left
        · intro w hE; go_simp; try with_reducible rfl
        simp only [List.getElem_toArray, List.getElem_cons_succ, List.getElem_cons_zero, Act.put, List.setIfInBounds_toArray, List.set_cons_zero, List.set_cons_succ]
        refine wpAnyH_take (i := 4) (v := ?_) rfl (by kernel_rfl) (by kernel_rfl) (by kernel_rfl) (fun _ _ _ h => h) (Or.inl ⟨by rfl, ?_⟩) HS0 ?_
        rotate_left
        · intro w hE; obtain ⟨⟨c0, c1, c2, c3, c4, c5⟩, _⟩ := HPX.out _ hE; go_simp; try with_reducible rfl
        simp only [List.getElem_toArray, List.getElem_cons_succ, List.getElem_cons_zero, Act.put, List.setIfInBounds_toArray, List.set_cons_zero, List.set_cons_succ]
        refine wpAnyH_take (i := 5) (v := ?_) rfl (by kernel_rfl) (by kernel_rfl) (by kernel_rfl) (fun _ _ _ h => h) (Or.inl ⟨by rfl, ?_⟩) HS0 ?_
        rotate_left
        · intro w hE; go_simp; try with_reducible rfl
        simp only [List.getElem_toArray, List.getElem_cons_succ, List.getElem_cons_zero, Act.put, List.setIfInBounds_toArray, List.set_cons_zero, List.set_cons_succ]
        refine wpAnyH_take (i := 6) (v := ?_) rfl (by kernel_rfl) (by kernel_rfl) (by kernel_rfl) (fun _ _ _ h => h) (Or.inl ⟨by rfl, ?_⟩) HS0 ?_
        rotate_left
        · intro w hE; obtain ⟨_, _, _, _, _, q5⟩ := HYR.out.below hE; go_simp; try with_reducible rfl
        simp only [List.getElem_toArray, List.getElem_cons_succ, List.getElem_cons_zero, Act.put, List.setIfInBounds_toArray, List.set_cons_zero, List.set_cons_succ]
        refine wpAnyH_take (i := 7) (v := ?_) rfl (by kernel_rfl) (by kernel_rfl) (by kernel_rfl) (fun _ _ _ h => h) (Or.inl ⟨by rfl, ?_⟩) HS0 ?_
        rotate_left
        · intro w hE; go_simp; try with_reducible rfl
        simp only [List.getElem_toArray, List.getElem_cons_succ, List.getElem_cons_zero, Act.put, List.setIfInBounds_toArray, List.set_cons_zero, List.set_cons_succ]
        refine wpAnyH_take (i := 8) (v := ?_) rfl (by kernel_rfl) (by kernel_rfl) (by kernel_rfl) (fun _ _ _ h => h) (Or.inl ⟨by rfl, ?_⟩) HS0 ?_
        rotate_left
        · intro w hE; go_simp; try with_reducible rfl
        simp only [List.getElem_toArray, List.getElem_cons_succ, List.getElem_cons_zero, Act.put, List.setIfInBounds_toArray, List.set_cons_zero, List.set_cons_succ]
        refine wpAnyH_take (i := 9) (v := ?_) rfl (by kernel_rfl) (by kernel_rfl) (by kernel_rfl) (fun _ _ _ h => h) (Or.inl ⟨by rfl, ?_⟩) HS0 ?_
        rotate_left
        · intro w hE; obtain ⟨⟨c0, c1, c2, c3, c4, c5⟩, _⟩ := HPY.out _ hE; go_simp; try with_reducible rfl
        simp only [List.getElem_toArray, List.getElem_cons_succ, List.getElem_cons_zero, Act.put, List.setIfInBounds_toArray, List.set_cons_zero, List.set_cons_succ]
        refine wpAnyH_ready (rs := [10]) (by kernel_rfl) (by simp) ?_
        refine AllReadyH.cons rfl (fun K hK => ?_) AllReadyH.nil
        go_simp
        go_at_call 19
        refine (HCALL.out _ HS0).mono ?_
        rintro e wA ⟨rfl, hbA⟩
        go_simp
        refine hK.out _ _ (HS0.trans (hbA.mono HS0.size)) (fun HS1 => ?_)
        clear hK
        have hxA := HS0.trans (hbA.mono HS0.size)
        try simp only [List.getElem_toArray, List.getElem_cons_succ, List.getElem_cons_zero, Act.put, List.setIfInBounds_toArray, List.set_cons_zero, List.set_cons_succ]
        refine wpAnyH_take (i := 11) (v := ?_) rfl (by kernel_rfl) (by kernel_rfl) (by kernel_rfl) (fun _ _ _ h => h) (Or.inl ⟨by rfl, ?_⟩) HS1 ?_
        rotate_left
        · intro w hE; go_simp; try with_reducible rfl
        simp only [List.getElem_toArray, List.getElem_cons_succ, List.getElem_cons_zero, Act.put, List.setIfInBounds_toArray, List.set_cons_zero, List.set_cons_succ]
        refine wpAnyH_done (by kernel_rfl) ?_ _
        refine NoPanic.normal ?_
        go_wp2_with fail
        go_ret
        exact ⟨rfl, hBw.trans (hxA.mono hBw.size)⟩
    · obtain rfl : i = len1 := by omega
      have hfin : res = true := by
        rw [← HK.out]
        conv => lhs; arg 1; rw [HLEN1.out, List.drop_length]
        unfold sameL
        rfl
      subst hfin
      have hB := HB0.out.trans (HB.out.mono HB0.out.size)
      clear HK HLEN1 HLEN2
      go_wp2_with fail
      go_ret
      exact ⟨rfl, hB⟩
end Go.Proofs.YtlagjnlajkmmeaaDoor
