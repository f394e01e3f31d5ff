/-
The reference of stage 9: Right, by a contract.
-/
import Derived.Test.YtlagjnlajkmmeaaGreatDoorTrSN
namespace Go.Proofs.YtlagjnlajkmmeaaGreatDoor
open Go.RowKit

theorem box6v (w : World) {g : Nat} (hg : g = w.heap.size) (k n : Int) (s : List UInt8) (f t : Int) (u : Value) (T : TypeId) : At6 (w.alloc (.cells #[.int .i64 k, .int .i64 n, .string ⟨s.toArray⟩, .int .i64 f, .int .i64 t, u] T)) g 0 k n s f t u := box6 w hg (.mk k n s f t []) u T
theorem rightL_drop {l : List Tr} {i : Nat} {y : Tr} {m : Int} (h : l[i]? = some y) : rightL (l.drop i) m = (rightF y m && rightL (l.drop (i + 1)) m) := by
  rw [drop_at h]
  conv => lhs; unfold rightL

set_option maxRecDepth 20000 in
set_option maxHeartbeats 8000000 in
theorem rright_any (x : Tr) : ∀ (m : Int) (v : Value) (w : World), In64 m → RdN AnyB w x v →
    Calls Tryz.prog 5 #[v, .int .i64 m] w fun e w' => e = .returned (.bool (rightF x m)) ∧ Below w.heap.size w w' := by
  induction x using Tr.ind with
  | _ x ih =>
  intro m v w hm hv
  obtain ⟨k, n, s, f, t, l⟩ := x
  obtain ⟨hfit, u, rfl, hA⟩ := hv
  simp only [Tr.kind, Tr.num, Tr.text, Tr.a, Tr.b, Tr.args] at hfit hA ih ⊢
  obtain ⟨A, c, rfl⟩ := hA.named
  have hcap := hA.cap
  obtain ⟨len, hlen⟩ : ∃ len, len = l.length := ⟨_, rfl⟩
  rw [← hlen] at hA hcap ⊢
  have hlm : len ≤ 9223372036854775807 := by have := hcap.2; unfold maxLen at this; omega
  have hsl : s.length ≤ 9223372036854775807 := by have h : s.length ≤ maxLen := hfit.2.2.2.2; unfold maxLen at h; omega
  have HA := Lib.hid (fun (i : Nat) (y : Tr) (hy : l[i]? = some y) => part_at hA hy)
  have HIH := Lib.hid ih
  have HLV := Lib.hid (fun W => rlevel_any s W)
  have HNM := Lib.hid (fun W => rname_any s hsl W)
  have hlv := levelF_le s
  have e0 : rightF (.mk k n s f t l) m = (decide (1 ≤ m) && nodeOk k n s len && rightL l (m - 1)) := by rw [rightF_eq]; simp only [Tr.kind, Tr.num, Tr.text, Tr.args, hlen]
  rw [e0]
  have HLEN := Lib.hid hlen
  have HKB := Lib.hid (show In64 k from hfit.1)
  clear hA hcap ih hlen hfit e0
  unfold nodeV
  by_cases hm1 : m < 1
  · rw [show (decide (1 ≤ m) && nodeOk k n s len && rightL l (m - 1)) = false from by rw [decide_eq_false (by omega)]; rfl]
    have HB0 := Lib.hid (below_alloc w (.cells #[.int .i64 k, .int .i64 n, .string ⟨s.toArray⟩, .int .i64 f, .int .i64 t, .slice A len c] 24))
    have HBX := Lib.hid (box6v w rfl k n s f t (.slice A len c) 24)
    obtain ⟨p0, p1, p2, p3, p4, p5⟩ := HBX.out
    go_enter Tryz.func5, Tryz.ntmps5
    go_wp2_with fail
    go_ret
    exact ⟨by first | rfl | (simp; omega), HB0.out⟩
  have hm1' : 1 ≤ m := by omega
  have e1 : (decide (1 ≤ m) && nodeOk k n s len && rightL l (m - 1)) = (nodeOk k n s len && rightL l (m - 1)) := by rw [decide_eq_true hm1', Bool.true_and]
  rw [e1]
  clear hm1 e1
  by_cases hk1 : k < 1
  · rw [show nodeOk k n s len = false from by unfold nodeOk; rw [decide_eq_false (by omega)]; rfl, Bool.false_and]
    have HB0 := Lib.hid (below_alloc w (.cells #[.int .i64 k, .int .i64 n, .string ⟨s.toArray⟩, .int .i64 f, .int .i64 t, .slice A len c] 24))
    have HBX := Lib.hid (box6v w rfl k n s f t (.slice A len c) 24)
    obtain ⟨p0, p1, p2, p3, p4, p5⟩ := HBX.out
    go_enter Tryz.func5, Tryz.ntmps5
    go_wp2_with fail
    go_ret
    exact ⟨by first | rfl | (simp; omega), HB0.out⟩
  have hk1' : 1 ≤ k := by omega
  clear hk1
  by_cases hk8 : 8 < k
  · rw [show nodeOk k n s len = false from by unfold nodeOk; rw [decide_eq_false (by omega)]; rfl, Bool.false_and]
    have HB0 := Lib.hid (below_alloc w (.cells #[.int .i64 k, .int .i64 n, .string ⟨s.toArray⟩, .int .i64 f, .int .i64 t, .slice A len c] 24))
    have HBX := Lib.hid (box6v w rfl k n s f t (.slice A len c) 24)
    obtain ⟨p0, p1, p2, p3, p4, p5⟩ := HBX.out
    go_enter Tryz.func5, Tryz.ntmps5
    go_wp2_with fail
    go_ret
    exact ⟨by first | rfl | (simp; omega), HB0.out⟩
  have hkk : k = 1 ∨ k = 2 ∨ k = 3 ∨ k = 4 ∨ k = 5 ∨ k = 6 ∨ k = 7 ∨ k = 8 := by omega
  clear hk1' hk8 HKB
  rcases hkk with rfl | rfl | rfl | rfl | rfl | rfl | rfl | rfl
  · by_cases hl : len = 0
    · subst hl
      have hl0 : l = [] := List.eq_nil_of_length_eq_zero HLEN.out.symm
      subst hl0
      by_cases hn : n < 0
      · rw [show (nodeOk 1 n s 0 && rightL [] (m - 1)) = false from by unfold nodeOk; simp [hn]]
        have HB0 := Lib.hid (below_alloc w (.cells #[.int .i64 1, .int .i64 n, .string ⟨s.toArray⟩, .int .i64 f, .int .i64 t, .slice A 0 c] 24))
        have HBX := Lib.hid (box6v w rfl 1 n s f t (.slice A 0 c) 24)
        obtain ⟨p0, p1, p2, p3, p4, p5⟩ := HBX.out
        go_enter Tryz.func5, Tryz.ntmps5
        go_wp2_with fail
        go_ret
        exact ⟨by first | rfl | (simp; omega), HB0.out⟩
      · have hn' : 0 ≤ n := by omega
        rw [show (nodeOk 1 n s 0 && rightL [] (m - 1)) = true from by unfold nodeOk rightL; simp [hn']]
        clear hn
        have HB0 := Lib.hid (below_alloc w (.cells #[.int .i64 1, .int .i64 n, .string ⟨s.toArray⟩, .int .i64 f, .int .i64 t, .slice A 0 c] 24))
        have HBX := Lib.hid (box6v w rfl 1 n s f t (.slice A 0 c) 24)
        obtain ⟨p0, p1, p2, p3, p4, p5⟩ := HBX.out
        go_enter Tryz.func5, Tryz.ntmps5
        go_wp2_with fail
        go_loop [6] (fun b => b = .int .i64 0) (fun _ => 0)
        case atStart => rfl
        case round =>
          subst hrel
          go_wp2_with fail
          go_ret
          exact ⟨rfl, HB0.out⟩
    · have q1 : ((len : Int) == 0) = false := beq_eq_false_iff_ne.2 (by omega)
      have q2 : ((len : Int) != 0) = true := by simp [bne, q1]
      rw [show nodeOk 1 n s len = false from by unfold nodeOk; simp [hl], Bool.false_and]
      clear hl
      have HB0 := Lib.hid (below_alloc w (.cells #[.int .i64 1, .int .i64 n, .string ⟨s.toArray⟩, .int .i64 f, .int .i64 t, .slice A len c] 24))
      have HBX := Lib.hid (box6v w rfl 1 n s f t (.slice A len c) 24)
      obtain ⟨p0, p1, p2, p3, p4, p5⟩ := HBX.out
      go_enter Tryz.func5, Tryz.ntmps5
      go_wp2_with fail
      go_ret
      exact ⟨by first | rfl | (simp; omega), HB0.out⟩
  · by_cases hl : len = 0
    · subst hl
      have hl0 : l = [] := List.eq_nil_of_length_eq_zero HLEN.out.symm
      subst hl0
      rw [show (nodeOk 2 n s 0 && rightL [] (m - 1)) = true from by unfold nodeOk rightL; simp]
      have HB0 := Lib.hid (below_alloc w (.cells #[.int .i64 2, .int .i64 n, .string ⟨s.toArray⟩, .int .i64 f, .int .i64 t, .slice A 0 c] 24))
      have HBX := Lib.hid (box6v w rfl 2 n s f t (.slice A 0 c) 24)
      obtain ⟨p0, p1, p2, p3, p4, p5⟩ := HBX.out
      go_enter Tryz.func5, Tryz.ntmps5
      go_wp2_with fail
      go_loop [6] (fun b => b = .int .i64 0) (fun _ => 0)
      case atStart => rfl
      case round =>
        subst hrel
        go_wp2_with fail
        go_ret
        exact ⟨rfl, HB0.out⟩
    · have q1 : ((len : Int) == 0) = false := beq_eq_false_iff_ne.2 (by omega)
      have q2 : ((len : Int) != 0) = true := by simp [bne, q1]
      rw [show nodeOk 2 n s len = false from by unfold nodeOk; simp [hl], Bool.false_and]
      clear hl
      have HB0 := Lib.hid (below_alloc w (.cells #[.int .i64 2, .int .i64 n, .string ⟨s.toArray⟩, .int .i64 f, .int .i64 t, .slice A len c] 24))
      have HBX := Lib.hid (box6v w rfl 2 n s f t (.slice A len c) 24)
      obtain ⟨p0, p1, p2, p3, p4, p5⟩ := HBX.out
      go_enter Tryz.func5, Tryz.ntmps5
      go_wp2_with fail
      go_ret
      exact ⟨by first | rfl | (simp; omega), HB0.out⟩
  · by_cases hl : len = 0
    · subst hl
      have hl0 : l = [] := List.eq_nil_of_length_eq_zero HLEN.out.symm
      subst hl0
      rw [show (nodeOk 3 n s 0 && rightL [] (m - 1)) = true from by unfold nodeOk rightL; simp]
      have HB0 := Lib.hid (below_alloc w (.cells #[.int .i64 3, .int .i64 n, .string ⟨s.toArray⟩, .int .i64 f, .int .i64 t, .slice A 0 c] 24))
      have HBX := Lib.hid (box6v w rfl 3 n s f t (.slice A 0 c) 24)
      obtain ⟨p0, p1, p2, p3, p4, p5⟩ := HBX.out
      go_enter Tryz.func5, Tryz.ntmps5
      go_wp2_with fail
      go_loop [6] (fun b => b = .int .i64 0) (fun _ => 0)
      case atStart => rfl
      case round =>
        subst hrel
        go_wp2_with fail
        go_ret
        exact ⟨rfl, HB0.out⟩
    · have q1 : ((len : Int) == 0) = false := beq_eq_false_iff_ne.2 (by omega)
      have q2 : ((len : Int) != 0) = true := by simp [bne, q1]
      rw [show nodeOk 3 n s len = false from by unfold nodeOk; simp [hl], Bool.false_and]
      clear hl
      have HB0 := Lib.hid (below_alloc w (.cells #[.int .i64 3, .int .i64 n, .string ⟨s.toArray⟩, .int .i64 f, .int .i64 t, .slice A len c] 24))
      have HBX := Lib.hid (box6v w rfl 3 n s f t (.slice A len c) 24)
      obtain ⟨p0, p1, p2, p3, p4, p5⟩ := HBX.out
      go_enter Tryz.func5, Tryz.ntmps5
      go_wp2_with fail
      go_ret
      exact ⟨by first | rfl | (simp; omega), HB0.out⟩
  · by_cases hl : len = 0
    · subst hl
      have hl0 : l = [] := List.eq_nil_of_length_eq_zero HLEN.out.symm
      subst hl0
      rw [show (nodeOk 4 n s 0 && rightL [] (m - 1)) = true from by unfold nodeOk rightL; simp]
      have HB0 := Lib.hid (below_alloc w (.cells #[.int .i64 4, .int .i64 n, .string ⟨s.toArray⟩, .int .i64 f, .int .i64 t, .slice A 0 c] 24))
      have HBX := Lib.hid (box6v w rfl 4 n s f t (.slice A 0 c) 24)
      obtain ⟨p0, p1, p2, p3, p4, p5⟩ := HBX.out
      go_enter Tryz.func5, Tryz.ntmps5
      go_wp2_with fail
      go_loop [6] (fun b => b = .int .i64 0) (fun _ => 0)
      case atStart => rfl
      case round =>
        subst hrel
        go_wp2_with fail
        go_ret
        exact ⟨rfl, HB0.out⟩
    · have q1 : ((len : Int) == 0) = false := beq_eq_false_iff_ne.2 (by omega)
      have q2 : ((len : Int) != 0) = true := by simp [bne, q1]
      rw [show nodeOk 4 n s len = false from by unfold nodeOk; simp [hl], Bool.false_and]
      clear hl
      have HB0 := Lib.hid (below_alloc w (.cells #[.int .i64 4, .int .i64 n, .string ⟨s.toArray⟩, .int .i64 f, .int .i64 t, .slice A len c] 24))
      have HBX := Lib.hid (box6v w rfl 4 n s f t (.slice A len c) 24)
      obtain ⟨p0, p1, p2, p3, p4, p5⟩ := HBX.out
      go_enter Tryz.func5, Tryz.ntmps5
      go_wp2_with fail
      go_ret
      exact ⟨by first | rfl | (simp; omega), HB0.out⟩
  · by_cases hl : len = 1
    · rw [show nodeOk 5 n s len = true from by unfold nodeOk; simp [hl], Bool.true_and]
      obtain ⟨res, hres⟩ : ∃ r, r = rightL l (m - 1) := ⟨_, rfl⟩
      rw [← hres]
      have HRES := Lib.hid hres
      have q1 : ((len : Int) == 1) = true := beq_iff_eq.2 (by omega)
      have q2 : ((len : Int) != 1) = false := by simp [bne, q1]
      clear hres hl
      have HB0 := Lib.hid (below_alloc w (.cells #[.int .i64 5, .int .i64 n, .string ⟨s.toArray⟩, .int .i64 f, .int .i64 t, .slice A len c] 24))
      have HBX := Lib.hid (box6v w rfl 5 n s f t (.slice A len c) 24)
      obtain ⟨p0, p1, p2, p3, p4, p5⟩ := HBX.out
      go_enter Tryz.func5, Tryz.ntmps5
      go_wp2_with fail
      clear p0 p1 p2 p3 p4 p5
      go_loopw [6] (fun b wr => ∃ i : Nat, i ≤ len ∧ b = .int .i64 (i : Int) ∧ Hid (rightL (l.drop i) (m - 1) = res) ∧ Hid (Below (w.alloc (.cells #[.int .i64 5, .int .i64 n, .string ⟨s.toArray⟩, .int .i64 f, .int .i64 t, .slice A len c] 24)).heap.size (w.alloc (.cells #[.int .i64 5, .int .i64 n, .string ⟨s.toArray⟩, .int .i64 f, .int .i64 t, .slice A len c] 24)) wr)) (fun b _ => len - (intOf b).toNat)
      case atStart => exact ⟨0, Nat.zero_le _, rfl, Lib.hid (by rw [List.drop_zero, HRES.out]), Lib.hid (Below.refl _ _)⟩
      case round =>
        obtain ⟨i, hi, rfl, HK, HB⟩ := hrel
        obtain ⟨p0, p1, p2, p3, p4, p5⟩ := HBX.out.below HB.out
        by_cases hlt : i < len
        · obtain ⟨y, hy⟩ : ∃ y, l[i]? = some y := ⟨_, List.getElem?_eq_getElem (by rw [← HLEN.out]; exact hlt)⟩
          have hdr := rightL_drop (m := m - 1) hy
          obtain ⟨b, off, uy, rfl, hw⟩ := HA.out i y hy
          have hBw := HB0.out.trans (HB.out.mono HB0.out.size)
          obtain ⟨⟨c0, c1, c2, c3, c4, c5⟩, hN⟩ := hw _ hBw
          have hcall := HIH.out i y hy (m - 1) _ _ (by omega) hN
          unfold nodeV at hcall
          rw [HK.out] at hdr
          cases hr : rightF y (m - 1) with
          | true =>
            rw [hr, Bool.true_and] at hdr
            rw [hr] at hcall
            have HNEW := Lib.hid hdr.symm
            have HCALL := Lib.hid hcall
            clear hy hdr hw hBw hN hcall hr HK
            go_wp2_with fail
            go_at_call 5
            with_reducible refine HCALL.out.mono ?_
            rintro e w1 ⟨rfl, hb1⟩
            go_wp2_with fail
            go_roundw
            case rel => exact ⟨i + 1, by omega, by go_num, HNEW, Lib.hid (HB.out.trans (hb1.mono HB.out.size))⟩
            case measure => simp [intOf]; omega
          | false =>
            rw [hr, Bool.false_and] at hdr
            rw [hr] at hcall
            subst hdr
            have HCALL := Lib.hid hcall
            clear hy hw hBw hN hcall hr HK
            go_wp2_with fail
            go_at_call 5
            with_reducible refine HCALL.out.mono ?_
            rintro e w1 ⟨rfl, hb1⟩
            go_wp2_with fail
            go_ret
            exact ⟨rfl, HB0.out.trans ((HB.out.trans (hb1.mono HB.out.size)).mono HB0.out.size)⟩
        · obtain rfl : i = len := by omega
          have hfin : res = true := by
            rw [← HK.out, HLEN.out, List.drop_length]
            unfold rightL
            rfl
          subst hfin
          have hB := HB0.out.trans (HB.out.mono HB0.out.size)
          clear HK HLEN
          go_wp2_with fail
          go_ret
          exact ⟨rfl, hB⟩
    · have q1 : ((len : Int) == 1) = false := beq_eq_false_iff_ne.2 (by omega)
      have q2 : ((len : Int) != 1) = true := by simp [bne, q1]
      rw [show nodeOk 5 n s len = false from by unfold nodeOk; simp [hl], Bool.false_and]
      clear hl
      have HB0 := Lib.hid (below_alloc w (.cells #[.int .i64 5, .int .i64 n, .string ⟨s.toArray⟩, .int .i64 f, .int .i64 t, .slice A len c] 24))
      have HBX := Lib.hid (box6v w rfl 5 n s f t (.slice A len c) 24)
      obtain ⟨p0, p1, p2, p3, p4, p5⟩ := HBX.out
      go_enter Tryz.func5, Tryz.ntmps5
      go_wp2_with fail
      go_ret
      exact ⟨by first | rfl | (simp; omega), HB0.out⟩
  · by_cases hl : len = 2
    · have q1 : ((len : Int) == 2) = true := beq_iff_eq.2 (by omega)
      have q2 : ((len : Int) != 2) = false := by simp [bne, q1]
      obtain ⟨lv, hlvv⟩ : ∃ lv, lv = levelF s := ⟨_, rfl⟩
      rw [← hlvv] at hlv HLV
      by_cases hz : lv = 0
      · subst hz
        rw [show nodeOk 6 n s len = false from by unfold nodeOk; simp [← hlvv], Bool.false_and]
        clear hlvv hl
        have HB0 := Lib.hid (below_alloc w (.cells #[.int .i64 6, .int .i64 n, .string ⟨s.toArray⟩, .int .i64 f, .int .i64 t, .slice A len c] 24))
        have HBX := Lib.hid (box6v w rfl 6 n s f t (.slice A len c) 24)
        obtain ⟨p0, p1, p2, p3, p4, p5⟩ := HBX.out
        go_enter Tryz.func5, Tryz.ntmps5
        go_wp2_with fail
        go_at_call 14
        with_reducible refine (HLV.out _).mono ?_
        rintro e w1 ⟨rfl, hb1⟩
        have HB1 := Lib.hid hb1
        clear hb1 p0 p1 p2 p3 p4 p5
        obtain ⟨p0, p1, p2, p3, p4, p5⟩ := HBX.out.below HB1.out
        go_wp2_with fail
        go_ret
        exact ⟨rfl, HB0.out.trans (HB1.out.mono HB0.out.size)⟩
      · rw [show nodeOk 6 n s len = true from by unfold nodeOk; simp [← hlvv, hl, hz], Bool.true_and]
        obtain ⟨res, hres⟩ : ∃ r, r = rightL l (m - 1) := ⟨_, rfl⟩
        rw [← hres]
        have HRES := Lib.hid hres
        have z1 : ((lv : Int) == 0) = false := beq_eq_false_iff_ne.2 (by omega)
        clear hres hl hz hlvv
        have HB0 := Lib.hid (below_alloc w (.cells #[.int .i64 6, .int .i64 n, .string ⟨s.toArray⟩, .int .i64 f, .int .i64 t, .slice A len c] 24))
        have HBX := Lib.hid (box6v w rfl 6 n s f t (.slice A len c) 24)
        obtain ⟨p0, p1, p2, p3, p4, p5⟩ := HBX.out
        go_enter Tryz.func5, Tryz.ntmps5
        go_wp2_with fail
        go_at_call 14
        with_reducible refine (HLV.out _).mono ?_
        rintro e w1 ⟨rfl, hb1⟩
        have HB1 := Lib.hid hb1
        clear hb1 p0 p1 p2 p3 p4 p5
        obtain ⟨p0, p1, p2, p3, p4, p5⟩ := HBX.out.below HB1.out
        go_wp2_with fail
        clear p0 p1 p2 p3 p4 p5
        go_loopw [6] (fun b wr => ∃ i : Nat, i ≤ len ∧ b = .int .i64 (i : Int) ∧ Hid (rightL (l.drop i) (m - 1) = res) ∧ Hid (Below (w.alloc (.cells #[.int .i64 6, .int .i64 n, .string ⟨s.toArray⟩, .int .i64 f, .int .i64 t, .slice A len c] 24)).heap.size (w.alloc (.cells #[.int .i64 6, .int .i64 n, .string ⟨s.toArray⟩, .int .i64 f, .int .i64 t, .slice A len c] 24)) wr)) (fun b _ => len - (intOf b).toNat)
        case atStart => exact ⟨0, Nat.zero_le _, rfl, Lib.hid (by rw [List.drop_zero, HRES.out]), Lib.hid HB1.out⟩
        case round =>
          obtain ⟨i, hi, rfl, HK, HB⟩ := hrel
          obtain ⟨p0, p1, p2, p3, p4, p5⟩ := HBX.out.below HB.out
          by_cases hlt : i < len
          · obtain ⟨y, hy⟩ : ∃ y, l[i]? = some y := ⟨_, List.getElem?_eq_getElem (by rw [← HLEN.out]; exact hlt)⟩
            have hdr := rightL_drop (m := m - 1) hy
            obtain ⟨b, off, uy, rfl, hw⟩ := HA.out i y hy
            have hBw := HB0.out.trans (HB.out.mono HB0.out.size)
            obtain ⟨⟨c0, c1, c2, c3, c4, c5⟩, hN⟩ := hw _ hBw
            have hcall := HIH.out i y hy (m - 1) _ _ (by omega) hN
            unfold nodeV at hcall
            rw [HK.out] at hdr
            cases hr : rightF y (m - 1) with
            | true =>
              rw [hr, Bool.true_and] at hdr
              rw [hr] at hcall
              have HNEW := Lib.hid hdr.symm
              have HCALL := Lib.hid hcall
              clear hy hdr hw hBw hN hcall hr HK
              go_wp2_with fail
              go_at_call 5
              with_reducible refine HCALL.out.mono ?_
              rintro e w1 ⟨rfl, hb1⟩
              go_wp2_with fail
              go_roundw
              case rel => exact ⟨i + 1, by omega, by go_num, HNEW, Lib.hid (HB.out.trans (hb1.mono HB.out.size))⟩
              case measure => simp [intOf]; omega
            | false =>
              rw [hr, Bool.false_and] at hdr
              rw [hr] at hcall
              subst hdr
              have HCALL := Lib.hid hcall
              clear hy hw hBw hN hcall hr HK
              go_wp2_with fail
              go_at_call 5
              with_reducible refine HCALL.out.mono ?_
              rintro e w1 ⟨rfl, hb1⟩
              go_wp2_with fail
              go_ret
              exact ⟨rfl, HB0.out.trans ((HB.out.trans (hb1.mono HB.out.size)).mono HB0.out.size)⟩
          · obtain rfl : i = len := by omega
            have hfin : res = true := by
              rw [← HK.out, HLEN.out, List.drop_length]
              unfold rightL
              rfl
            subst hfin
            have hB := HB0.out.trans (HB.out.mono HB0.out.size)
            clear HK HLEN
            go_wp2_with fail
            go_ret
            exact ⟨rfl, hB⟩
    · have q1 : ((len : Int) == 2) = false := beq_eq_false_iff_ne.2 (by omega)
      have q2 : ((len : Int) != 2) = true := by simp [bne, q1]
      rw [show nodeOk 6 n s len = false from by unfold nodeOk; simp [hl], Bool.false_and]
      clear hl
      have HB0 := Lib.hid (below_alloc w (.cells #[.int .i64 6, .int .i64 n, .string ⟨s.toArray⟩, .int .i64 f, .int .i64 t, .slice A len c] 24))
      have HBX := Lib.hid (box6v w rfl 6 n s f t (.slice A len c) 24)
      obtain ⟨p0, p1, p2, p3, p4, p5⟩ := HBX.out
      go_enter Tryz.func5, Tryz.ntmps5
      go_wp2_with fail
      go_ret
      exact ⟨by first | rfl | (simp; omega), HB0.out⟩
  · by_cases hl : len ≤ 16
    · have q1 : (len : Int) ≤ 16 := by omega
      cases hz : nameF s with
      | false =>
        rw [hz] at HNM
        rw [show nodeOk 7 n s len = false from by unfold nodeOk; simp [hz], Bool.false_and]
        clear hz hl
        have HB0 := Lib.hid (below_alloc w (.cells #[.int .i64 7, .int .i64 n, .string ⟨s.toArray⟩, .int .i64 f, .int .i64 t, .slice A len c] 24))
        have HBX := Lib.hid (box6v w rfl 7 n s f t (.slice A len c) 24)
        obtain ⟨p0, p1, p2, p3, p4, p5⟩ := HBX.out
        go_enter Tryz.func5, Tryz.ntmps5
        go_wp2_with fail
        go_at_call 15
        with_reducible refine (HNM.out _).mono ?_
        rintro e w1 ⟨rfl, rfl⟩
        go_wp2_with fail
        go_ret
        exact ⟨rfl, HB0.out⟩
      | true =>
        rw [hz] at HNM
        rw [show nodeOk 7 n s len = true from by unfold nodeOk; simp [hz]; omega, Bool.true_and]
        obtain ⟨res, hres⟩ : ∃ r, r = rightL l (m - 1) := ⟨_, rfl⟩
        rw [← hres]
        have HRES := Lib.hid hres
        clear hres hl hz
        have HB0 := Lib.hid (below_alloc w (.cells #[.int .i64 7, .int .i64 n, .string ⟨s.toArray⟩, .int .i64 f, .int .i64 t, .slice A len c] 24))
        have HBX := Lib.hid (box6v w rfl 7 n s f t (.slice A len c) 24)
        obtain ⟨p0, p1, p2, p3, p4, p5⟩ := HBX.out
        go_enter Tryz.func5, Tryz.ntmps5
        go_wp2_with fail
        go_at_call 15
        with_reducible refine (HNM.out _).mono ?_
        rintro e w1 ⟨rfl, rfl⟩
        go_wp2_with fail
        clear p0 p1 p2 p3 p4 p5
        go_loopw [6] (fun b wr => ∃ i : Nat, i ≤ len ∧ b = .int .i64 (i : Int) ∧ Hid (rightL (l.drop i) (m - 1) = res) ∧ Hid (Below (w.alloc (.cells #[.int .i64 7, .int .i64 n, .string ⟨s.toArray⟩, .int .i64 f, .int .i64 t, .slice A len c] 24)).heap.size (w.alloc (.cells #[.int .i64 7, .int .i64 n, .string ⟨s.toArray⟩, .int .i64 f, .int .i64 t, .slice A len c] 24)) wr)) (fun b _ => len - (intOf b).toNat)
        case atStart => exact ⟨0, Nat.zero_le _, rfl, Lib.hid (by rw [List.drop_zero, HRES.out]), Lib.hid (Below.refl _ _)⟩
        case round =>
          obtain ⟨i, hi, rfl, HK, HB⟩ := hrel
          obtain ⟨p0, p1, p2, p3, p4, p5⟩ := HBX.out.below HB.out
          by_cases hlt : i < len
          · obtain ⟨y, hy⟩ : ∃ y, l[i]? = some y := ⟨_, List.getElem?_eq_getElem (by rw [← HLEN.out]; exact hlt)⟩
            have hdr := rightL_drop (m := m - 1) hy
            obtain ⟨b, off, uy, rfl, hw⟩ := HA.out i y hy
            have hBw := HB0.out.trans (HB.out.mono HB0.out.size)
            obtain ⟨⟨c0, c1, c2, c3, c4, c5⟩, hN⟩ := hw _ hBw
            have hcall := HIH.out i y hy (m - 1) _ _ (by omega) hN
            unfold nodeV at hcall
            rw [HK.out] at hdr
            cases hr : rightF y (m - 1) with
            | true =>
              rw [hr, Bool.true_and] at hdr
              rw [hr] at hcall
              have HNEW := Lib.hid hdr.symm
              have HCALL := Lib.hid hcall
              clear hy hdr hw hBw hN hcall hr HK
              go_wp2_with fail
              go_at_call 5
              with_reducible refine HCALL.out.mono ?_
              rintro e w1 ⟨rfl, hb1⟩
              go_wp2_with fail
              go_roundw
              case rel => exact ⟨i + 1, by omega, by go_num, HNEW, Lib.hid (HB.out.trans (hb1.mono HB.out.size))⟩
              case measure => simp [intOf]; omega
            | false =>
              rw [hr, Bool.false_and] at hdr
              rw [hr] at hcall
              subst hdr
              have HCALL := Lib.hid hcall
              clear hy hw hBw hN hcall hr HK
              go_wp2_with fail
              go_at_call 5
              with_reducible refine HCALL.out.mono ?_
              rintro e w1 ⟨rfl, hb1⟩
              go_wp2_with fail
              go_ret
              exact ⟨rfl, HB0.out.trans ((HB.out.trans (hb1.mono HB.out.size)).mono HB0.out.size)⟩
          · obtain rfl : i = len := by omega
            have hfin : res = true := by
              rw [← HK.out, HLEN.out, List.drop_length]
              unfold rightL
              rfl
            subst hfin
            have hB := HB0.out.trans (HB.out.mono HB0.out.size)
            clear HK HLEN
            go_wp2_with fail
            go_ret
            exact ⟨rfl, hB⟩
    · have q1 : (16 : Int) < (len : Int) := by omega
      rw [show nodeOk 7 n s len = false from by unfold nodeOk; simp; omega, Bool.false_and]
      clear hl
      have HB0 := Lib.hid (below_alloc w (.cells #[.int .i64 7, .int .i64 n, .string ⟨s.toArray⟩, .int .i64 f, .int .i64 t, .slice A len c] 24))
      have HBX := Lib.hid (box6v w rfl 7 n s f t (.slice A len c) 24)
      obtain ⟨p0, p1, p2, p3, p4, p5⟩ := HBX.out
      go_enter Tryz.func5, Tryz.ntmps5
      go_wp2_with fail
      go_ret
      exact ⟨by first | rfl | (simp; omega), HB0.out⟩
  · by_cases hl : len = 0
    · subst hl
      have hl0 : l = [] := List.eq_nil_of_length_eq_zero HLEN.out.symm
      subst hl0
      rw [show (nodeOk 8 n s 0 && rightL [] (m - 1)) = true from by unfold nodeOk rightL; simp]
      have HB0 := Lib.hid (below_alloc w (.cells #[.int .i64 8, .int .i64 n, .string ⟨s.toArray⟩, .int .i64 f, .int .i64 t, .slice A 0 c] 24))
      have HBX := Lib.hid (box6v w rfl 8 n s f t (.slice A 0 c) 24)
      obtain ⟨p0, p1, p2, p3, p4, p5⟩ := HBX.out
      go_enter Tryz.func5, Tryz.ntmps5
      go_wp2_with fail
      go_loop [6] (fun b => b = .int .i64 0) (fun _ => 0)
      case atStart => rfl
      case round =>
        subst hrel
        go_wp2_with fail
        go_ret
        exact ⟨rfl, HB0.out⟩
    · have q1 : ((len : Int) == 0) = false := beq_eq_false_iff_ne.2 (by omega)
      have q2 : ((len : Int) != 0) = true := by simp [bne, q1]
      rw [show nodeOk 8 n s len = false from by unfold nodeOk; simp [hl], Bool.false_and]
      clear hl
      have HB0 := Lib.hid (below_alloc w (.cells #[.int .i64 8, .int .i64 n, .string ⟨s.toArray⟩, .int .i64 f, .int .i64 t, .slice A len c] 24))
      have HBX := Lib.hid (box6v w rfl 8 n s f t (.slice A len c) 24)
      obtain ⟨p0, p1, p2, p3, p4, p5⟩ := HBX.out
      go_enter Tryz.func5, Tryz.ntmps5
      go_wp2_with fail
      go_ret
      exact ⟨by first | rfl | (simp; omega), HB0.out⟩
end Go.Proofs.YtlagjnlajkmmeaaGreatDoor
