/-
Package tree's own text: within, Right and Depth of a tree whose node has 6 cells, by contracts.
-/
import Derived.Test.YtlagjnlajkmmeaaDoorTqB
namespace Go.Proofs.YtlagjnlajkmmeaaDoor
open Go.RowKit

set_option maxRecDepth 20000 in
set_option maxHeartbeats 8000000 in
theorem pwithin_any (x : Tr) : ∀ (m : Int) (v : Value) (w : World), 0 ≤ m → m ≤ 1000 → EnvT w → RdN AnyB w x v →
    Calls Tryd.prog 26 #[v, .int .i64 m] w fun e w' => e = .returned (.bool (rightF x m)) ∧ Below w.heap.size w w' := by
  induction x using Tr.ind with
  | _ x ih =>
  intro m v w hm0 hm1 hE hv
  obtain ⟨k, n, s, f, t, l⟩ := x
  have hv0 := hv
  obtain ⟨hfit, u, rfl, hA⟩ := hv
  simp only [Tr.kind, Tr.num, Tr.text, Tr.a, Tr.b, Tr.args] at hfit hA ih hv0 ⊢
  obtain ⟨A, c, rfl⟩ := hA.named
  have hcap := hA.cap
  obtain ⟨len, hlen⟩ : ∃ len, len = l.length := ⟨_, rfl⟩
  rw [← hlen] at hA hcap hv0 ⊢
  have hlm : len ≤ 9223372036854775807 := by have := hcap.2; unfold maxLen at this; omega
  have HA := Lib.hid (fun (i : Nat) (y : Tr) (hy : l[i]? = some y) => part_s hA hy)
  have HIH := Lib.hid ih
  have HLEN := Lib.hid hlen
  have HE := Lib.hid hE
  obtain ⟨res, hres⟩ : ∃ r, r = rightF (.mk k n s f t l) m := ⟨_, rfl⟩
  rw [← hres]
  have HB0 := Lib.hid (below_alloc w (.cells #[.int .i64 k, .int .i64 n, .string ⟨s.toArray⟩, .int .i64 f, .int .i64 t, .slice A len c] 36))
  have HBX := Lib.hid (boxv w rfl k n s f t (.slice A len c) 36)
  have hfits := pfits_any (.mk k n s f t l) _ _ (HE.out.below HB0.out) (hv0.below HB0.out)
  simp only [Tr.kind, Tr.num, Tr.text, Tr.a, Tr.b, Tr.args] at hfits
  rw [← hlen] at hfits
  clear hA hcap ih hlen hfit hE hv0
  unfold nodeV at hfits ⊢
  obtain ⟨p0, p1, p2, p3, p4, p5⟩ := HBX.out
  obtain ⟨sb, hsb⟩ : ∃ sb : ByteArray, sb = ⟨s.toArray⟩ := ⟨_, rfl⟩
  by_cases hm : m = 0
  · subst hm
    obtain rfl : res = false := by rw [hres]; exact rightF_zero _
    clear hres hsb hfits
    generalize (⟨s.toArray⟩ : ByteArray) = sb at *
    go_enter Tryd.func26, Tryd.ntmps26
    go_wp2_with fail
    go_ret
    exact ⟨rfl, HB0.out⟩
  have hm2 : 1 ≤ m := by omega
  have z0 : (m == 0) = false := beq_eq_false_iff_ne.2 hm
  have hres2 : res = (nodeOk k n s len && rightL l (m - 1)) := by rw [hres, rightF_pos _ _ hm2]; simp only [Tr.kind, Tr.num, Tr.text, Tr.args, HLEN.out]
  clear hm hres
  cases hok : nodeOk k n s len with
  | false =>
    rw [hok] at hfits
    obtain rfl : res = false := by rw [hres2, hok]; rfl
    have HFI := Lib.hid hfits
    clear hres2 hsb hfits hok
    generalize (⟨s.toArray⟩ : ByteArray) = sb at *
    go_enter Tryd.func26, Tryd.ntmps26
    go_wp2_with fail
    go_at_call 35
    with_reducible refine (HFI.out).mono ?_
    rintro e w1 ⟨rfl, hb1⟩
    have HB1 := Lib.hid (HB0.out.trans (hb1.mono HB0.out.size))
    clear hb1
    go_wp2_with fail
    go_ret
    exact ⟨rfl, HB1.out⟩
  | true =>
    rw [hok] at hfits
    have hres3 : rightL l (m - 1) = res := by rw [hres2, hok]; rfl
    have HRES := Lib.hid hres3
    have HFI := Lib.hid hfits
    clear hres2 hres3 hsb hfits hok
    generalize (⟨s.toArray⟩ : ByteArray) = sb at *
    go_enter Tryd.func26, Tryd.ntmps26
    go_wp2_with fail
    go_at_call 35
    with_reducible refine (HFI.out).mono ?_
    rintro e w1 ⟨rfl, hb1⟩
    have HX := Lib.hid (HBX.out.below hb1)
    have HB1 := Lib.hid (HB0.out.trans (hb1.mono HB0.out.size))
    clear hb1 p0 p1 p2 p3 p4 p5
    obtain ⟨p0, p1, p2, p3, p4, p5⟩ := HX.out
    go_wp2_with fail
    clear p5
    go_loopw [17] (fun b wr => ∃ i : Nat, i ≤ len ∧ b = .int .i64 (i : Int) ∧ Hid (rightL (l.drop i) (m - 1) = res) ∧ Hid (Below w1.heap.size w1 wr)) (fun b _ => len - (intOf b).toNat)
    case atStart => exact ⟨0, Nat.zero_le _, rfl, Lib.hid (by rw [List.drop_zero]; exact HRES.out), Lib.hid (Below.refl _ _)⟩
    case round =>
      obtain ⟨i, hi, rfl, HK, HB⟩ := hrel
      by_cases hlt : i < len
      · obtain ⟨y, hy⟩ : ∃ y, l[i]? = some y := ⟨_, List.getElem?_eq_getElem (by rw [← HLEN.out]; exact hlt)⟩
        have hdr := rightL_drop (m := m - 1) hy
        obtain ⟨b1, off1, Ay, ny, cy, rfl, hw1⟩ := HA.out i y hy
        have hBw := HB1.out.trans (HB.out.mono HB1.out.size)
        have hBx := HB.out.trans ((below_alloc wr (.cells #[.int .i64 y.kind, .int .i64 y.num, .string ⟨y.text.toArray⟩, .int .i64 y.a, .int .i64 y.b, .slice Ay ny cy] 36)).mono HB.out.size)
        have HBX2 := Lib.hid hBx
        obtain ⟨⟨c0, c1, c2, c3, c4, c5⟩, _⟩ := hw1 wr hBw
        have HBY := Lib.hid (box6 wr rfl y (.slice Ay ny cy) 36)
        have hN := (hw1 _ (HB1.out.trans (hBx.mono HB1.out.size))).2
        have HCALL := Lib.hid (HIH.out i y hy (m - 1) _ _ (by omega) (by omega) (HE.out.below (HB1.out.trans (hBx.mono HB1.out.size))) hN)
        rw [HK.out] at hdr
        have HDR := Lib.hid hdr
        unfold nodeV at HCALL
        clear hw1 hBw hBx hN hy hdr HK
        cases hr : rightF y (m - 1) with
        | true =>
          rw [hr] at HCALL HDR
          go_wp2_with fail
          go_at_call 26
          with_reducible refine (HCALL.out).mono ?_
          rintro e w2 ⟨rfl, hb2⟩
          have HB2 := Lib.hid (HBX2.out.trans (hb2.mono HBX2.out.size))
          clear hb2
          go_wp2_with fail
          go_roundw
          case rel => exact ⟨i + 1, by omega, by go_num, Lib.hid (by rw [HDR.out, Bool.true_and]), HB2⟩
          case measure => simp [intOf]; omega
        | false =>
          rw [hr] at HCALL HDR
          obtain rfl : res = false := by rw [HDR.out]; rfl
          clear HDR HRES
          go_wp2_with fail
          go_at_call 26
          with_reducible refine (HCALL.out).mono ?_
          rintro e w2 ⟨rfl, hb2⟩
          have HB2 := Lib.hid (HBX2.out.trans (hb2.mono HBX2.out.size))
          clear hb2
          go_wp2_with fail
          go_ret
          exact ⟨rfl, HB1.out.trans (HB2.out.mono HB1.out.size)⟩
      · obtain rfl : i = len := by omega
        have hfin : res = true := by
          rw [← HK.out]
          conv => lhs; arg 1; rw [HLEN.out, List.drop_length]
          unfold rightL
          rfl
        subst hfin
        have hB := HB1.out.trans (HB.out.mono HB1.out.size)
        clear HK HLEN
        go_wp2_with fail
        go_ret
        exact ⟨rfl, hB⟩

set_option maxRecDepth 20000 in
theorem pright_any (x : Tr) (v : Value) (w : World) (hE : EnvT w) (hv : RdN AnyB w x v) :
    Calls Tryd.prog 13 #[v] w fun e w' => e = .returned (.bool (rightF x 64)) ∧ Below w.heap.size w w' := by
  obtain ⟨k, n, s, f, t, l⟩ := x
  have hv0 := hv
  obtain ⟨hfit, u, rfl, hA⟩ := hv
  simp only [Tr.kind, Tr.num, Tr.text, Tr.a, Tr.b, Tr.args] at hfit hA hv0
  obtain ⟨A, c, rfl⟩ := hA.named
  obtain ⟨len, hlen⟩ : ∃ len, len = l.length := ⟨_, rfl⟩
  rw [← hlen] at hv0
  simp only [Tr.kind, Tr.num, Tr.text, Tr.a, Tr.b, Tr.args]
  rw [← hlen]
  have HB0 := Lib.hid (below_alloc w (.cells #[.int .i64 k, .int .i64 n, .string ⟨s.toArray⟩, .int .i64 f, .int .i64 t, .slice A len c] 36))
  have HBX := Lib.hid (boxv w rfl k n s f t (.slice A len c) 36)
  have HCALL := Lib.hid (pwithin_any (.mk k n s f t l) 64 _ _ (by omega) (by omega) (hE.below HB0.out) (hv0.below HB0.out))
  obtain ⟨res, hres⟩ : ∃ r, r = rightF (.mk k n s f t l) 64 := ⟨_, rfl⟩
  rw [← hres] at HCALL ⊢
  clear hA hlen hfit hE hv0 hres
  unfold nodeV at HCALL ⊢
  obtain ⟨p0, p1, p2, p3, p4, p5⟩ := HBX.out
  generalize (⟨s.toArray⟩ : ByteArray) = sb at *
  go_enter Tryd.func13, Tryd.ntmps13
  go_wp2_with fail
  go_at_call 26
  with_reducible refine (HCALL.out).mono ?_
  rintro e w2 ⟨rfl, hb2⟩
  have HB2 := Lib.hid (HB0.out.trans (hb2.mono HB0.out.size))
  clear hb2
  go_wp2_with fail
  go_ret
  exact ⟨rfl, HB2.out⟩

theorem depthL_cons (y : Tr) (l : List Tr) (d : Nat) : depthL (y :: l) d = depthL l (max d (depthF y)) := by conv => lhs; unfold depthL
set_option maxRecDepth 20000 in
set_option maxHeartbeats 8000000 in
theorem pdepth_any (x : Tr) : ∀ (v : Value) (w : World), nodes x ≤ 1000000 → RdN AnyB w x v →
    Calls Tryd.prog 16 #[v] w fun e w' => e = .returned (.int .i64 (depthF x : Nat)) ∧ Below w.heap.size w w' := by
  induction x using Tr.ind with
  | _ x ih =>
  intro v w hn hv
  obtain ⟨k, n, s, f, t, l⟩ := x
  have hv0 := hv
  obtain ⟨hfit, u, rfl, hA⟩ := hv
  simp only [Tr.kind, Tr.num, Tr.text, Tr.a, Tr.b, Tr.args] at hfit hA ih hv0 ⊢
  obtain ⟨A, c, rfl⟩ := hA.named
  have hcap := hA.cap
  obtain ⟨len, hlen⟩ : ∃ len, len = l.length := ⟨_, rfl⟩
  rw [← hlen] at hA hcap hv0 ⊢
  have hlm : len ≤ 9223372036854775807 := by have := hcap.2; unfold maxLen at this; omega
  have HA := Lib.hid (fun (i : Nat) (y : Tr) (hy : l[i]? = some y) => part_s hA hy)
  have HIH := Lib.hid ih
  have HLEN := Lib.hid hlen
  obtain ⟨res, hres⟩ : ∃ r, r = depthL l 0 := ⟨_, rfl⟩
  have e0 : depthF (.mk k n s f t l) = res + 1 := by rw [depthF_eq, hres]; rfl
  rw [e0]
  have HRES := Lib.hid hres
  have hrb : res ≤ 1000000 := by have := depth_nodes (.mk k n s f t l); omega
  have HND := Lib.hid (fun (i : Nat) (y : Tr) (hy : l[i]? = some y) => (show nodes y ≤ 1000000 from by have := Tr.part (x := .mk k n s f t l) hy; omega))
  have HB0 := Lib.hid (below_alloc w (.cells #[.int .i64 k, .int .i64 n, .string ⟨s.toArray⟩, .int .i64 f, .int .i64 t, .slice A len c] 36))
  have HBX := Lib.hid (boxv w rfl k n s f t (.slice A len c) 36)
  clear hA hcap ih hlen hfit hv0 hres e0 hn
  unfold nodeV
  obtain ⟨p0, p1, p2, p3, p4, p5⟩ := HBX.out
  generalize (⟨s.toArray⟩ : ByteArray) = sb at *
  go_enter Tryd.func16, Tryd.ntmps16
  go_wp2_with fail
  clear p5
  go_loopw [3, 9] (fun a b wr => ∃ (i d : Nat), i ≤ len ∧ d ≤ res ∧ a = .int .i64 (d : Int) ∧ b = .int .i64 (i : Int) ∧ Hid (depthL (l.drop i) d = res) ∧ Hid (Below (w.alloc (.cells #[.int .i64 k, .int .i64 n, .string sb, .int .i64 f, .int .i64 t, .slice A len c] 36)).heap.size (w.alloc (.cells #[.int .i64 k, .int .i64 n, .string sb, .int .i64 f, .int .i64 t, .slice A len c] 36)) wr)) (fun _ b _ => len - (intOf b).toNat)
  case atStart => exact ⟨0, 0, Nat.zero_le _, Nat.zero_le _, rfl, rfl, Lib.hid (by rw [List.drop_zero]; exact HRES.out.symm), Lib.hid (Below.refl _ _)⟩
  case round =>
    obtain ⟨i, d, hi, hd, rfl, rfl, HK, HB⟩ := hrel
    by_cases hlt : i < len
    · obtain ⟨y, hy⟩ : ∃ y, l[i]? = some y := ⟨_, List.getElem?_eq_getElem (by rw [← HLEN.out]; exact hlt)⟩
      have hdr : depthL (l.drop (i + 1)) (max d (depthF y)) = res := by rw [← HK.out, drop_at hy, depthL_cons]
      obtain ⟨b1, off1, Ay, ny, cy, rfl, hw1⟩ := HA.out i y hy
      have hBw := HB0.out.trans (HB.out.mono HB0.out.size)
      have hBx := HB.out.trans ((below_alloc wr (.cells #[.int .i64 y.kind, .int .i64 y.num, .string ⟨y.text.toArray⟩, .int .i64 y.a, .int .i64 y.b, .slice Ay ny cy] 36)).mono HB.out.size)
      have HBX2 := Lib.hid hBx
      obtain ⟨⟨c0, c1, c2, c3, c4, c5⟩, _⟩ := hw1 wr hBw
      have HBY := Lib.hid (box6 wr rfl y (.slice Ay ny cy) 36)
      have hN := (hw1 _ (HB0.out.trans (hBx.mono HB0.out.size))).2
      have HCALL := Lib.hid (HIH.out i y hy _ _ (HND.out i y hy) hN)
      have hle := (depthL_ge (l.drop (i + 1)) (max d (depthF y))).1
      rw [hdr] at hle
      have HDR := Lib.hid hdr
      obtain ⟨z, hz⟩ : ∃ z, z = depthF y := ⟨_, rfl⟩
      rw [← hz] at HCALL HDR hle
      unfold nodeV at HCALL
      clear hw1 hBw hBx hN hy hdr HK hz
      have hzr : z ≤ res := Nat.le_trans (Nat.le_max_right _ _) hle
      clear hle
      rcases Nat.lt_trichotomy d z with hlt2 | rfl | hlt2
      · have q : (d : Int) < (z : Int) := by omega
        have HMX := Lib.hid (show max d z = z from by omega)
        go_wp2_with fail
        go_at_call 16
        with_reducible refine (HCALL.out).mono ?_
        rintro e w2 ⟨rfl, hb2⟩
        have HB2 := Lib.hid (HBX2.out.trans (hb2.mono HBX2.out.size))
        clear hb2
        go_wp2_with fail
        go_roundw
        case rel => exact ⟨i + 1, z, by omega, by omega, (by first | rfl | (congr 1; omega)), by go_num, Lib.hid (by rw [← HMX.out]; exact HDR.out), HB2⟩
        case measure => simp [intOf]; omega
      · have HMX := Lib.hid (show max d d = d from by omega)
        go_wp2_with fail
        go_at_call 16
        with_reducible refine (HCALL.out).mono ?_
        rintro e w2 ⟨rfl, hb2⟩
        have HB2 := Lib.hid (HBX2.out.trans (hb2.mono HBX2.out.size))
        clear hb2
        go_wp2_with fail
        go_roundw
        case rel => exact ⟨i + 1, d, by omega, by omega, (by first | rfl | (congr 1; omega)), by go_num, Lib.hid (by rw [← HMX.out]; exact HDR.out), HB2⟩
        case measure => simp [intOf]; omega
      · have q : (z : Int) < (d : Int) := by omega
        have HMX := Lib.hid (show max d z = d from by omega)
        go_wp2_with fail
        go_at_call 16
        with_reducible refine (HCALL.out).mono ?_
        rintro e w2 ⟨rfl, hb2⟩
        have HB2 := Lib.hid (HBX2.out.trans (hb2.mono HBX2.out.size))
        clear hb2
        go_wp2_with fail
        go_roundw
        case rel => exact ⟨i + 1, d, by omega, by omega, (by first | rfl | (congr 1; omega)), by go_num, Lib.hid (by rw [← HMX.out]; exact HDR.out), HB2⟩
        case measure => simp [intOf]; omega
    · obtain rfl : i = len := by omega
      have hfin : d = res := by
        rw [← HK.out]
        conv => rhs; arg 1; rw [HLEN.out, List.drop_length]
        unfold depthL
        rfl
      subst hfin
      have hB := HB0.out.trans (HB.out.mono HB0.out.size)
      clear HK HLEN HRES
      go_wp2_with fail
      go_ret
      exact ⟨by first | rfl | go_num, hB⟩
end Go.Proofs.YtlagjnlajkmmeaaDoor
