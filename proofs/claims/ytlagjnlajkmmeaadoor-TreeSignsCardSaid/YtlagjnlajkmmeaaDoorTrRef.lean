/-
The reference of stage 9: Size and Depth; the law's light: by contracts.
-/
import Derived.Test.YtlagjnlajkmmeaaDoorTrM
namespace Go.Proofs.YtlagjnlajkmmeaaDoor
open Go.RowKit

abbrev AnyB : Nat → Prop := fun _ => True
/-- The box of a tree. -/
abbrev boxN (x : Tr) (u : Value) (T : TypeId) : Obj := .cells #[.int .i64 x.kind, .int .i64 x.num, .string ⟨x.text.toArray⟩, .int .i64 x.a, .int .i64 x.b, u] T
theorem box6 (w : World) {g : Nat} (hg : g = w.heap.size) (x : Tr) (u : Value) (T : TypeId) : At6 (w.alloc (boxN x u T)) g 0 x.kind x.num x.text x.a x.b u := by
  have h1 : (w.alloc (boxN x u T)).heap[g]? = some (.cells #[.int .i64 x.kind, .int .i64 x.num, .string ⟨x.text.toArray⟩, .int .i64 x.a, .int .i64 x.b, u] T (0, 0)) := heap_new hg
  exact ⟨by rw [cell_of_row _ _ 0 _ _ _ h1]; rfl, by rw [cell_of_row _ _ 1 _ _ _ h1]; rfl, by rw [cell_of_row _ _ 2 _ _ _ h1]; rfl, by rw [cell_of_row _ _ 3 _ _ _ h1]; rfl, by rw [cell_of_row _ _ 4 _ _ _ h1]; rfl, by rw [cell_of_row _ _ 5 _ _ _ h1]; rfl⟩
theorem At6.below {w w' : World} {b off : Nat} {k n : Int} {s : List UInt8} {f t : Int} {v : Value} (h : At6 w b off k n s f t v) (hb : Below w.heap.size w w') : At6 w' b off k n s f t v :=
  h.keep (hb.block b (World.block_lt_of_cell? _ _ h.1))
/-- Part i of a slice of parts, in a later world. -/
theorem part_at {w : World} {A : Option Addr} {n c i : Nat} {l : List Tr} {y : Tr} (h : RdA AnyB w l (.slice A n c)) (hy : l[i]? = some y) :
    ∃ b off u, A = some ⟨b, off, none⟩ ∧ ∀ w', Below w.heap.size w w' → At6 w' b (off + i * 6) y.kind y.num y.text y.a y.b u ∧ RdN AnyB w' y (nodeV y.kind y.num y.text y.a y.b u) := by
  obtain ⟨b, off, rfl, hlt, hf, u, h6, hA⟩ := h.at_ hy
  exact ⟨b, off, u, rfl, fun w' hw => ⟨h6.below hw, hf, u, rfl, hA.below hw⟩⟩

set_option maxRecDepth 20000 in
set_option maxHeartbeats 2000000 in
theorem rsize_any (x : Tr) : ∀ (m : Int) (v : Value) (w : World), 0 ≤ m → m ≤ 1000000 → RdN AnyB w x v →
    Calls Tryd.prog 25 #[v, .int .i64 m] w fun e w' => e = .returned (.int .i64 (sizeF x m)) ∧ Below w.heap.size w w' := by
  induction x using Tr.ind with
  | _ x ih =>
  intro m v w hm0 hm1 hv
  obtain ⟨hfit, u, rfl, hA⟩ := hv
  obtain ⟨A, c, rfl⟩ := hA.named
  have hcap := hA.cap
  obtain ⟨len, hlen⟩ : ∃ len, len = x.args.length := ⟨_, rfl⟩
  rw [← hlen] at hA hcap ⊢
  have hlm : len ≤ 9223372036854775807 := by have := hcap.2; unfold maxLen at this; omega
  have HB0 := Lib.hid (below_alloc w (boxN x (.slice A len c) 30))
  have HBX := Lib.hid (box6 w rfl x (.slice A len c) 30)
  have HA := Lib.hid (fun (i : Nat) (y : Tr) (hy : x.args[i]? = some y) => part_at hA hy)
  have HIH := Lib.hid ih
  obtain ⟨res, hres⟩ : ∃ r, r = sizeF x m := ⟨_, rfl⟩
  rw [← hres]
  have HRES := Lib.hid (show sizeL x.args m 1 = res from by rw [hres, sizeF_eq])
  have HLEN := Lib.hid hlen
  unfold nodeV
  obtain ⟨_, _, _, _, _, p5⟩ := HBX.out
  clear hA hcap ih hres hlen hfit
  go_enter Tryd.func25, Tryd.ntmps25
  go_wp2
  clear p5
  go_loopw [5, 6] (fun a b wr => ∃ (i : Nat) (k : Int), i ≤ len ∧ a = .int .i64 k ∧ b = .int .i64 (i : Int) ∧ 1 ≤ k ∧ k ≤ m + 1 ∧ Hid (sizeL (x.args.drop i) m k = res) ∧ Hid (Below (w.alloc (boxN x (.slice A len c) 30)).heap.size (w.alloc (boxN x (.slice A len c) 30)) wr)) (fun _ b _ => len - (intOf b).toNat)
  case atStart => exact ⟨0, 1, Nat.zero_le _, rfl, rfl, by omega, by omega, Lib.hid (by rw [List.drop_zero]; exact HRES.out), Lib.hid (Below.refl _ _)⟩
  case round =>
    obtain ⟨i, k, hi, rfl, rfl, hk1, hk2, HK, HB⟩ := hrel
    obtain ⟨_, _, _, _, _, p5⟩ := HBX.out.below HB.out
    by_cases hlt : i < len
    · obtain ⟨y, hy⟩ : ∃ y, x.args[i]? = some y := ⟨_, List.getElem?_eq_getElem (by rw [← HLEN.out]; exact hlt)⟩
      have hdr := drop_at hy
      by_cases hkm : k ≤ m
      · obtain ⟨b, off, uy, rfl, hw⟩ := HA.out i y hy
        have hBw := HB0.out.trans (HB.out.mono HB0.out.size)
        obtain ⟨⟨c0, c1, c2, c3, c4, c5⟩, hN⟩ := hw _ hBw
        have hsz := (size_mem y (m - k) (by omega)).1
        have hcall := HIH.out i y hy (m - k) _ _ (by omega) (by omega) hN
        unfold nodeV at hcall
        have hnew : sizeL (x.args.drop (i + 1)) m (k + sizeF y (m - k)) = res := by
          rw [← HK.out, hdr]
          conv => rhs; unfold sizeL
          rw [if_pos hkm]
        have HNEW := Lib.hid hnew
        have HCALL := Lib.hid hcall
        generalize sizeF y (m - k) = z at *
        clear hy hdr hw hBw hN hcall hnew HK
        go_wp2_with fail
        go_at_call 25
        with_reducible refine HCALL.out.mono ?_
        rintro e w1 ⟨rfl, hb1⟩
        go_wp2_with fail
        go_roundw
        case rel => exact ⟨i + 1, k + z, by omega, rfl, by go_num, by omega, by omega, HNEW, Lib.hid (HB.out.trans (hb1.mono HB.out.size))⟩
        case measure => simp [intOf]; omega
      · have hkm' : m < k := by omega
        have hd : decide (k ≤ m) = false := decide_eq_false hkm
        have hfin : k = res := by
          rw [← HK.out, hdr]
          unfold sizeL
          rw [if_neg hkm]
        subst hfin
        have hB := HB0.out.trans (HB.out.mono HB0.out.size)
        clear hkm HK hdr hy
        go_wp2_with fail
        go_ret
        exact ⟨rfl, hB⟩
    · obtain rfl : i = len := by omega
      have hfin : k = res := by
        rw [← HK.out, HLEN.out, List.drop_length]
        unfold sizeL
        rfl
      subst hfin
      have hB := HB0.out.trans (HB.out.mono HB0.out.size)
      clear HK HLEN
      go_wp2_with fail
      go_ret
      exact ⟨rfl, hB⟩

set_option maxRecDepth 20000 in
set_option maxHeartbeats 2000000 in
theorem rdepth_any (x : Tr) : ∀ (v : Value) (w : World), nodes x ≤ 1000000 → RdN AnyB w x v →
    Calls Tryd.prog 17 #[v] w fun e w' => e = .returned (.int .i64 (depthF x : Nat)) ∧ Below w.heap.size w w' := by
  induction x using Tr.ind with
  | _ x ih =>
  intro v w hn hv
  obtain ⟨hfit, u, rfl, hA⟩ := hv
  obtain ⟨A, c, rfl⟩ := hA.named
  obtain ⟨len, hlen⟩ : ∃ len, len = x.args.length := ⟨_, rfl⟩
  rw [← hlen] at hA ⊢
  have hlm : len ≤ 1000000 := by have h1 := nodesL_len x.args; have h2 := nodes_eq x; omega
  have HB0 := Lib.hid (below_alloc w (boxN x (.slice A len c) 30))
  have HBX := Lib.hid (box6 w rfl x (.slice A len c) 30)
  have HA := Lib.hid (fun (i : Nat) (y : Tr) (hy : x.args[i]? = some y) => part_at hA hy)
  have HIH := Lib.hid ih
  obtain ⟨res, hres⟩ : ∃ r, r = depthF x := ⟨_, rfl⟩
  rw [← hres]
  have hrb : res ≤ 1000000 := by have := depth_nodes x; omega
  have HRES := Lib.hid (show depthL x.args 0 + 1 = res from by rw [hres, depthF_eq])
  have HLEN := Lib.hid hlen
  have HND := Lib.hid (fun (i : Nat) (y : Tr) (hy : x.args[i]? = some y) => (show nodes y ≤ 1000000 from by have := Tr.part hy; omega))
  unfold nodeV
  obtain ⟨_, _, _, _, _, p5⟩ := HBX.out
  clear hA ih hres hlen hfit hn
  go_enter Tryd.func17, Tryd.ntmps17
  go_wp2
  clear p5
  go_loopw [3, 4] (fun a b wr => ∃ (i d : Nat), i ≤ len ∧ a = .int .i64 (d : Int) ∧ b = .int .i64 (i : Int) ∧ d ≤ 1000000 ∧ Hid (depthL (x.args.drop i) d + 1 = res) ∧ Hid (Below (w.alloc (boxN x (.slice A len c) 30)).heap.size (w.alloc (boxN x (.slice A len c) 30)) wr)) (fun _ b _ => len - (intOf b).toNat)
  case atStart => exact ⟨0, 0, Nat.zero_le _, rfl, rfl, by omega, Lib.hid (by rw [List.drop_zero]; exact HRES.out), Lib.hid (Below.refl _ _)⟩
  case round =>
    obtain ⟨i, d, hi, rfl, rfl, hd, HK, HB⟩ := hrel
    obtain ⟨_, _, _, _, _, p5⟩ := HBX.out.below HB.out
    by_cases hlt : i < len
    · obtain ⟨y, hy⟩ : ∃ y, x.args[i]? = some y := ⟨_, List.getElem?_eq_getElem (by rw [← HLEN.out]; exact hlt)⟩
      have hdr := drop_at hy
      obtain ⟨b, off, uy, rfl, hw⟩ := HA.out i y hy
      have hBw := HB0.out.trans (HB.out.mono HB0.out.size)
      obtain ⟨⟨c0, c1, c2, c3, c4, c5⟩, hN⟩ := hw _ hBw
      have hny := HND.out i y hy
      have hcall := HIH.out i y hy _ _ hny hN
      unfold nodeV at hcall
      have hnew : depthL (x.args.drop (i + 1)) (max d (depthF y)) + 1 = res := by
        rw [← HK.out, hdr]
        conv => rhs; unfold depthL
      have hyb : depthF y ≤ 1000000 := by have := depth_nodes y; omega
      have HCALL := Lib.hid hcall
      generalize depthF y = z at *
      clear hy hdr hw hBw hN hcall HK hny
      by_cases hgt : d < z
      · rw [Nat.max_eq_right (Nat.le_of_lt hgt)] at hnew
        have HNEW := Lib.hid hnew
        clear hnew
        have hgz : (d : Int) < (z : Int) := by omega
        go_wp2_with fail
        go_at_call 17
        with_reducible refine HCALL.out.mono ?_
        rintro e w1 ⟨rfl, hb1⟩
        go_wp2_with fail
        go_roundw
        case rel => exact ⟨i + 1, z, by omega, rfl, by go_num, by omega, HNEW, Lib.hid (HB.out.trans (hb1.mono HB.out.size))⟩
        case measure => simp [intOf]; omega
      · have hge : z ≤ d := by omega
        rw [Nat.max_eq_left hge] at hnew
        have HNEW := Lib.hid hnew
        clear hnew hgt
        have hgz : (z : Int) ≤ (d : Int) := by omega
        go_wp2_with fail
        go_at_call 17
        with_reducible refine HCALL.out.mono ?_
        rintro e w1 ⟨rfl, hb1⟩
        go_wp2_with fail
        go_roundw
        case rel => exact ⟨i + 1, d, by omega, rfl, by go_num, by omega, HNEW, Lib.hid (HB.out.trans (hb1.mono HB.out.size))⟩
        case measure => simp [intOf]; omega
    · obtain rfl : i = len := by omega
      have hfin : d + 1 = res := by
        rw [← HK.out, HLEN.out, List.drop_length]
        unfold depthL
        rfl
      subst hfin
      have hB := HB0.out.trans (HB.out.mono HB0.out.size)
      clear HK HLEN HRES
      go_wp2_with fail
      go_ret
      exact ⟨by first | rfl | (congr 2), hB⟩

/-- Not too great for a statement. -/
def lightF (x : Tr) : Bool := decide (nodes x ≤ 200 ∧ depthF x ≤ 100 ∧ x.text.length ≤ 400)
set_option maxRecDepth 20000 in
set_option maxHeartbeats 2000000 in
theorem light_any (x : Tr) (v : Value) (w : World) (hv : RdN AnyB w x v) :
    Calls Tryd.prog 12 #[v] w fun e w' => e = .returned (.bool (lightF x)) ∧ Below w.heap.size w w' := by
  have hv0 := hv
  obtain ⟨hfit, u, rfl, hA⟩ := hv
  have HB0 := Lib.hid (below_alloc w (boxN x u 30))
  have HBX := Lib.hid (box6 w rfl x u 30)
  have HN := Lib.hid hv0
  have hs := size_mem x 200 (by omega)
  have HSZ := Lib.hid (rsize_any x 200 _ _ (by omega) (by omega) (hv0.below HB0.out))
  have HDP := Lib.hid (fun (hn : nodes x ≤ 1000000) W hW => rdepth_any x _ W hn (hv0.below (w' := W) hW))
  have htl : x.text.length ≤ 9223372036854775807 := by have := hfit.2.2.2.2; unfold maxLen at this; omega
  unfold nodeV at *
  obtain ⟨p0, p1, p2, p3, p4, p5⟩ := HBX.out
  unfold lightF
  clear hv0 hA hfit
  by_cases h1 : nodes x ≤ 200
  · have hz : sizeF x 200 ≤ 200 := by omega
    have hnd : nodes x ≤ 1000000 := by omega
    have HDQ := Lib.hid (HDP.out hnd)
    generalize sizeF x 200 = z at *
    clear hs HDP
    by_cases h2 : depthF x ≤ 100
    · by_cases h3 : x.text.length ≤ 400
      · rw [decide_eq_true ⟨h1, h2, h3⟩]
        have h2z : ((depthF x : Nat) : Int) ≤ 100 := by omega
        generalize depthF x = dz at *
        have h3z : (x.text.length : Int) ≤ 400 := by omega
        clear h1 h3
        go_enter Tryd.func12, Tryd.ntmps12
        go_wp2_with fail
        go_at_call 25
        with_reducible refine HSZ.out.mono ?_
        rintro e w1 ⟨rfl, hb1⟩
        have HB1 := Lib.hid hb1
        clear p0 p1 p2 p3 p4 p5 hb1
        obtain ⟨p0, p1, p2, p3, p4, p5⟩ := HBX.out.below HB1.out
        go_wp2_with fail
        go_at_call 17
        with_reducible refine (HDQ.out _ (HB0.out.trans (HB1.out.mono HB0.out.size))).mono ?_
        rintro e w2 ⟨rfl, hb2⟩
        have HB2 := Lib.hid (HB1.out.trans (hb2.mono HB1.out.size))
        clear p0 p1 p2 p3 p4 p5 hb2
        obtain ⟨p0, p1, p2, p3, p4, p5⟩ := HBX.out.below HB2.out
        go_wp2_with fail
        go_ret
        exact ⟨by first | rfl | (simp; exact h3z), HB0.out.trans (HB2.out.mono HB0.out.size)⟩
      · rw [decide_eq_false (by omega)]
        have h2z : ((depthF x : Nat) : Int) ≤ 100 := by omega
        generalize depthF x = dz at *
        have h3z : (400 : Int) < (x.text.length : Int) := by omega
        clear h1 h3
        go_enter Tryd.func12, Tryd.ntmps12
        go_wp2_with fail
        go_at_call 25
        with_reducible refine HSZ.out.mono ?_
        rintro e w1 ⟨rfl, hb1⟩
        have HB1 := Lib.hid hb1
        clear p0 p1 p2 p3 p4 p5 hb1
        obtain ⟨p0, p1, p2, p3, p4, p5⟩ := HBX.out.below HB1.out
        go_wp2_with fail
        go_at_call 17
        with_reducible refine (HDQ.out _ (HB0.out.trans (HB1.out.mono HB0.out.size))).mono ?_
        rintro e w2 ⟨rfl, hb2⟩
        have HB2 := Lib.hid (HB1.out.trans (hb2.mono HB1.out.size))
        clear p0 p1 p2 p3 p4 p5 hb2
        obtain ⟨p0, p1, p2, p3, p4, p5⟩ := HBX.out.below HB2.out
        go_wp2_with fail
        go_ret
        exact ⟨by first | rfl | (simp; exact h3z), HB0.out.trans (HB2.out.mono HB0.out.size)⟩
    · rw [decide_eq_false (by omega)]
      have h2z : (100 : Int) < ((depthF x : Nat) : Int) := by omega
      generalize depthF x = dz at *
      clear h1 h2
      go_enter Tryd.func12, Tryd.ntmps12
      go_wp2_with fail
      go_at_call 25
      with_reducible refine HSZ.out.mono ?_
      rintro e w1 ⟨rfl, hb1⟩
      have HB1 := Lib.hid hb1
      clear p0 p1 p2 p3 p4 p5 hb1
      obtain ⟨p0, p1, p2, p3, p4, p5⟩ := HBX.out.below HB1.out
      go_wp2_with fail
      go_at_call 17
      with_reducible refine (HDQ.out _ (HB0.out.trans (HB1.out.mono HB0.out.size))).mono ?_
      rintro e w2 ⟨rfl, hb2⟩
      go_wp2_with fail
      go_ret
      exact ⟨rfl, HB0.out.trans ((HB1.out.trans (hb2.mono HB1.out.size)).mono HB0.out.size)⟩
  · rw [decide_eq_false (by omega)]
    have hz : 200 < sizeF x 200 := by omega
    generalize sizeF x 200 = z at *
    clear hs HDP h1
    go_enter Tryd.func12, Tryd.ntmps12
    go_wp2_with fail
    go_at_call 25
    with_reducible refine HSZ.out.mono ?_
    rintro e w1 ⟨rfl, hb1⟩
    go_wp2_with fail
    go_ret
    exact ⟨rfl, HB0.out.trans (hb1.mono HB0.out.size)⟩
end Go.Proofs.YtlagjnlajkmmeaaDoor
