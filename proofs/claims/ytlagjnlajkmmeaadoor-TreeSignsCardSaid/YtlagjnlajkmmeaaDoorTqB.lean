/-
Package tree's own text: fits, within, Right, Depth and precedence of a tree whose node has 6 cells, by contracts.
-/
import Derived.Test.YtlagjnlajkmmeaaDoorTqA
import Derived.Test.YtlagjnlajkmmeaaDoorTqN
import Derived.Test.YtlagjnlajkmmeaaDoorTrRight
import Derived.Test.YtlagjnlajkmmeaaDoorBHeld
import Derived.Deep.QuietTactic
import Derived.BigQuiet
namespace Go.Proofs.YtlagjnlajkmmeaaDoor
open Go.RowKit

/-- The box of a node. -/
theorem boxv (w : World) {g : Nat} (hg : g = w.heap.size) (k n : Int) (s : List UInt8) (f t : Int) (u : Value) (T : TypeId) : At6 (w.alloc (.cells #[.int .i64 k, .int .i64 n, .string ⟨s.toArray⟩, .int .i64 f, .int .i64 t, u] T)) g 0 k n s f t u := box6 w hg (.mk k n s f t []) u T
/-- Part i of a slice of parts, its own parts' slice laid open. -/
theorem part_s {w : World} {A : Option Addr} {n c i : Nat} {l : List Tr} {y : Tr} (h : RdA AnyB w l (.slice A n c)) (hy : l[i]? = some y) :
    ∃ b off A' n' c', A = some ⟨b, off, none⟩ ∧ ∀ w', Below w.heap.size w w' → At6 w' b (off + i * 6) y.kind y.num y.text y.a y.b (.slice A' n' c') ∧ RdN AnyB w' y (nodeV y.kind y.num y.text y.a y.b (.slice A' n' c')) := by
  obtain ⟨b, off, rfl, hlt, hf, u, h6, hA⟩ := h.at_ hy
  obtain ⟨A', c', rfl⟩ := hA.named
  exact ⟨b, off, A', _, c', rfl, fun w' hw => ⟨h6.below hw, hf, _, rfl, hA.below hw⟩⟩

set_option maxRecDepth 20000 in
set_option maxHeartbeats 8000000 in
theorem pfits_any (x : Tr) (v : Value) (w : World) (hE : EnvT w) (hv : RdN AnyB w x v) :
    Calls Tryd.prog 35 #[v] w fun e w' => e = .returned (.bool (nodeOk x.kind x.num x.text x.args.length)) ∧ Below w.heap.size w w' := by
  obtain ⟨k, n, s, f, t, l⟩ := x
  obtain ⟨hfit, u, rfl, hA⟩ := hv
  simp only [Tr.kind, Tr.num, Tr.text, Tr.a, Tr.b, Tr.args] at hfit hA ⊢
  obtain ⟨A, c, rfl⟩ := hA.named
  have hcap := hA.cap
  obtain ⟨len, hlen⟩ : ∃ len, len = l.length := ⟨_, rfl⟩
  rw [← hlen] at hA hcap ⊢
  have hlm : len ≤ 9223372036854775807 := by have := hcap.2; unfold maxLen at this; omega
  have hsl : s.length ≤ 9223372036854775807 := by have h : s.length ≤ maxLen := hfit.2.2.2.2; unfold maxLen at h; omega
  have HLV := Lib.hid (fun W => plevel_any s W)
  have HNM := Lib.hid (fun W (h : EnvT W) => pname_any s hsl W h)
  have HE := Lib.hid hE
  have hlv := levelF_le s
  obtain ⟨res, hres⟩ : ∃ r, r = nodeOk k n s len := ⟨_, rfl⟩
  rw [← hres]
  clear hA hcap hlen hfit hE
  unfold nodeV
  have HB0 := Lib.hid (below_alloc w (.cells #[.int .i64 k, .int .i64 n, .string ⟨s.toArray⟩, .int .i64 f, .int .i64 t, .slice A len c] 36))
  have HBX := Lib.hid (boxv w rfl k n s f t (.slice A len c) 36)
  obtain ⟨p0, p1, p2, p3, p4, p5⟩ := HBX.out
  have HSB := Lib.hid (show True from trivial)
  by_cases hk : k = 1 ∨ k = 2 ∨ k = 3 ∨ k = 4 ∨ k = 5 ∨ k = 6 ∨ k = 7 ∨ k = 8
  · rcases hk with rfl | rfl | rfl | rfl | rfl | rfl | rfl | rfl
    · by_cases hl : len = 0
      · subst hl
        by_cases hn : 0 ≤ n
        · generalize (⟨s.toArray⟩ : ByteArray) = sb at *
          obtain rfl : res = true := by rw [hres]; rw [ok_one rfl, decide_eq_true hn]; rfl
          clear hres
          go_enter Tryd.func35, Tryd.ntmps35
          go_wp2_with fail
          go_ret
          exact ⟨by first | rfl | simp, HB0.out⟩
        · have hn2 : n < 0 := by omega
          generalize (⟨s.toArray⟩ : ByteArray) = sb at *
          obtain rfl : res = false := by rw [hres]; rw [ok_one rfl, decide_eq_false hn]; rfl
          clear hres
          go_enter Tryd.func35, Tryd.ntmps35
          clear hn
          go_wp2_with fail
          go_ret
          exact ⟨by first | rfl | (simp; omega), HB0.out⟩
      · have q1 : ((len : Int) == 0) = false := beq_eq_false_iff_ne.2 (by omega)
        generalize (⟨s.toArray⟩ : ByteArray) = sb at *
        obtain rfl : res = false := by rw [hres]; rw [ok_one rfl, decide_eq_false hl]; rfl
        clear hres
        go_enter Tryd.func35, Tryd.ntmps35
        go_wp2_with fail
        go_ret
        exact ⟨by first | rfl | simp, HB0.out⟩
    · by_cases hl : len = 0
      · subst hl
        generalize (⟨s.toArray⟩ : ByteArray) = sb at *
        obtain rfl : res = true := by rw [hres]; rw [ok_leaf (by omega)]; rfl
        clear hres
        go_enter Tryd.func35, Tryd.ntmps35
        go_wp2_with fail
        go_ret
        exact ⟨by first | rfl | simp, HB0.out⟩
      · have q1 : ((len : Int) == 0) = false := beq_eq_false_iff_ne.2 (by omega)
        generalize (⟨s.toArray⟩ : ByteArray) = sb at *
        obtain rfl : res = false := by rw [hres]; rw [ok_leaf (by omega)]; exact decide_eq_false hl
        clear hres
        go_enter Tryd.func35, Tryd.ntmps35
        go_wp2_with fail
        go_ret
        exact ⟨by first | rfl | simp, HB0.out⟩
    · by_cases hl : len = 0
      · subst hl
        generalize (⟨s.toArray⟩ : ByteArray) = sb at *
        obtain rfl : res = true := by rw [hres]; rw [ok_leaf (by omega)]; rfl
        clear hres
        go_enter Tryd.func35, Tryd.ntmps35
        go_wp2_with fail
        go_ret
        exact ⟨by first | rfl | simp, HB0.out⟩
      · have q1 : ((len : Int) == 0) = false := beq_eq_false_iff_ne.2 (by omega)
        generalize (⟨s.toArray⟩ : ByteArray) = sb at *
        obtain rfl : res = false := by rw [hres]; rw [ok_leaf (by omega)]; exact decide_eq_false hl
        clear hres
        go_enter Tryd.func35, Tryd.ntmps35
        go_wp2_with fail
        go_ret
        exact ⟨by first | rfl | simp, HB0.out⟩
    · by_cases hl : len = 0
      · subst hl
        generalize (⟨s.toArray⟩ : ByteArray) = sb at *
        obtain rfl : res = true := by rw [hres]; rw [ok_leaf (by omega)]; rfl
        clear hres
        go_enter Tryd.func35, Tryd.ntmps35
        go_wp2_with fail
        go_ret
        exact ⟨by first | rfl | simp, HB0.out⟩
      · have q1 : ((len : Int) == 0) = false := beq_eq_false_iff_ne.2 (by omega)
        generalize (⟨s.toArray⟩ : ByteArray) = sb at *
        obtain rfl : res = false := by rw [hres]; rw [ok_leaf (by omega)]; exact decide_eq_false hl
        clear hres
        go_enter Tryd.func35, Tryd.ntmps35
        go_wp2_with fail
        go_ret
        exact ⟨by first | rfl | simp, HB0.out⟩
    · by_cases hl : len = 1
      · subst hl
        generalize (⟨s.toArray⟩ : ByteArray) = sb at *
        obtain rfl : res = true := by rw [hres]; rw [ok_five rfl]; rfl
        clear hres
        go_enter Tryd.func35, Tryd.ntmps35
        go_wp2_with fail
        go_ret
        exact ⟨by first | rfl | simp, HB0.out⟩
      · have q1 : ((len : Int) == 1) = false := beq_eq_false_iff_ne.2 (by omega)
        generalize (⟨s.toArray⟩ : ByteArray) = sb at *
        obtain rfl : res = false := by rw [hres]; rw [ok_five rfl]; exact decide_eq_false hl
        clear hres
        go_enter Tryd.func35, Tryd.ntmps35
        go_wp2_with fail
        go_ret
        exact ⟨by first | rfl | simp, HB0.out⟩
    · by_cases hl : len = 2
      · subst hl
        obtain ⟨lv, hlv2⟩ : ∃ lv, lv = levelF s := ⟨_, rfl⟩
        rw [← hlv2] at hlv HLV
        by_cases hz : 0 < lv
        · have hz2 : (0 : Int) < (lv : Int) := by omega
          obtain rfl : res = true := by rw [hres]; rw [ok_six rfl, ← hlv2, decide_eq_true hz]; rfl
          clear hres
          go_enter Tryd.func35, Tryd.ntmps35
          clear hlv2
          generalize (⟨s.toArray⟩ : ByteArray) = sb at *
          go_wp2_with fail
          go_at_call 8
          with_reducible refine (HLV.out _).mono ?_
          rintro e w1 ⟨rfl, hb1⟩
          have HB1 := Lib.hid (HB0.out.trans (hb1.mono HB0.out.size))
          clear hb1
          go_wp2_with fail
          go_ret
          exact ⟨by first | rfl | simp | (simp; omega), HB1.out⟩
        · have hz2 : lv = 0 := by omega
          obtain rfl : res = false := by rw [hres]; rw [ok_six rfl, ← hlv2, decide_eq_false hz]; rfl
          clear hres
          go_enter Tryd.func35, Tryd.ntmps35
          clear hlv2 hz
          subst hz2
          generalize (⟨s.toArray⟩ : ByteArray) = sb at *
          go_wp2_with fail
          go_at_call 8
          with_reducible refine (HLV.out _).mono ?_
          rintro e w1 ⟨rfl, hb1⟩
          have HB1 := Lib.hid (HB0.out.trans (hb1.mono HB0.out.size))
          clear hb1
          go_wp2_with fail
          go_ret
          exact ⟨by first | rfl | simp | (simp; omega), HB1.out⟩
      · have q1 : ((len : Int) == 2) = false := beq_eq_false_iff_ne.2 (by omega)
        generalize (⟨s.toArray⟩ : ByteArray) = sb at *
        obtain rfl : res = false := by rw [hres]; rw [ok_six rfl, decide_eq_false hl]; rfl
        clear hres
        go_enter Tryd.func35, Tryd.ntmps35
        go_wp2_with fail
        go_ret
        exact ⟨by first | rfl | simp, HB0.out⟩
    · by_cases hl : len ≤ 16
      · have hl2 : (len : Int) ≤ 16 := by omega
        obtain ⟨nb, hnb⟩ : ∃ nb, nb = nameF s := ⟨_, rfl⟩
        rw [← hnb] at HNM
        obtain rfl : res = nb := by rw [hres]; rw [ok_seven rfl, ← hnb, decide_eq_true hl, Bool.true_and]
        clear hres
        go_enter Tryd.func35, Tryd.ntmps35
        clear hnb
        generalize (⟨s.toArray⟩ : ByteArray) = sb at *
        go_wp2_with fail
        go_at_call 10
        with_reducible refine (HNM.out _ (HE.out.below HB0.out)).mono ?_
        rintro e w1 ⟨rfl, hb1⟩
        have HB1 := Lib.hid (HB0.out.trans (hb1.mono HB0.out.size))
        clear hb1
        go_wp2_with fail
        go_ret
        exact ⟨by first | rfl | simp | (simp; omega), HB1.out⟩
      · have hl2 : (16 : Int) < (len : Int) := by omega
        generalize (⟨s.toArray⟩ : ByteArray) = sb at *
        obtain rfl : res = false := by rw [hres]; rw [ok_seven rfl, decide_eq_false hl]; rfl
        clear hres
        go_enter Tryd.func35, Tryd.ntmps35
        clear hl
        go_wp2_with fail
        go_ret
        exact ⟨by first | rfl | (simp; omega), HB0.out⟩
    · by_cases hl : len = 0
      · subst hl
        generalize (⟨s.toArray⟩ : ByteArray) = sb at *
        obtain rfl : res = true := by rw [hres]; rw [ok_leaf (by omega)]; rfl
        clear hres
        go_enter Tryd.func35, Tryd.ntmps35
        go_wp2_with fail
        go_ret
        exact ⟨by first | rfl | simp, HB0.out⟩
      · have q1 : ((len : Int) == 0) = false := beq_eq_false_iff_ne.2 (by omega)
        generalize (⟨s.toArray⟩ : ByteArray) = sb at *
        obtain rfl : res = false := by rw [hres]; rw [ok_leaf (by omega)]; exact decide_eq_false hl
        clear hres
        go_enter Tryd.func35, Tryd.ntmps35
        go_wp2_with fail
        go_ret
        exact ⟨by first | rfl | simp, HB0.out⟩
  · have hk1 : (k == 1) = false := beq_eq_false_iff_ne.2 (by omega)
    have hk2 : (k == 2) = false := beq_eq_false_iff_ne.2 (by omega)
    have hk3 : (k == 3) = false := beq_eq_false_iff_ne.2 (by omega)
    have hk4 : (k == 4) = false := beq_eq_false_iff_ne.2 (by omega)
    have hk5 : (k == 5) = false := beq_eq_false_iff_ne.2 (by omega)
    have hk6 : (k == 6) = false := beq_eq_false_iff_ne.2 (by omega)
    have hk7 : (k == 7) = false := beq_eq_false_iff_ne.2 (by omega)
    have hk8 : (k == 8) = false := beq_eq_false_iff_ne.2 (by omega)
    generalize (⟨s.toArray⟩ : ByteArray) = sb at *
    obtain rfl : res = false := by rw [hres]; rw [ok_else (by omega)]
    clear hres
    go_enter Tryd.func35, Tryd.ntmps35
    clear hk
    go_wp2_with fail
    go_ret
    exact ⟨by rfl, HB0.out⟩

set_option maxRecDepth 20000 in
set_option maxHeartbeats 4000000 in
theorem pprec_any (x : Tr) (v : Value) (w : World) (hv : RdN AnyB w x v) :
    Calls Tryd.prog 37 #[v] w fun e w' => e = .returned (.int .i64 (holdsF x.kind x.text : Nat)) ∧ Below w.heap.size w w' := by
  obtain ⟨k, n, s, f, t, l⟩ := x
  obtain ⟨hfit, u, rfl, hA⟩ := hv
  simp only [Tr.kind, Tr.num, Tr.text, Tr.a, Tr.b, Tr.args] at hfit hA ⊢
  obtain ⟨A, c, rfl⟩ := hA.named
  obtain ⟨len, hlen⟩ : ∃ len, len = l.length := ⟨_, rfl⟩
  rw [← hlen]
  have HLV := Lib.hid (fun W => plevel_any s W)
  obtain ⟨res, hres⟩ : ∃ r, r = holdsF k s := ⟨_, rfl⟩
  rw [← hres]
  clear hA hlen hfit
  unfold nodeV
  have HB0 := Lib.hid (below_alloc w (.cells #[.int .i64 k, .int .i64 n, .string ⟨s.toArray⟩, .int .i64 f, .int .i64 t, .slice A len c] 36))
  have HBX := Lib.hid (boxv w rfl k n s f t (.slice A len c) 36)
  obtain ⟨p0, p1, p2, p3, p4, p5⟩ := HBX.out
  by_cases h6 : k = 6
  · subst h6
    obtain ⟨lv, hlv⟩ : ∃ lv, lv = levelF s := ⟨_, rfl⟩
    rw [← hlv] at HLV
    obtain rfl : res = lv := by rw [hres, hlv]; rfl
    clear hres hlv
    generalize (⟨s.toArray⟩ : ByteArray) = sb at *
    go_enter Tryd.func37, Tryd.ntmps37
    go_wp2_with fail
    go_at_call 8
    with_reducible refine (HLV.out _).mono ?_
    rintro e w1 ⟨rfl, hb1⟩
    have HB1 := Lib.hid (HB0.out.trans (hb1.mono HB0.out.size))
    clear hb1
    go_wp2_with fail
    go_ret
    exact ⟨rfl, HB1.out⟩
  · have z6 : (k == 6) = false := beq_eq_false_iff_ne.2 h6
    by_cases h5 : k = 5
    · subst h5
      obtain rfl : res = 5 := by rw [hres]; rfl
      clear hres
      generalize (⟨s.toArray⟩ : ByteArray) = sb at *
      go_enter Tryd.func37, Tryd.ntmps37
      go_wp2_with fail
      go_ret
      exact ⟨rfl, HB0.out⟩
    · have z5 : (k == 5) = false := beq_eq_false_iff_ne.2 h5
      obtain rfl : res = 6 := by rw [hres]; unfold holdsF; rw [if_neg h6, if_neg h5]
      clear hres h5 h6
      generalize (⟨s.toArray⟩ : ByteArray) = sb at *
      go_enter Tryd.func37, Tryd.ntmps37
      go_wp2_with fail
      go_ret
      exact ⟨rfl, HB0.out⟩
end Go.Proofs.YtlagjnlajkmmeaaDoor
