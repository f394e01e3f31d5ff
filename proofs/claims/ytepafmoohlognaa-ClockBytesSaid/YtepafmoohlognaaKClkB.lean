/-
Package clock: Within, Same, Apart, combine, by contracts.
-/
import Derived.Test.YtepafmoohlognaaKClkA
import Derived.Test.YtepafmoohlognaaKMeetM
import Derived.Lib.LazyBuf
namespace Go.Proofs.Ytepafmoohlognaa
open Go.RowKit

theorem pad_getD {xs : List Nat} (h : xs.length ≤ 64) {j : Nat} (hj : j < 64) : (padF xs)[j]? = some (xs.getD j 0) := by
  unfold padF
  rw [List.getD_eq_getElem?_getD]
  rcases Nat.lt_or_ge j xs.length with h1 | h1
  · rw [List.getElem?_append_left h1, List.getElem?_eq_getElem h1]; rfl
  · rw [List.getElem?_append_right h1, List.getElem?_eq_none h1, List.getElem?_replicate, if_pos (by omega)]; rfl
theorem within_of {xs ys : List Nat} (h1 : xs.length ≤ 64) (h2 : ys.length ≤ 64) (h : ∀ j, j < xs.length → xs.getD j 0 ≤ ys.getD j 0) : withinB (padF xs) (padF ys) = true := by
  refine (withinB_iff (padF_len h1) (padF_len h2)).2 fun j x y hx hy => ?_
  have hj : j < 64 := by have := (List.getElem?_eq_some_iff.1 hx).1; rw [padF_len h1] at this; exact this
  rw [pad_getD h1 hj] at hx
  rw [pad_getD h2 hj] at hy
  injection hx with hx
  injection hy with hy
  subst hx hy
  rcases Nat.lt_or_ge j xs.length with h3 | h3
  · exact h j h3
  · rw [List.getD_eq_getElem?_getD, List.getElem?_eq_none h3]; exact Nat.zero_le _
theorem within_not {xs ys : List Nat} (h1 : xs.length ≤ 64) (h2 : ys.length ≤ 64) {j : Nat} (hj : j < xs.length) (h : ys.getD j 0 < xs.getD j 0) : withinB (padF xs) (padF ys) = false := by
  rw [Bool.eq_false_iff]
  intro e
  have := (withinB_iff (padF_len h1) (padF_len h2)).1 e j _ _ (pad_getD h1 (by omega)) (pad_getD h2 (by omega))
  omega

set_option maxRecDepth 20000 in
set_option maxHeartbeats 1000000 in
theorem within_form (xs ys : List Nat) (n c : Nat) (A : Option Addr) (u : Value) (hn : n = xs.length) (h1 : FitC xs) (h2 : FitC ys) (w : World) (h : RdU w (.slice A n c) xs) (hu : RdU w u ys) :
    Calls Try.prog 15 #[.slice A n c, u] w fun e w' => e = .returned (.bool (withinB (padF xs) (padF ys))) ∧ w = w' := by
  have HR := Lib.hid h
  have HU := Lib.hid hu
  have HN := Lib.hid hn
  have HL1 := Lib.hid h1.1
  have HL2 := Lib.hid h2.1
  have hn64 : n ≤ 64 := by rw [hn]; exact h1.1
  clear hn h hu h1 h2
  go_enter Try.func15, Try.ntmps15
  go_wp2
  go_loopw [9] (fun i wr => ∃ (k : Nat), k ≤ n ∧ i = .int .i64 (k : Int) ∧ w = wr ∧ Hid (∀ j, j < k → xs.getD j 0 ≤ ys.getD j 0)) (fun i _ => n - (intOf i).toNat)
  case atStart => exact ⟨0, Nat.zero_le _, rfl, rfl, Lib.hid (fun j hj => by omega)⟩
  case round =>
    obtain ⟨k, hk, rfl, rfl, HI⟩ := hrel
    by_cases hkn : k < n
    · obtain ⟨x, hx⟩ : ∃ x, xs[k]? = some x := ⟨_, List.getElem?_eq_getElem (by rw [← HN.out]; exact hkn)⟩
      have hxd : xs.getD k 0 = x := by rw [List.getD_eq_getElem?_getD, hx]; rfl
      obtain ⟨b, off, rfl, hcs⟩ := HR.out.at_ hx
      have p0 := hcs w (Below.refl _ _)
      obtain ⟨y, hy⟩ : ∃ y, y = ys.getD k 0 := ⟨_, rfl⟩
      have hget := get_any ys u k (by have := HL2.out; omega) (by omega) w HU.out
      rw [← hy] at hget
      have HG := Lib.hid hget
      have HX := Lib.hid hxd
      have HY := Lib.hid hy
      clear hx hxd hcs hget hy
      by_cases hxy : x ≤ y
      · have hxi : (x : Int) ≤ (y : Int) := by omega
        have HIN := Lib.hid (show ∀ j, j < k + 1 → xs.getD j 0 ≤ ys.getD j 0 from fun j hj => by
          rcases Nat.lt_succ_iff_lt_or_eq.1 hj with hj | rfl
          · exact HI.out j hj
          · rw [HX.out, ← HY.out]; exact hxy)
        clear hxy
        go_wp2_with (go_at_call 32; (with_reducible refine (HG.out).mono ?_); rintro e w1 ⟨rfl, rfl⟩)
        go_roundw
        case rel => exact ⟨k + 1, by omega, by go_num, trivial, HIN⟩
        case measure => simp [intOf]; omega
      · have hxi : (y : Int) < (x : Int) := by omega
        have HF := Lib.hid (within_not HL1.out HL2.out (j := k) (by rw [← HN.out]; exact hkn) (by rw [HX.out, ← HY.out]; omega))
        clear hxy
        go_wp2_with (go_at_call 32; (with_reducible refine (HG.out).mono ?_); rintro e w1 ⟨rfl, rfl⟩)
        go_ret
        exact ⟨by rw [HF.out]; rfl, rfl⟩
    · obtain rfl : k = n := by omega
      have HT := Lib.hid (within_of HL1.out HL2.out (fun j hj => HI.out j (by rw [HN.out]; exact hj)))
      clear hkn
      go_wp2
      go_ret
      exact ⟨by rw [HT.out]; rfl, rfl⟩
theorem within_any (xs ys : List Nat) (v u : Value) (w : World) (h1 : FitC xs) (h2 : FitC ys) (h : RdU w v xs) (hu : RdU w u ys) :
    Calls Try.prog 15 #[v, u] w fun e w' => e = .returned (.bool (withinB (padF xs) (padF ys))) ∧ w = w' := by
  obtain ⟨A, n, c, rfl, hn⟩ := h.named
  exact within_form xs ys n c A u hn h1 h2 w h hu

set_option maxRecDepth 20000 in
set_option maxHeartbeats 1000000 in
theorem same_clk (xs ys : List Nat) (v u : Value) (w : World) (h1 : FitC xs) (h2 : FitC ys) (h : RdU w v xs) (hu : RdU w u ys) :
    Calls Try.prog 16 #[v, u] w fun e w' => e = .returned (.bool (withinB (padF xs) (padF ys) && withinB (padF ys) (padF xs))) ∧ w = w' := by
  have HA := Lib.hid (within_any xs ys v u w h1 h2 h hu)
  have HB := Lib.hid (within_any ys xs u v w h2 h1 hu h)
  clear h1 h2 h hu
  generalize withinB (padF xs) (padF ys) = p at *
  generalize withinB (padF ys) (padF xs) = q at *
  cases p <;> cases q
  all_goals go_enter Try.func16, Try.ntmps16
  all_goals go_wp2_with (go_at_call 15; (with_reducible first | refine (HA.out).mono ?_ | refine (HB.out).mono ?_); rintro e w1 ⟨rfl, rfl⟩)
  all_goals go_ret
  all_goals exact ⟨rfl, rfl⟩

set_option maxRecDepth 20000 in
set_option maxHeartbeats 1000000 in
theorem apart_clk (xs ys : List Nat) (v u : Value) (w : World) (h1 : FitC xs) (h2 : FitC ys) (h : RdU w v xs) (hu : RdU w u ys) :
    Calls Try.prog 17 #[v, u] w fun e w' => e = .returned (.bool (!withinB (padF xs) (padF ys) && !withinB (padF ys) (padF xs))) ∧ w = w' := by
  have HA := Lib.hid (within_any xs ys v u w h1 h2 h hu)
  have HB := Lib.hid (within_any ys xs u v w h2 h1 hu h)
  clear h1 h2 h hu
  generalize withinB (padF xs) (padF ys) = p at *
  generalize withinB (padF ys) (padF xs) = q at *
  cases p <;> cases q
  all_goals go_enter Try.func17, Try.ntmps17
  all_goals go_wp2_with (go_at_call 15; (with_reducible first | refine (HA.out).mono ?_ | refine (HB.out).mono ?_); rintro e w1 ⟨rfl, rfl⟩)
  all_goals go_ret
  all_goals exact ⟨rfl, rfl⟩

theorem eq_nilU (w : World) (a : Option Addr) (n c : Nat) : (binOp .eql 25 (.slice a n c) (.slice none 0 0)).run Try.prog w = .ok (.bool a.isNone) w :=
  Lib.run_eql_slice_nil w _ _ a n c 0 0 Try.underlying25
set_option maxRecDepth 20000 in
theorem clone_clk (v : Value) (xs : List Nat) (w : World) (h : RdU w v xs) (hl : xs.length ≤ 500000) :
    Calls Try.prog 29 #[v] w fun e w' => ∃ v', e = .returned v' ∧ OwnU w.heap.size w' v' xs ∧ Below w.heap.size w w' := by
  obtain ⟨A, n, c, rfl, hn⟩ := h.named
  have HR := Lib.hid h
  have HL := Lib.hid hl
  have hq := eq_nilU
  rcases A with _ | a
  · have hx : xs = [] := by
      rcases h with ⟨_, _, _, hx, _⟩ | ⟨_, _, _, hv, _⟩
      · exact hx
      · simp at hv
    clear h hl hn HR HL
    subst hx
    go_enter Try.func29, Try.ntmps29
    go_wp2
    go_ret
    exact ⟨_, rfl, OwnU.nil _ _, Below.refl _ _⟩
  · clear h hl hn
    go_enter Try.func29, Try.ntmps29
    go_wp2_with (at_builtin; refine wp_appU 25 (by exact Try.underlying25) rfl _ _ rfl w.heap.size _ [] rfl (OwnU.empty w.heap.size w rfl (Nat.le_refl _)) _ xs rfl (HR.out.below (below_alloc _ _)) (by have := HL.out; simp; omega) (by simp) ?_; intro v1 w1 hown1 hbel1 hg1 hv1)
    go_ret
    exact ⟨_, rfl, hown1, (below_alloc w _).trans hbel1⟩

/-- Block g is a row of these unsigned integers. -/
def RowU (w : World) (g : Nat) (F : List Nat) : Prop := w.heap[g]? = some (.cells (fullA F) 26 (0, 0))
theorem RowU.lt {w : World} {g : Nat} {F : List Nat} (h : RowU w g F) : g < w.heap.size := (Array.getElem?_eq_some_iff.1 h).1
theorem RowU.cell {w : World} {g : Nat} {F : List Nat} (h : RowU w g F) {k x : Nat} (hx : F[k]? = some x) : w.cell? ⟨g, k, none⟩ = some (.int .u64 (x : Int)) := by rw [cell_of_row w g k _ _ _ h]; exact fullA_get hx
theorem RowU.frozen {w : World} {g : Nat} {F : List Nat} (h : RowU w g F) (k : Nat) : w.frozen? ⟨g, k, none⟩ = false := by have := h; unfold RowU at this; simp [World.frozen?, this]
theorem RowU.block {w w' : World} {g : Nat} {F : List Nat} (h : RowU w g F) (hb : w'.heap[g]? = w.heap[g]?) : RowU w' g F := hb.trans h
theorem RowU.set {w : World} {g : Nat} {F : List Nat} (h : RowU w g F) (k x : Nat) : RowU (w.setCell ⟨g, k, none⟩ (.int .u64 (x : Int))) g (F.set k x) := by
  unfold RowU at h ⊢
  simp [World.setCell, Array.getElem?_modify, h, fullA, List.map_set, nu]
theorem RowU.rd {w : World} {g L : Nat} {F : List Nat} (h : RowU w g F) (hL : L = F.length) (hm : L ≤ 1000) : RdU w (.slice (some ⟨g, 0, none⟩) L L) F :=
  .inr ⟨g, 0, L, by rw [hL], by omega, by unfold maxLen; omega, h.lt, fun j x hx => by rw [Nat.zero_add]; exact h.cell hx⟩
/-- make(Clock, n). -/
theorem wp_makeU {ops : Array Oper} {rest : List Oper} {o : Oper} {a : Act} {Q : Exit → Act → World → Prop} {w : World} (hgd : o.guard = none) (l c : Operand) (hop : o.op = Op.makeSlice 25 l c)
    (n : Nat) (z : Int) (hz : z = (n : Int)) (hl : a.eval l = .int .i64 z) (hc : a.eval c = .int .i64 z) (hn : n ≤ 1000000)
    (h : ∀ w', RowU w' w.heap.size (List.replicate n 0) → Below w.heap.size w w' → wpList Try.prog ops Q rest (a.put o.dst (.slice (some ⟨w.heap.size, 0, none⟩) n n)) w') :
    wpList Try.prog ops Q (o :: rest) a w := by
  obtain ⟨i0, hi, hz0, hz1, hz2⟩ := info_parts info_u64
  refine wpList_make_full w hgd l c _ hop w.heap.size 26 i0 (.int .u64 0) 1 Try.underlying25 hi hz0 hz1 .i64 .i64 z z n hl hc hz hz (by rw [hz2]; omega) (by unfold maxLen; omega) (Nat.le_refl _) ?_
  intro w' ho' hg'
  have hbel : Below w.heap.size w w' := (Below.refl _ w).grown hg' (Nat.le_refl _) (by simp)
  have e : (madeCells (Value.int .u64 0).cells (n * 1)).toList = (List.replicate n 0).map nu := by
    show (madeCells #[Value.int .u64 0] (n * 1)).toList = _
    rw [toList_madeCells_one]; simp [nu]
  rw [e] at ho'
  refine h w' ?_ hbel
  rcases ho'.2 with ⟨hv, _⟩ | ⟨g, cap, cur, hv, hb, hh, hnc, hm, hs, ht⟩
  · simp at hv
  · simp only [Value.slice.injEq, Option.some.injEq, Addr.mk.injEq, and_true, true_and] at hv
    obtain ⟨rfl, rfl⟩ := hv
    unfold RowU
    rw [hh]
    have : cur = fullA (List.replicate n 0) := by
      apply Array.ext'
      rw [List.take_of_length_le (by simp; omega)] at ht
      rw [ht]; simp [fullA]
    rw [this]
/-- What is there of a combined clock. -/
def cmbK (f : Nat → Nat → Nat) (xs ys : List Nat) (L k : Nat) : List Nat := (List.range L).map fun i => if i < k then f (xs.getD i 0) (ys.getD i 0) else 0
theorem cmbK_len {f : Nat → Nat → Nat} {xs ys : List Nat} {L k : Nat} : (cmbK f xs ys L k).length = L := by simp [cmbK]
theorem cmbK_zero {f : Nat → Nat → Nat} {xs ys : List Nat} {L : Nat} : cmbK f xs ys L 0 = List.replicate L 0 := by
  apply List.ext_getElem?
  intro i
  simp only [cmbK, Nat.not_lt_zero, if_false, List.getElem?_map, List.getElem?_replicate]
  rcases Nat.lt_or_ge i L with h | h
  · rw [List.getElem?_range h, if_pos h]; rfl
  · rw [List.getElem?_eq_none (by simpa using h), if_neg (by omega)]; rfl
theorem cmbK_get {f : Nat → Nat → Nat} {xs ys : List Nat} {L k : Nat} (h : k < L) : (cmbK f xs ys L k)[k]? = some 0 := by
  simp [cmbK, h]
theorem cmbK_set {f : Nat → Nat → Nat} {xs ys : List Nat} {L k : Nat} : (cmbK f xs ys L k).set k (f (xs.getD k 0) (ys.getD k 0)) = cmbK f xs ys L (k + 1) := by
  apply List.ext_getElem?
  intro i
  rw [List.getElem?_set]
  simp only [cmbK, List.length_map, List.length_range, List.getElem?_map]
  rcases Nat.lt_or_ge i L with h | h
  · rw [List.getElem?_range h]
    by_cases hk : k = i
    · subst hk; simp [h]
    · simp only [Option.map_some]
      rw [if_neg hk]
      by_cases h2 : i < k
      · rw [if_pos h2, if_pos (by omega)]
      · rw [if_neg h2, if_neg (by omega)]
  · rw [List.getElem?_eq_none (by simpa using h)]
    by_cases hk : k = i
    · subst hk; rw [if_pos rfl, if_neg (by omega)]; rfl
    · rw [if_neg hk]; rfl
theorem cut_app (F : List Nat) (m : Nat) : cutF (F ++ List.replicate m 0) = cutF F := by
  have hd : ∀ (m : Nat) (l : List Nat), (List.replicate m 0 ++ l).dropWhile (· == 0) = l.dropWhile (· == 0) := by
    intro m
    induction m with
    | zero => intro l; rfl
    | succ m ih => intro l; rw [List.replicate_succ, List.cons_append, List.dropWhile_cons, if_pos (by rfl)]; exact ih l
  have hn : cutN (F ++ List.replicate m 0) = cutN F := by
    unfold cutN
    rw [List.reverse_append, List.reverse_replicate, hd]
  unfold cutF
  rw [hn, List.take_append_of_le_length (cutN_le F)]
theorem cmb_cut {f : Nat → Nat → Nat} (h0 : f 0 0 = 0) {xs ys : List Nat} {L : Nat} (h1 : xs.length ≤ 64) (h2 : ys.length ≤ 64) (hL : L = max xs.length ys.length) : cutF (cmbK f xs ys L L) = cutF (List.zipWith f (padF xs) (padF ys)) := by
  rw [← cut_app (cmbK f xs ys L L) (64 - L)]
  congr 1
  apply List.ext_getElem?
  intro i
  rw [List.getElem?_zipWith]
  rcases Nat.lt_or_ge i 64 with h | h
  · rw [pad_getD h1 h, pad_getD h2 h]
    simp only
    rcases Nat.lt_or_ge i L with h3 | h3
    · rw [List.getElem?_append_left (by rw [cmbK_len]; exact h3)]
      simp [cmbK, h3]
    · rw [List.getElem?_append_right (by rw [cmbK_len]; exact h3), cmbK_len, List.getElem?_replicate, if_pos (by omega)]
      rw [List.getD_eq_getElem?_getD, List.getD_eq_getElem?_getD, List.getElem?_eq_none (by omega), List.getElem?_eq_none (by omega)]
      simp [h0]
  · rw [List.getElem?_eq_none (by rw [List.length_append, cmbK_len, List.length_replicate]; omega), List.getElem?_eq_none (by rw [padF_len h1]; exact h)]

set_option maxRecDepth 20000 in
set_option maxHeartbeats 2000000 in
theorem combMax_form (xs ys : List Nat) (n c m d : Nat) (A A2 : Option Addr) (hn : n = xs.length) (hm : m = ys.length) (h1 : FitC xs) (h2 : FitC ys) (w : World) (h : RdU w (.slice A n c) xs) (hu : RdU w (.slice A2 m d) ys) :
    Calls Try.prog 27 #[.slice A n c, .slice A2 m d, .func (.func 28) #[] #[]] w fun e w' => ∃ r L, e = .returned (.slice (some ⟨w.heap.size, 0, none⟩) r L) ∧ RdU w' (.slice (some ⟨w.heap.size, 0, none⟩) r L) (cutF (List.zipWith max (padF xs) (padF ys))) ∧ Below w.heap.size w w' := by
  have HR := Lib.hid h
  have HU := Lib.hid hu
  have HN := Lib.hid hn
  have HM := Lib.hid hm
  have HL1 := Lib.hid h1.1
  have HL2 := Lib.hid h2.1
  have hn64 : n ≤ 64 := by rw [hn]; exact h1.1
  have hm64 : m ≤ 64 := by rw [hm]; exact h2.1
  have hmx : max xs.length ys.length = max n m := by rw [hn, hm]
  clear hn hm h hu h1 h2
  rcases Nat.lt_trichotomy n m with hnm | hnm | hnm
  · have HLM := Lib.hid (show m = max xs.length ys.length from by omega)
    have hi : (n : Int) < (m : Int) := by omega
    clear hmx hnm
    go_enter Try.func27, Try.ntmps27
    go_wp2_with (at_make; go_must (refine wp_makeU rfl _ _ rfl m _ rfl rfl rfl (by omega) ?_); intro w1 hrow1 hb1; have HROW1 := Lib.hid hrow1; have HB1 := Lib.hid hb1; clear hrow1 hb1)
    go_loopw [17] (fun i wr => ∃ (k : Nat), k ≤ m ∧ i = .int .i64 (k : Int) ∧ Hid (RowU wr w.heap.size (cmbK max xs ys m k) ∧ Below w.heap.size w wr)) (fun i _ => m - (intOf i).toNat)
    case atStart => exact ⟨0, Nat.zero_le _, rfl, Lib.hid ⟨by rw [cmbK_zero]; exact HROW1.out, HB1.out⟩⟩
    case round =>
      obtain ⟨k, hk, rfl, HI⟩ := hrel
      by_cases hkn : k < m
      · have q0 := HI.out.1.cell (cmbK_get (f := max) (xs := xs) (ys := ys) hkn)
        have f0 := HI.out.1.frozen k
        obtain ⟨x, hx⟩ : ∃ x, x = xs.getD k 0 := ⟨_, rfl⟩
        obtain ⟨y, hy⟩ : ∃ y, y = ys.getD k 0 := ⟨_, rfl⟩
        have hga := get_form xs n c k A HN.out (by omega) (by omega) wr (HR.out.below HI.out.2)
        have hgb := get_form ys m d k A2 HM.out (by omega) (by omega) wr (HU.out.below HI.out.2)
        rw [← hx] at hga
        rw [← hy] at hgb
        have HGA := Lib.hid hga
        have HGB := Lib.hid hgb
        have HP := Lib.hid (pickMax x y wr)
        have HIN := Lib.hid (show RowU (wr.setCell ⟨w.heap.size, k, none⟩ (.int .u64 ((max x y : Nat) : Int))) w.heap.size (cmbK max xs ys m (k + 1)) from by
          have := HI.out.1.set k (max x y)
          rw [hx, hy, cmbK_set] at this
          rw [hx, hy]; exact this)
        have HBN := Lib.hid (HI.out.2.setCell (p := ⟨w.heap.size, k, none⟩) (Nat.le_refl _) (.int .u64 ((max x y : Nat) : Int)))
        clear hga hgb hx hy
        generalize max x y = z at *
        go_wp2_with (first
          | (go_at_call 32; (with_reducible first | refine (HGA.out).mono ?_ | refine (HGB.out).mono ?_); rintro e w1 ⟨rfl, rfl⟩)
          | (go_at_call 28; (with_reducible refine (HP.out).mono ?_); rintro e w1 ⟨rfl, rfl⟩))
        go_roundw
        case rel => exact ⟨k + 1, by omega, by go_num, Lib.hid ⟨HIN.out, HBN.out⟩⟩
        case measure => simp [intOf]; omega
      · obtain rfl : k = m := by omega
        have hrd := HI.out.1.rd (L := k) cmbK_len.symm (by omega)
        have HRD := Lib.hid hrd
        have HS := Lib.hid (short_clk _ k k (some ⟨w.heap.size, 0, none⟩) cmbK_len.symm (by omega) wr hrd)
        have hcut := cmb_cut (f := max) rfl HL1.out HL2.out HLM.out
        have HCUT := Lib.hid hcut
        clear hkn hrd hcut
        go_wp2_with (go_at_call 30; (with_reducible refine (HS.out).mono ?_); rintro e w2 ⟨r, rfl, hr, hrn, rfl⟩; have HRR := Lib.hid hr; clear hr)
        go_ret
        refine ⟨r, k, rfl, ?_, HI.out.2⟩
        rw [← HCUT.out]
        unfold cutF
        rw [← HRR.out]
        exact HRD.out.upto r hrn
  · subst hnm
    have HLM := Lib.hid (show n = max xs.length ys.length from by omega)
    clear hmx
    go_enter Try.func27, Try.ntmps27
    go_wp2_with (at_make; go_must (refine wp_makeU rfl _ _ rfl n _ rfl rfl rfl (by omega) ?_); intro w1 hrow1 hb1; have HROW1 := Lib.hid hrow1; have HB1 := Lib.hid hb1; clear hrow1 hb1)
    go_loopw [17] (fun i wr => ∃ (k : Nat), k ≤ n ∧ i = .int .i64 (k : Int) ∧ Hid (RowU wr w.heap.size (cmbK max xs ys n k) ∧ Below w.heap.size w wr)) (fun i _ => n - (intOf i).toNat)
    case atStart => exact ⟨0, Nat.zero_le _, rfl, Lib.hid ⟨by rw [cmbK_zero]; exact HROW1.out, HB1.out⟩⟩
    case round =>
      obtain ⟨k, hk, rfl, HI⟩ := hrel
      by_cases hkn : k < n
      · have q0 := HI.out.1.cell (cmbK_get (f := max) (xs := xs) (ys := ys) hkn)
        have f0 := HI.out.1.frozen k
        obtain ⟨x, hx⟩ : ∃ x, x = xs.getD k 0 := ⟨_, rfl⟩
        obtain ⟨y, hy⟩ : ∃ y, y = ys.getD k 0 := ⟨_, rfl⟩
        have hga := get_form xs n c k A HN.out (by omega) (by omega) wr (HR.out.below HI.out.2)
        have hgb := get_form ys n d k A2 HM.out (by omega) (by omega) wr (HU.out.below HI.out.2)
        rw [← hx] at hga
        rw [← hy] at hgb
        have HGA := Lib.hid hga
        have HGB := Lib.hid hgb
        have HP := Lib.hid (pickMax x y wr)
        have HIN := Lib.hid (show RowU (wr.setCell ⟨w.heap.size, k, none⟩ (.int .u64 ((max x y : Nat) : Int))) w.heap.size (cmbK max xs ys n (k + 1)) from by
          have := HI.out.1.set k (max x y)
          rw [hx, hy, cmbK_set] at this
          rw [hx, hy]; exact this)
        have HBN := Lib.hid (HI.out.2.setCell (p := ⟨w.heap.size, k, none⟩) (Nat.le_refl _) (.int .u64 ((max x y : Nat) : Int)))
        clear hga hgb hx hy
        generalize max x y = z at *
        go_wp2_with (first
          | (go_at_call 32; (with_reducible first | refine (HGA.out).mono ?_ | refine (HGB.out).mono ?_); rintro e w1 ⟨rfl, rfl⟩)
          | (go_at_call 28; (with_reducible refine (HP.out).mono ?_); rintro e w1 ⟨rfl, rfl⟩))
        go_roundw
        case rel => exact ⟨k + 1, by omega, by go_num, Lib.hid ⟨HIN.out, HBN.out⟩⟩
        case measure => simp [intOf]; omega
      · obtain rfl : k = n := by omega
        have hrd := HI.out.1.rd (L := k) cmbK_len.symm (by omega)
        have HRD := Lib.hid hrd
        have HS := Lib.hid (short_clk _ k k (some ⟨w.heap.size, 0, none⟩) cmbK_len.symm (by omega) wr hrd)
        have hcut := cmb_cut (f := max) rfl HL1.out HL2.out HLM.out
        have HCUT := Lib.hid hcut
        clear hkn hrd hcut
        go_wp2_with (go_at_call 30; (with_reducible refine (HS.out).mono ?_); rintro e w2 ⟨r, rfl, hr, hrn, rfl⟩; have HRR := Lib.hid hr; clear hr)
        go_ret
        refine ⟨r, k, rfl, ?_, HI.out.2⟩
        rw [← HCUT.out]
        unfold cutF
        rw [← HRR.out]
        exact HRD.out.upto r hrn
  · have HLM := Lib.hid (show n = max xs.length ys.length from by omega)
    have hi : (m : Int) < (n : Int) := by omega
    clear hmx hnm
    go_enter Try.func27, Try.ntmps27
    go_wp2_with (at_make; go_must (refine wp_makeU rfl _ _ rfl n _ rfl rfl rfl (by omega) ?_); intro w1 hrow1 hb1; have HROW1 := Lib.hid hrow1; have HB1 := Lib.hid hb1; clear hrow1 hb1)
    go_loopw [17] (fun i wr => ∃ (k : Nat), k ≤ n ∧ i = .int .i64 (k : Int) ∧ Hid (RowU wr w.heap.size (cmbK max xs ys n k) ∧ Below w.heap.size w wr)) (fun i _ => n - (intOf i).toNat)
    case atStart => exact ⟨0, Nat.zero_le _, rfl, Lib.hid ⟨by rw [cmbK_zero]; exact HROW1.out, HB1.out⟩⟩
    case round =>
      obtain ⟨k, hk, rfl, HI⟩ := hrel
      by_cases hkn : k < n
      · have q0 := HI.out.1.cell (cmbK_get (f := max) (xs := xs) (ys := ys) hkn)
        have f0 := HI.out.1.frozen k
        obtain ⟨x, hx⟩ : ∃ x, x = xs.getD k 0 := ⟨_, rfl⟩
        obtain ⟨y, hy⟩ : ∃ y, y = ys.getD k 0 := ⟨_, rfl⟩
        have hga := get_form xs n c k A HN.out (by omega) (by omega) wr (HR.out.below HI.out.2)
        have hgb := get_form ys m d k A2 HM.out (by omega) (by omega) wr (HU.out.below HI.out.2)
        rw [← hx] at hga
        rw [← hy] at hgb
        have HGA := Lib.hid hga
        have HGB := Lib.hid hgb
        have HP := Lib.hid (pickMax x y wr)
        have HIN := Lib.hid (show RowU (wr.setCell ⟨w.heap.size, k, none⟩ (.int .u64 ((max x y : Nat) : Int))) w.heap.size (cmbK max xs ys n (k + 1)) from by
          have := HI.out.1.set k (max x y)
          rw [hx, hy, cmbK_set] at this
          rw [hx, hy]; exact this)
        have HBN := Lib.hid (HI.out.2.setCell (p := ⟨w.heap.size, k, none⟩) (Nat.le_refl _) (.int .u64 ((max x y : Nat) : Int)))
        clear hga hgb hx hy
        generalize max x y = z at *
        go_wp2_with (first
          | (go_at_call 32; (with_reducible first | refine (HGA.out).mono ?_ | refine (HGB.out).mono ?_); rintro e w1 ⟨rfl, rfl⟩)
          | (go_at_call 28; (with_reducible refine (HP.out).mono ?_); rintro e w1 ⟨rfl, rfl⟩))
        go_roundw
        case rel => exact ⟨k + 1, by omega, by go_num, Lib.hid ⟨HIN.out, HBN.out⟩⟩
        case measure => simp [intOf]; omega
      · obtain rfl : k = n := by omega
        have hrd := HI.out.1.rd (L := k) cmbK_len.symm (by omega)
        have HRD := Lib.hid hrd
        have HS := Lib.hid (short_clk _ k k (some ⟨w.heap.size, 0, none⟩) cmbK_len.symm (by omega) wr hrd)
        have hcut := cmb_cut (f := max) rfl HL1.out HL2.out HLM.out
        have HCUT := Lib.hid hcut
        clear hkn hrd hcut
        go_wp2_with (go_at_call 30; (with_reducible refine (HS.out).mono ?_); rintro e w2 ⟨r, rfl, hr, hrn, rfl⟩; have HRR := Lib.hid hr; clear hr)
        go_ret
        refine ⟨r, k, rfl, ?_, HI.out.2⟩
        rw [← HCUT.out]
        unfold cutF
        rw [← HRR.out]
        exact HRD.out.upto r hrn
theorem combMax_any (xs ys : List Nat) (v u : Value) (h1 : FitC xs) (h2 : FitC ys) (w : World) (h : RdU w v xs) (hu : RdU w u ys) :
    Calls Try.prog 27 #[v, u, .func (.func 28) #[] #[]] w fun e w' => ∃ r L, e = .returned (.slice (some ⟨w.heap.size, 0, none⟩) r L) ∧ RdU w' (.slice (some ⟨w.heap.size, 0, none⟩) r L) (cutF (List.zipWith max (padF xs) (padF ys))) ∧ Below w.heap.size w w' := by
  obtain ⟨A, n, c, rfl, hn⟩ := h.named
  obtain ⟨A2, m, d, rfl, hm⟩ := hu.named
  exact combMax_form xs ys n c m d A A2 hn hm h1 h2 w h hu

set_option maxRecDepth 20000 in
set_option maxHeartbeats 2000000 in
theorem combMin_form (xs ys : List Nat) (n c m d : Nat) (A A2 : Option Addr) (hn : n = xs.length) (hm : m = ys.length) (h1 : FitC xs) (h2 : FitC ys) (w : World) (h : RdU w (.slice A n c) xs) (hu : RdU w (.slice A2 m d) ys) :
    Calls Try.prog 27 #[.slice A n c, .slice A2 m d, .func (.func 31) #[] #[]] w fun e w' => ∃ r L, e = .returned (.slice (some ⟨w.heap.size, 0, none⟩) r L) ∧ RdU w' (.slice (some ⟨w.heap.size, 0, none⟩) r L) (cutF (List.zipWith min (padF xs) (padF ys))) ∧ Below w.heap.size w w' := by
  have HR := Lib.hid h
  have HU := Lib.hid hu
  have HN := Lib.hid hn
  have HM := Lib.hid hm
  have HL1 := Lib.hid h1.1
  have HL2 := Lib.hid h2.1
  have hn64 : n ≤ 64 := by rw [hn]; exact h1.1
  have hm64 : m ≤ 64 := by rw [hm]; exact h2.1
  have hmx : max xs.length ys.length = max n m := by rw [hn, hm]
  clear hn hm h hu h1 h2
  rcases Nat.lt_trichotomy n m with hnm | hnm | hnm
  · have HLM := Lib.hid (show m = max xs.length ys.length from by omega)
    have hi : (n : Int) < (m : Int) := by omega
    clear hmx hnm
    go_enter Try.func27, Try.ntmps27
    go_wp2_with (at_make; go_must (refine wp_makeU rfl _ _ rfl m _ rfl rfl rfl (by omega) ?_); intro w1 hrow1 hb1; have HROW1 := Lib.hid hrow1; have HB1 := Lib.hid hb1; clear hrow1 hb1)
    go_loopw [17] (fun i wr => ∃ (k : Nat), k ≤ m ∧ i = .int .i64 (k : Int) ∧ Hid (RowU wr w.heap.size (cmbK min xs ys m k) ∧ Below w.heap.size w wr)) (fun i _ => m - (intOf i).toNat)
    case atStart => exact ⟨0, Nat.zero_le _, rfl, Lib.hid ⟨by rw [cmbK_zero]; exact HROW1.out, HB1.out⟩⟩
    case round =>
      obtain ⟨k, hk, rfl, HI⟩ := hrel
      by_cases hkn : k < m
      · have q0 := HI.out.1.cell (cmbK_get (f := min) (xs := xs) (ys := ys) hkn)
        have f0 := HI.out.1.frozen k
        obtain ⟨x, hx⟩ : ∃ x, x = xs.getD k 0 := ⟨_, rfl⟩
        obtain ⟨y, hy⟩ : ∃ y, y = ys.getD k 0 := ⟨_, rfl⟩
        have hga := get_form xs n c k A HN.out (by omega) (by omega) wr (HR.out.below HI.out.2)
        have hgb := get_form ys m d k A2 HM.out (by omega) (by omega) wr (HU.out.below HI.out.2)
        rw [← hx] at hga
        rw [← hy] at hgb
        have HGA := Lib.hid hga
        have HGB := Lib.hid hgb
        have HP := Lib.hid (pickMin x y wr)
        have HIN := Lib.hid (show RowU (wr.setCell ⟨w.heap.size, k, none⟩ (.int .u64 ((min x y : Nat) : Int))) w.heap.size (cmbK min xs ys m (k + 1)) from by
          have := HI.out.1.set k (min x y)
          rw [hx, hy, cmbK_set] at this
          rw [hx, hy]; exact this)
        have HBN := Lib.hid (HI.out.2.setCell (p := ⟨w.heap.size, k, none⟩) (Nat.le_refl _) (.int .u64 ((min x y : Nat) : Int)))
        clear hga hgb hx hy
        generalize min x y = z at *
        go_wp2_with (first
          | (go_at_call 32; (with_reducible first | refine (HGA.out).mono ?_ | refine (HGB.out).mono ?_); rintro e w1 ⟨rfl, rfl⟩)
          | (go_at_call 31; (with_reducible refine (HP.out).mono ?_); rintro e w1 ⟨rfl, rfl⟩))
        go_roundw
        case rel => exact ⟨k + 1, by omega, by go_num, Lib.hid ⟨HIN.out, HBN.out⟩⟩
        case measure => simp [intOf]; omega
      · obtain rfl : k = m := by omega
        have hrd := HI.out.1.rd (L := k) cmbK_len.symm (by omega)
        have HRD := Lib.hid hrd
        have HS := Lib.hid (short_clk _ k k (some ⟨w.heap.size, 0, none⟩) cmbK_len.symm (by omega) wr hrd)
        have hcut := cmb_cut (f := min) rfl HL1.out HL2.out HLM.out
        have HCUT := Lib.hid hcut
        clear hkn hrd hcut
        go_wp2_with (go_at_call 30; (with_reducible refine (HS.out).mono ?_); rintro e w2 ⟨r, rfl, hr, hrn, rfl⟩; have HRR := Lib.hid hr; clear hr)
        go_ret
        refine ⟨r, k, rfl, ?_, HI.out.2⟩
        rw [← HCUT.out]
        unfold cutF
        rw [← HRR.out]
        exact HRD.out.upto r hrn
  · subst hnm
    have HLM := Lib.hid (show n = max xs.length ys.length from by omega)
    clear hmx
    go_enter Try.func27, Try.ntmps27
    go_wp2_with (at_make; go_must (refine wp_makeU rfl _ _ rfl n _ rfl rfl rfl (by omega) ?_); intro w1 hrow1 hb1; have HROW1 := Lib.hid hrow1; have HB1 := Lib.hid hb1; clear hrow1 hb1)
    go_loopw [17] (fun i wr => ∃ (k : Nat), k ≤ n ∧ i = .int .i64 (k : Int) ∧ Hid (RowU wr w.heap.size (cmbK min xs ys n k) ∧ Below w.heap.size w wr)) (fun i _ => n - (intOf i).toNat)
    case atStart => exact ⟨0, Nat.zero_le _, rfl, Lib.hid ⟨by rw [cmbK_zero]; exact HROW1.out, HB1.out⟩⟩
    case round =>
      obtain ⟨k, hk, rfl, HI⟩ := hrel
      by_cases hkn : k < n
      · have q0 := HI.out.1.cell (cmbK_get (f := min) (xs := xs) (ys := ys) hkn)
        have f0 := HI.out.1.frozen k
        obtain ⟨x, hx⟩ : ∃ x, x = xs.getD k 0 := ⟨_, rfl⟩
        obtain ⟨y, hy⟩ : ∃ y, y = ys.getD k 0 := ⟨_, rfl⟩
        have hga := get_form xs n c k A HN.out (by omega) (by omega) wr (HR.out.below HI.out.2)
        have hgb := get_form ys n d k A2 HM.out (by omega) (by omega) wr (HU.out.below HI.out.2)
        rw [← hx] at hga
        rw [← hy] at hgb
        have HGA := Lib.hid hga
        have HGB := Lib.hid hgb
        have HP := Lib.hid (pickMin x y wr)
        have HIN := Lib.hid (show RowU (wr.setCell ⟨w.heap.size, k, none⟩ (.int .u64 ((min x y : Nat) : Int))) w.heap.size (cmbK min xs ys n (k + 1)) from by
          have := HI.out.1.set k (min x y)
          rw [hx, hy, cmbK_set] at this
          rw [hx, hy]; exact this)
        have HBN := Lib.hid (HI.out.2.setCell (p := ⟨w.heap.size, k, none⟩) (Nat.le_refl _) (.int .u64 ((min x y : Nat) : Int)))
        clear hga hgb hx hy
        generalize min x y = z at *
        go_wp2_with (first
          | (go_at_call 32; (with_reducible first | refine (HGA.out).mono ?_ | refine (HGB.out).mono ?_); rintro e w1 ⟨rfl, rfl⟩)
          | (go_at_call 31; (with_reducible refine (HP.out).mono ?_); rintro e w1 ⟨rfl, rfl⟩))
        go_roundw
        case rel => exact ⟨k + 1, by omega, by go_num, Lib.hid ⟨HIN.out, HBN.out⟩⟩
        case measure => simp [intOf]; omega
      · obtain rfl : k = n := by omega
        have hrd := HI.out.1.rd (L := k) cmbK_len.symm (by omega)
        have HRD := Lib.hid hrd
        have HS := Lib.hid (short_clk _ k k (some ⟨w.heap.size, 0, none⟩) cmbK_len.symm (by omega) wr hrd)
        have hcut := cmb_cut (f := min) rfl HL1.out HL2.out HLM.out
        have HCUT := Lib.hid hcut
        clear hkn hrd hcut
        go_wp2_with (go_at_call 30; (with_reducible refine (HS.out).mono ?_); rintro e w2 ⟨r, rfl, hr, hrn, rfl⟩; have HRR := Lib.hid hr; clear hr)
        go_ret
        refine ⟨r, k, rfl, ?_, HI.out.2⟩
        rw [← HCUT.out]
        unfold cutF
        rw [← HRR.out]
        exact HRD.out.upto r hrn
  · have HLM := Lib.hid (show n = max xs.length ys.length from by omega)
    have hi : (m : Int) < (n : Int) := by omega
    clear hmx hnm
    go_enter Try.func27, Try.ntmps27
    go_wp2_with (at_make; go_must (refine wp_makeU rfl _ _ rfl n _ rfl rfl rfl (by omega) ?_); intro w1 hrow1 hb1; have HROW1 := Lib.hid hrow1; have HB1 := Lib.hid hb1; clear hrow1 hb1)
    go_loopw [17] (fun i wr => ∃ (k : Nat), k ≤ n ∧ i = .int .i64 (k : Int) ∧ Hid (RowU wr w.heap.size (cmbK min xs ys n k) ∧ Below w.heap.size w wr)) (fun i _ => n - (intOf i).toNat)
    case atStart => exact ⟨0, Nat.zero_le _, rfl, Lib.hid ⟨by rw [cmbK_zero]; exact HROW1.out, HB1.out⟩⟩
    case round =>
      obtain ⟨k, hk, rfl, HI⟩ := hrel
      by_cases hkn : k < n
      · have q0 := HI.out.1.cell (cmbK_get (f := min) (xs := xs) (ys := ys) hkn)
        have f0 := HI.out.1.frozen k
        obtain ⟨x, hx⟩ : ∃ x, x = xs.getD k 0 := ⟨_, rfl⟩
        obtain ⟨y, hy⟩ : ∃ y, y = ys.getD k 0 := ⟨_, rfl⟩
        have hga := get_form xs n c k A HN.out (by omega) (by omega) wr (HR.out.below HI.out.2)
        have hgb := get_form ys m d k A2 HM.out (by omega) (by omega) wr (HU.out.below HI.out.2)
        rw [← hx] at hga
        rw [← hy] at hgb
        have HGA := Lib.hid hga
        have HGB := Lib.hid hgb
        have HP := Lib.hid (pickMin x y wr)
        have HIN := Lib.hid (show RowU (wr.setCell ⟨w.heap.size, k, none⟩ (.int .u64 ((min x y : Nat) : Int))) w.heap.size (cmbK min xs ys n (k + 1)) from by
          have := HI.out.1.set k (min x y)
          rw [hx, hy, cmbK_set] at this
          rw [hx, hy]; exact this)
        have HBN := Lib.hid (HI.out.2.setCell (p := ⟨w.heap.size, k, none⟩) (Nat.le_refl _) (.int .u64 ((min x y : Nat) : Int)))
        clear hga hgb hx hy
        generalize min x y = z at *
        go_wp2_with (first
          | (go_at_call 32; (with_reducible first | refine (HGA.out).mono ?_ | refine (HGB.out).mono ?_); rintro e w1 ⟨rfl, rfl⟩)
          | (go_at_call 31; (with_reducible refine (HP.out).mono ?_); rintro e w1 ⟨rfl, rfl⟩))
        go_roundw
        case rel => exact ⟨k + 1, by omega, by go_num, Lib.hid ⟨HIN.out, HBN.out⟩⟩
        case measure => simp [intOf]; omega
      · obtain rfl : k = n := by omega
        have hrd := HI.out.1.rd (L := k) cmbK_len.symm (by omega)
        have HRD := Lib.hid hrd
        have HS := Lib.hid (short_clk _ k k (some ⟨w.heap.size, 0, none⟩) cmbK_len.symm (by omega) wr hrd)
        have hcut := cmb_cut (f := min) rfl HL1.out HL2.out HLM.out
        have HCUT := Lib.hid hcut
        clear hkn hrd hcut
        go_wp2_with (go_at_call 30; (with_reducible refine (HS.out).mono ?_); rintro e w2 ⟨r, rfl, hr, hrn, rfl⟩; have HRR := Lib.hid hr; clear hr)
        go_ret
        refine ⟨r, k, rfl, ?_, HI.out.2⟩
        rw [← HCUT.out]
        unfold cutF
        rw [← HRR.out]
        exact HRD.out.upto r hrn
theorem combMin_any (xs ys : List Nat) (v u : Value) (h1 : FitC xs) (h2 : FitC ys) (w : World) (h : RdU w v xs) (hu : RdU w u ys) :
    Calls Try.prog 27 #[v, u, .func (.func 31) #[] #[]] w fun e w' => ∃ r L, e = .returned (.slice (some ⟨w.heap.size, 0, none⟩) r L) ∧ RdU w' (.slice (some ⟨w.heap.size, 0, none⟩) r L) (cutF (List.zipWith min (padF xs) (padF ys))) ∧ Below w.heap.size w w' := by
  obtain ⟨A, n, c, rfl, hn⟩ := h.named
  obtain ⟨A2, m, d, rfl, hm⟩ := hu.named
  exact combMin_form xs ys n c m d A A2 hn hm h1 h2 w h hu
end Go.Proofs.Ytepafmoohlognaa
