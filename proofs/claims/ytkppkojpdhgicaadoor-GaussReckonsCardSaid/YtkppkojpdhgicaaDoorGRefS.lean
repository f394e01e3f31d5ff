/-
The reference's Add and Mul, by contracts.
-/
import Derived.Test.YtkppkojpdhgicaaDoorGNorm
import Derived.StillTailTactics
import Derived.IntWalk
namespace Go.Proofs.YtkppkojpdhgicaaDoor
open Go.RowKit Go.Proofs.YtkppkojpdhgicaaDoor.Gf

/-- What the reference answers. -/
def resP : Option (Int × Int) → (Int × Int) × Int
  | some s => (s, 0)
  | none => ((0, 0), 31)
/-- The slice value v reads as these pairs. -/
def RdP (w : World) (v : Value) (xs : List (Int × Int)) : Prop :=
  (v = .slice none 0 0 ∧ xs = []) ∨ ∃ g cap, v = .slice (some ⟨g, 0, none⟩) xs.length cap ∧ xs.length ≤ cap ∧ g < w.heap.size ∧ ∀ j x, xs[j]? = some x → w.cell? ⟨g, j * 2, none⟩ = some (.int .i64 x.1) ∧ w.cell? ⟨g, j * 2 + 1, none⟩ = some (.int .i64 x.2)

/-- The two blocks of a reckoning: what is reckoned, and the result's. -/
def St (w : World) (a b : Int) (wr : World) : Prop :=
  (wr.cell? ⟨w.heap.size, 0, none⟩ = some (.int .i64 0) ∧ wr.cell? ⟨w.heap.size, 1, none⟩ = some (.int .i64 0) ∧ wr.frozen? ⟨w.heap.size, 0, none⟩ = false ∧ wr.frozen? ⟨w.heap.size, 1, none⟩ = false) ∧
  (wr.cell? ⟨w.heap.size + 1, 0, none⟩ = some (.int .i64 a) ∧ wr.cell? ⟨w.heap.size + 1, 1, none⟩ = some (.int .i64 b) ∧ wr.frozen? ⟨w.heap.size + 1, 0, none⟩ = false ∧ wr.frozen? ⟨w.heap.size + 1, 1, none⟩ = false) ∧
  w.heap.size + 1 < wr.heap.size ∧ Below w.heap.size w wr
theorem St.start (w : World) (a b : Int) (T : TypeId) : St w a b ((w.alloc (.cells #[.int .i64 0, .int .i64 0] T)).alloc (.cells #[.int .i64 a, .int .i64 b] T)) := by
  obtain ⟨h1, h2, h3⟩ := four_cells (w := w) (x := .int .i64 0) (y := .int .i64 0) (x' := .int .i64 a) (y' := .int .i64 b) (T := T) (Below.refl _ _)
  exact ⟨h1, h2, h3, ((Below.refl _ w).alloc (Nat.le_refl _) _).alloc (by simp) _⟩
theorem St.below {w wr w2 : World} {a b : Int} (h : St w a b wr) (hb : Below wr.heap.size wr w2) : St w a b w2 := by
  obtain ⟨⟨a1, a2, a3, a4⟩, ⟨b1, b2, b3, b4⟩, hs, h4⟩ := h
  have hsz := hb.size
  refine ⟨⟨?_, ?_, ?_, ?_⟩, ⟨?_, ?_, ?_, ?_⟩, by omega, h4.trans (hb.mono h4.size)⟩
  · rw [bcell hb _ _ (by omega)]; exact a1
  · rw [bcell hb _ _ (by omega)]; exact a2
  · rw [bfroz hb _ _ (by omega)]; exact a3
  · rw [bfroz hb _ _ (by omega)]; exact a4
  · rw [bcell hb _ _ (by omega)]; exact b1
  · rw [bcell hb _ _ (by omega)]; exact b2
  · rw [bfroz hb _ _ (by omega)]; exact b3
  · rw [bfroz hb _ _ (by omega)]; exact b4
theorem St.set {w wr : World} {a b : Int} (h : St w a b wr) (a' b' : Int) : St w a' b' ((wr.setCell ⟨w.heap.size + 1, 0, none⟩ (.int .i64 a')).setCell ⟨w.heap.size + 1, 1, none⟩ (.int .i64 b')) := by
  obtain ⟨⟨a1, a2, a3, a4⟩, ⟨b1, b2, b3, b4⟩, hs, h4⟩ := h
  have n1 : ∀ o o', (⟨w.heap.size + 1, o, none⟩ : Addr) ≠ ⟨w.heap.size, o', none⟩ := fun o o' e => by
    injection e with e1; omega
  have n2 : (⟨w.heap.size + 1, 1, none⟩ : Addr) ≠ ⟨w.heap.size + 1, 0, none⟩ := fun e => by injection e with _ e2; cases e2
  have n3 : (⟨w.heap.size + 1, 0, none⟩ : Addr) ≠ ⟨w.heap.size + 1, 1, none⟩ := fun e => by injection e with _ e2; cases e2
  refine ⟨⟨?_, ?_, by simpa using a3, by simpa using a4⟩, ⟨?_, ?_, by simpa using b3, by simpa using b4⟩, ?_, (h4.setCell (by simp) _).setCell (by simp) _⟩
  · rw [World.cell?_setCell_other _ _ _ _ (n1 _ _), World.cell?_setCell_other _ _ _ _ (n1 _ _)]; exact a1
  · rw [World.cell?_setCell_other _ _ _ _ (n1 _ _), World.cell?_setCell_other _ _ _ _ (n1 _ _)]; exact a2
  · rw [World.cell?_setCell_other _ _ _ _ n2]; exact World.cell?_setCell_same _ _ _ b1
  · refine World.cell?_setCell_same _ _ _ (u := .int .i64 b) ?_
    rw [World.cell?_setCell_other _ _ _ _ n3]; exact b2
  · simpa [World.setCell] using hs
/-- The result's block is written. -/
theorem St.out {w wr : World} {a b : Int} (h : St w a b wr) (x y : Value) : Below w.heap.size w ((wr.setCell ⟨w.heap.size, 0, none⟩ x).setCell ⟨w.heap.size, 1, none⟩ y) :=
  (h.2.2.2.setCell (Nat.le_refl _) _).setCell (Nat.le_refl _) _
theorem ob : ∀ (a b c d : Int), Rg a b → Rg c d → (-2097152 ≤ a + c ∧ a + c ≤ 2097152) ∧ (-2097152 ≤ b + d ∧ b + d ≤ 2097152) := fun a b c d h k => by unfold Rg at h k; omega

set_option maxRecDepth 20000 in
set_option maxHeartbeats 4000000 in
theorem radd_some (xs : List (Int × Int)) (n g cap : Nat) (hn : n = xs.length) (hl : n ≤ 1000) (hcap : n ≤ cap) (hr : ∀ x ∈ xs, Rg x.1 x.2) (w : World) (hg : g < w.heap.size)
    (hc : ∀ j x, xs[j]? = some x → w.cell? ⟨g, j * 2, none⟩ = some (.int .i64 x.1) ∧ w.cell? ⟨g, j * 2 + 1, none⟩ = some (.int .i64 x.2)) :
    Calls Tryd.prog 13 #[.slice (some ⟨g, 0, none⟩) n cap] w fun e w' =>
      e = .returned (.tuple #[.agg #[.int .i64 (resP (runS addO (0, 0) xs)).1.1, .int .i64 (resP (runS addO (0, 0) xs)).1.2], .int .i64 (resP (runS addO (0, 0) xs)).2]) ∧ Below w.heap.size w w' := by
  have HN := Lib.hid hn; clear hn
  have HC := Lib.hid hc; clear hc
  have HR := Lib.hid hr; clear hr
  go_enter Tryd.func13, Tryd.ntmps13
  go_wp2
  go_loopw [5] (fun iv wr => ∃ (k : Nat) (a b : Int), k ≤ n ∧ iv = .int .i64 (k : Int) ∧ Hid (St w a b wr) ∧ Hid (Rg a b) ∧ Hid (runS addO (0, 0) xs = runS addO (a, b) (xs.drop k))) (fun iv _ => n - (intOf iv).toNat)
  case atStart => exact ⟨0, 0, 0, Nat.zero_le _, rfl, St.start _ _ _ _, Rg.zero, by show _ = runS addO (0, 0) (xs.drop 0); rw [List.drop_zero]⟩
  case round =>
    obtain ⟨k, a, b, hk, rfl, HSt, HG, HS⟩ := hrel
    by_cases hkn : k < n
    · obtain ⟨⟨c, d⟩, hx⟩ : ∃ x, xs[k]? = some x := ⟨_, List.getElem?_eq_getElem (by rw [← HN.out]; exact hkn)⟩
      obtain ⟨hc0, hc1⟩ := HC.out k (c, d) hx
      have hcd := HR.out (c, d) (List.mem_of_getElem? hx)
      have hd := drop_at hx
      have hbw := HSt.out.2.2.2
      have hsz := HSt.out.2.2.1
      rw [← bcell hbw _ _ hg] at hc0 hc1
      obtain ⟨⟨_, _, _, _⟩, ⟨b1, b2, b3, b4⟩, _, _⟩ := HSt.out
      obtain ⟨⟨o1, o2⟩, o3, o4⟩ := ob a b c d HG.out hcd
      have hst : runS addO (0, 0) xs = if Rg (a + c) (b + d) then runS addO (a + c, b + d) (xs.drop (k + 1)) else none := by rw [HS.out, hd]; rfl
      have HT := Lib.hid hst
      have HCD := Lib.hid hcd
      clear hst hd hx hbw hcd
      go_wp2_with fail
      refine wp_region_still_tail 17 (by kernel_rfl) (by kernel_rfl) ?_
      simp only [List.take_succ_cons, List.take_zero, List.drop_succ_cons, List.drop_zero]
      repeat still_step
      refine wpStill_nil ?_
      change wpList _ _ _ _ _ wr.drew
      have hSD := HSt.out.below (Below.refl _ wr).drew
      have HSD := Lib.hid hSD
      clear hSD b1 b2 b3 b4 hc0 hc1
      generalize wr.drew = wd at HSD ⊢
      obtain ⟨⟨_, _, _, _⟩, ⟨b1, b2, b3, b4⟩, _, _⟩ := HSD.out
      have hw1 : IntKind.i64.wrap (a + c) = a + c := IntWalk.i64_in _ (by omega)
      have hw2 : IntKind.i64.wrap (b + d) = b + d := IntWalk.i64_in _ (by omega)
      rw [hw1, hw2]
      clear hw1 hw2
      have HS2 := Lib.hid (HSD.out.set (a + c) (b + d))
      by_cases hg2 : Rg (a + c) (b + d)
      · have HT2 := Lib.hid (HT.out.trans (if_pos hg2))
        clear HT
        go_wp2_with fail
        go_must (refine (fits_t' (a + c) (b + d) hg2 _).mono ?_); rintro e1 w1 ⟨rfl, hb1⟩
        have HS3 := Lib.hid (HS2.out.below hb1)
        clear HS2 HSD b1 b2 b3 b4
        go_wp2
        go_roundw
        case rel => exact ⟨k + 1, a + c, b + d, by omega, by go_num, HS3.out, hg2, HT2.out⟩
        case measure => simp [intOf]; omega
      · have HT2 := Lib.hid (HT.out.trans (if_neg hg2))
        clear HT
        go_wp2_with fail
        go_must (refine (fits_f' (a + c) (b + d) hg2 _).mono ?_); rintro e1 w1 ⟨rfl, hb1⟩
        have HS3 := Lib.hid (HS2.out.below hb1)
        clear HS2 HSD b1 b2 b3 b4
        obtain ⟨⟨a1, a2, a3, a4⟩, ⟨b1, b2, b3, b4⟩, _, _⟩ := HS3.out
        go_wp2
        refine bodyPost_ret (v := .tuple #[.agg #[.int .i64 0, .int .i64 0], .int .i64 31]) (by simp [results, Tryd.results13, go_sem, a1, a2]) rfl ⟨?_, HS3.out.out _ _⟩
        rw [HT2.out]; rfl
    · obtain rfl : k = n := by omega
      obtain ⟨⟨a1, a2, a3, a4⟩, ⟨b1, b2, b3, b4⟩, _, _⟩ := HSt.out
      go_wp2
      refine bodyPost_ret (v := .tuple #[.agg #[.int .i64 a, .int .i64 b], .int .i64 0]) (by simp [results, Tryd.results13, go_sem, a1, a2]) rfl ⟨?_, HSt.out.out _ _⟩
      rw [HS.out, List.drop_of_length_le (by rw [← HN.out]; exact Nat.le_refl _)]; rfl

theorem radd_none (w : World) :
    Calls Tryd.prog 13 #[.slice none 0 0] w fun e w' => e = .returned (.tuple #[.agg #[.int .i64 0, .int .i64 0], .int .i64 0]) ∧ Below w.heap.size w w' := by
  have HSt := Lib.hid (St.start w 0 0 28)
  obtain ⟨⟨a1, a2, a3, a4⟩, ⟨b1, b2, b3, b4⟩, _, _⟩ := HSt.out
  go_enter Tryd.func13, Tryd.ntmps13
  go_wp2
  refine wp_loop_rounds 1 ?_; rw [rounds_succ]
  go_wp2
  refine bodyPost_ret (v := .tuple #[.agg #[.int .i64 0, .int .i64 0], .int .i64 0]) (by simp [results, Tryd.results13, go_sem, a1, a2]) rfl ⟨rfl, ?_⟩
  first
    | exact HSt.out.out _ _
    | exact HSt.out.2.2.2
    | exact ((Below.refl _ w).alloc (Nat.le_refl _) _).alloc (by simp) _

/-- ref.Add. -/
theorem radd_any (v : Value) (xs : List (Int × Int)) (w : World) (h : RdP w v xs) (hl : xs.length ≤ 1000) (hr : ∀ x ∈ xs, Rg x.1 x.2) :
    Calls Tryd.prog 13 #[v] w fun e w' =>
      e = .returned (.tuple #[.agg #[.int .i64 (resP (runS addO (0, 0) xs)).1.1, .int .i64 (resP (runS addO (0, 0) xs)).1.2], .int .i64 (resP (runS addO (0, 0) xs)).2]) ∧ Below w.heap.size w w' := by
  rcases h with ⟨rfl, rfl⟩ | ⟨g, cap, rfl, hcap, hg, hc⟩
  · exact radd_none w
  · exact radd_some xs _ g cap rfl hl hcap hr w hg hc
end Go.Proofs.YtkppkojpdhgicaaDoor
