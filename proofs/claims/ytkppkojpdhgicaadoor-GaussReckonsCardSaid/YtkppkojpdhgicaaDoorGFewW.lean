/-
The law's few, walked.
-/
import Derived.Test.YtkppkojpdhgicaaDoorGFew
namespace Go.Proofs.YtkppkojpdhgicaaDoor
open Go.RowKit Go.Proofs.YtkppkojpdhgicaaDoor.Gf

/-- The argument l reads as these pairs. -/
def RdA (w : World) (v : Value) (xs : List (Int × Int)) : Prop :=
  (xs = [] ∧ ∃ a cap, v = .slice a 0 cap) ∨ ∃ g off cap, v = .slice (some ⟨g, off, none⟩) xs.length cap ∧ xs.length ≤ cap ∧ cap ≤ maxLen ∧ g < w.heap.size ∧
    ∀ j x, xs[j]? = some x → w.cell? ⟨g, off + j * 2, none⟩ = some (.int .i64 x.1) ∧ w.cell? ⟨g, off + j * 2 + 1, none⟩ = some (.int .i64 x.2)

theorem few_empty (p : Option Addr) (cap : Nat) (w : World) :
    Calls Tryd.prog 11 #[.slice p 0 cap] w fun e w' => e = .returned (.tuple #[.slice none 0 0, .slice none 0 0]) ∧ w = w' := by
  go_enter Tryd.func11, Tryd.ntmps11
  go_wp2
  refine wp_loop_rounds 1 ?_; rw [rounds_succ]
  go_wp2
  go_ret2
  exact ⟨rfl, rfl⟩

set_option maxRecDepth 20000 in
set_option maxHeartbeats 4000000 in
theorem few_some (xs : List (Int × Int)) (n g off cap : Nat) (hn : n = xs.length) (hcap : n ≤ cap) (hmax : cap ≤ maxLen) (w : World) (hg : g < w.heap.size)
    (hc : ∀ j x, xs[j]? = some x → w.cell? ⟨g, off + j * 2, none⟩ = some (.int .i64 x.1) ∧ w.cell? ⟨g, off + j * 2 + 1, none⟩ = some (.int .i64 x.2)) :
    Calls Tryd.prog 11 #[.slice (some ⟨g, off, none⟩) n cap] w fun e w' => ∃ v vf, e = .returned (.tuple #[v, vf]) ∧ OwnC w.heap.size w' v (fl (xs.take 30)) ∧ OwnP w.heap.size w' vf (fl (xs.take 30)) ∧ Below w.heap.size w w' := by
  unfold maxLen at hmax
  have HN := Lib.hid hn; clear hn
  have HC := Lib.hid hc; clear hc
  go_enter Tryd.func11, Tryd.ntmps11
  go_wp2
  go_loopw [4, 5, 6] (fun v vf iv wr => ∃ k : Nat, k ≤ n ∧ k ≤ 30 ∧ iv = .int .i64 (k : Int) ∧ Hid (OwnC w.heap.size wr v (fl (xs.take k))) ∧ Hid (OwnP w.heap.size wr vf (fl (xs.take k))) ∧ Hid (Below w.heap.size w wr)) (fun _ _ iv _ => n - (intOf iv).toNat)
  case atStart => exact ⟨0, Nat.zero_le _, by omega, rfl, World.ownsRow_nil _ _ _ _, World.ownsRow_nil _ _ _ _, Below.refl _ _⟩
  case round =>
    obtain ⟨k, hk, hk30, rfl, HO, HF, HB⟩ := hrel
    by_cases hkn : k < n
    · by_cases hk3 : k < 30
      · obtain ⟨⟨c, d⟩, hx⟩ : ∃ x, xs[k]? = some x := ⟨_, List.getElem?_eq_getElem (by rw [← HN.out]; exact hkn)⟩
        obtain ⟨hc0, hc1⟩ := HC.out k (c, d) hx
        have hBsz := HB.out.size
        rw [← bcell HB.out _ _ hg] at hc0 hc1
        by_cases hr : Rg c d
        · have hfl := fl_in hx hr
          have hll := fl_len xs k
          have HFL := Lib.hid hfl
          have HX := Lib.hid hx
          clear hfl hx
          go_wp2_with fail
          go_must (refine (fits_t' c d hr _).mono ?_); rintro e1 w1 ⟨rfl, hb1⟩
          rw [← bcell hb1 _ _ (by omega)] at hc0 hc1
          have HB1 := Lib.hid (HB.out.trans (hb1.mono hBsz))
          have HO1 := Lib.hid (HO.out.below hb1)
          have HF1 := Lib.hid (HF.out.below hb1)
          clear HB HO HF hb1
          go_wp2_with fail
          go_must (refine (to_in' c d hr _).mono ?_); rintro e2 w2 ⟨rfl, hb2⟩
          have hB1sz := HB1.out.size
          have HB2 := Lib.hid (HB1.out.trans (hb2.mono hB1sz))
          have HO2 := Lib.hid (HO1.out.below hb2)
          have HF2 := Lib.hid (HF1.out.below hb2)
          have hB2sz := HB2.out.size
          clear HB1 HO1 HF1 hb2 hc0 hc1
          go_wp2_with (first
            | (at_builtin; refine wp_appC rfl _ _ rfl w.heap.size _ (fl (xs.take k)) rfl HO2.out c d rfl (by omega) (by omega) _ _ HF2.out ?_; intro v3 w3 ho3 hf3 hb3 hs3; have HB3 := Lib.hid (HB2.out.trans hb3); have HO3 := Lib.hid ho3; have HF3 := Lib.hid hf3; have hcc := HC.out k (c, d) HX.out; rw [← bcell HB3.out _ _ hg, ← bcell HB3.out _ _ hg] at hcc; obtain ⟨hd0, hd1⟩ := hcc; have hB3sz := HB3.out.size; clear ho3 hf3 hb3)
            | (at_builtin; refine wp_appP rfl _ _ rfl w.heap.size _ (fl (xs.take k)) rfl HF3.out c d rfl (by omega) (by omega) _ _ HO3.out ?_; intro v4 w4 hf4 ho4 hb4 hs4; have HB4 := Lib.hid (HB3.out.trans hb4); have HO4 := Lib.hid ho4; have HF4 := Lib.hid hf4; clear hf4 ho4 hb4 hd0 hd1))
          go_roundw
          case rel => exact ⟨k + 1, by omega, by omega, by go_num, by show OwnC _ _ _ _; rw [HFL.out]; exact HO4.out, by show OwnP _ _ _ _; rw [HFL.out]; exact HF4.out, HB4.out⟩
          case measure => simp [intOf]; omega
        · have hfl := fl_out hx hr
          have HFL := Lib.hid hfl
          clear hfl hx
          go_wp2_with fail
          go_must (refine (fits_f' c d hr _).mono ?_); rintro e1 w1 ⟨rfl, hb1⟩
          have HB1 := Lib.hid (HB.out.trans (hb1.mono hBsz))
          have HO1 := Lib.hid (HO.out.below hb1)
          have HF1 := Lib.hid (HF.out.below hb1)
          clear HB HO HF hb1 hc0 hc1
          go_wp2
          go_roundw
          case rel => exact ⟨k + 1, by omega, by omega, by go_num, by show OwnC _ _ _ _; rw [HFL.out]; exact HO1.out, by show OwnP _ _ _ _; rw [HFL.out]; exact HF1.out, HB1.out⟩
          case measure => simp [intOf]; omega
      · obtain rfl : k = 30 := by omega
        go_wp2
        go_ret2
        exact ⟨_, _, rfl, HO.out, HF.out, HB.out⟩
    · obtain rfl : k = n := by omega
      have hte : xs.take k = xs.take 30 := by
        rw [List.take_of_length_le (by rw [← HN.out]; exact Nat.le_refl _), List.take_of_length_le (by rw [← HN.out]; exact hk30)]
      have HTE := Lib.hid hte
      clear hte
      go_wp2
      go_ret2
      refine ⟨_, _, rfl, ?_, ?_, HB.out⟩
      · rw [← HTE.out]; exact HO.out
      · rw [← HTE.out]; exact HF.out
end Go.Proofs.YtkppkojpdhgicaaDoor
