/-
The law GaussReckons: it answers true at every input.
-/
import Derived.Test.YtkppkojpdhgicaaDoorGFewW
namespace Go.Proofs.YtkppkojpdhgicaaDoor
open Go.RowKit Go.Proofs.YtkppkojpdhgicaaDoor.Gf

theorem ownC_rd {B : Nat} {w : World} {v : Value} {xs : List (Int × Int)} (h : OwnC B w v xs) : RdC w v xs := by
  rcases h.2 with ⟨hv, hn⟩ | ⟨g, cap, cur, hv, _, hh, hnc, _, _, ht⟩
  · exact .inl ⟨hv, List.eq_nil_of_length_eq_zero hn⟩
  · refine .inr ⟨g, cap, hv, hnc, fun j x hx => ?_⟩
    obtain ⟨hj, _⟩ := List.getElem?_eq_some_iff.1 hx
    have hx' : (xs.map cvp)[j]? = some (cvp x) := by simp [hx]
    rw [cell_of_row w g j cur _ (0, 0) hh]
    rw [← ht, List.getElem?_take] at hx'
    split at hx'
    · simpa [cvp] using hx'
    · cases hx'
theorem prs_get : ∀ (xs : List (Int × Int)) (j : Nat) (x : Int × Int), xs[j]? = some x → (xs.flatMap prs)[j * 2]? = some (.int .i64 x.1) ∧ (xs.flatMap prs)[j * 2 + 1]? = some (.int .i64 x.2)
  | y :: t, 0, x, h => by
    simp at h; subst h
    simp [prs]
  | y :: t, j + 1, x, h => by
    simp at h
    have := prs_get t j x h
    rw [List.flatMap_cons, show (j + 1) * 2 = (j * 2) + 1 + 1 by omega]
    simpa [prs] using this
theorem ownP_rd {B : Nat} {w : World} {v : Value} {xs : List (Int × Int)} (h : OwnP B w v xs) : RdP w v xs := by
  rcases h.2 with ⟨hv, hn⟩ | ⟨g, cap, cur, hv, _, hh, hnc, _, _, ht⟩
  · exact .inl ⟨hv, List.eq_nil_of_length_eq_zero hn⟩
  · refine .inr ⟨g, cap, hv, hnc, (Array.getElem?_eq_some_iff.1 hh).1, fun j x hx => ?_⟩
    obtain ⟨h1, h2⟩ := prs_get xs j x hx
    rw [← ht, List.getElem?_take] at h1 h2
    rw [cell_of_row w g (j * 2) cur _ (0, 0) hh, cell_of_row w g (j * 2 + 1) cur _ (0, 0) hh]
    constructor
    · split at h1
      · simpa using h1
      · cases h1
    · split at h2
      · simpa using h2
      · cases h2

theorem runS_rg (op : Int × Int → Int × Int → Int × Int) : ∀ (xs : List (Int × Int)) (s t : Int × Int), Rg s.1 s.2 → runS op s xs = some t → Rg t.1 t.2
  | [], s, t, h, e => by cases e; exact h
  | x :: r, s, t, h, e => by
    unfold runS at e
    split at e
    · rename_i h2; exact runS_rg op r _ t h2 e
    · cases e
theorem res_both (op : Int × Int → Int × Int → Int × Int) (s : Int × Int) (hs : Rg s.1 s.2) (xs : List (Int × Int)) :
    ∃ a b q : Int, Rg a b ∧ (resV (runS op s xs)).1 = cv a b ∧ (resV (runS op s xs)).2 = q ∧ (resP (runS op s xs)).1.1 = a ∧ (resP (runS op s xs)).1.2 = b ∧ (resP (runS op s xs)).2 = q := by
  cases h : runS op s xs with
  | none => exact ⟨0, 0, 31, Rg.zero, rfl, rfl, rfl, rfl, rfl⟩
  | some t => exact ⟨t.1, t.2, 0, runS_rg op xs s t hs h, rfl, rfl, rfl, rfl, rfl⟩

/-- few. -/
theorem few_any (v : Value) (xs : List (Int × Int)) (w : World) (h : RdA w v xs) :
    Calls Tryd.prog 11 #[v] w fun e w' => ∃ u uf, e = .returned (.tuple #[u, uf]) ∧ OwnC w.heap.size w' u (fl (xs.take 30)) ∧ OwnP w.heap.size w' uf (fl (xs.take 30)) ∧ Below w.heap.size w w' := by
  rcases h with ⟨rfl, p, cap, rfl⟩ | ⟨g, off, cap, rfl, hcap, hm, hg, hc⟩
  · refine (few_empty p cap w).mono fun e w' ⟨he, hw⟩ => ⟨_, _, he, ?_, ?_, hw ▸ Below.refl _ _⟩
    · exact World.ownsRow_nil _ _ _ _
    · exact World.ownsRow_nil _ _ _ _
  · exact few_some xs _ g off cap rfl hcap hm w hg hc

/-- What stays through the law: both lists, the library's tables, and all that was there. -/
def Kp (W w : World) (v vf : Value) (xs : List (Int × Int)) : Prop := OwnC W.heap.size w v xs ∧ OwnP W.heap.size w vf xs ∧ Env w ∧ Below W.heap.size W w
theorem Kp.below {W w w' : World} {v vf : Value} {xs : List (Int × Int)} (h : Kp W w v vf xs) (hb : Below w.heap.size w w') : Kp W w' v vf xs :=
  ⟨h.1.below hb, h.2.1.below hb, h.2.2.1.below hb, h.2.2.2.trans (hb.mono h.2.2.2.size)⟩
theorem Kp.al {W w : World} {v vf : Value} {xs : List (Int × Int)} (h : Kp W w v vf xs) (o : Obj) : Kp W (w.alloc o) v vf xs := h.below ((Below.refl _ w).alloc (Nat.le_refl _) o)

theorem Kp.forms {W w : World} {v vf : Value} {xs : List (Int × Int)} (h : Kp W w v vf xs) (hm : 0 < xs.length) :
    ∃ g cap g2 cap2, v = .slice (some ⟨g, 0, none⟩) xs.length cap ∧ vf = .slice (some ⟨g2, 0, none⟩) xs.length cap2 ∧ xs.length ≤ cap ∧ xs.length ≤ cap2 := by
  rcases h.1.2 with ⟨_, hn⟩ | ⟨g, cap, cur, hv, _, _, hc, _⟩
  · omega
  · rcases h.2.1.2 with ⟨_, hn⟩ | ⟨g2, cap2, cur2, hv2, _, _, hc2, _⟩
    · omega
    · exact ⟨g, cap, g2, cap2, hv, hv2, hc, hc2⟩
theorem Kp.empty {W w : World} {v vf : Value} {xs : List (Int × Int)} (h : Kp W w v vf xs) (hm : xs.length = 0) : ∃ p cap, v = .slice p 0 cap := by
  rcases h.1.2 with ⟨hv, _⟩ | ⟨g, cap, cur, hv, _⟩
  · exact ⟨_, _, hv⟩
  · exact ⟨_, _, by rw [hm] at hv; exact hv⟩
/-- What the round keeps: the cells that it reads, and what stays. -/
abbrev Sk (W : World) (g cap g2 cap2 k : Nat) (c d : Int) (xs : List (Int × Int)) (w : World) : Prop :=
  w.cell? ⟨g, k, none⟩ = some (cv c d) ∧ w.cell? ⟨g2, k * 2, none⟩ = some (.int .i64 c) ∧ w.cell? ⟨g2, k * 2 + 1, none⟩ = some (.int .i64 d) ∧ Kp W w (.slice (some ⟨g, 0, none⟩) xs.length cap) (.slice (some ⟨g2, 0, none⟩) xs.length cap2) xs
theorem Kp.sk {W w : World} {g cap g2 cap2 k : Nat} {c d : Int} {xs : List (Int × Int)} (h : Kp W w (.slice (some ⟨g, 0, none⟩) xs.length cap) (.slice (some ⟨g2, 0, none⟩) xs.length cap2) xs) (hx : xs[k]? = some (c, d)) : Sk W g cap g2 cap2 k c d xs w := by
  refine ⟨?_, ?_, ?_, h⟩
  · rcases ownC_rd h.1 with ⟨hv, _⟩ | ⟨g', cap', hv, _, hc⟩
    · cases hv
    · cases hv; exact hc k _ hx
  · rcases ownP_rd h.2.1 with ⟨hv, _⟩ | ⟨g', cap', hv, _, _, hc⟩
    · cases hv
    · cases hv; exact (hc k _ hx).1
  · rcases ownP_rd h.2.1 with ⟨hv, _⟩ | ⟨g', cap', hv, _, _, hc⟩
    · cases hv
    · cases hv; exact (hc k _ hx).2
theorem Sk.below {W w w' : World} {g cap g2 cap2 k : Nat} {c d : Int} {xs : List (Int × Int)} (h : Sk W g cap g2 cap2 k c d xs w) (hb : Below w.heap.size w w') : Sk W g cap g2 cap2 k c d xs w' := by
  obtain ⟨h1, h2, h3, h4⟩ := h
  exact ⟨by rw [bcell hb _ _ (World.block_lt_of_cell? _ _ h1)]; exact h1, by rw [bcell hb _ _ (World.block_lt_of_cell? _ _ h2)]; exact h2, by rw [bcell hb _ _ (World.block_lt_of_cell? _ _ h3)]; exact h3, h4.below hb⟩
theorem rg_neg {c d : Int} (h : Rg c d) : Rg c (-d) := by unfold Rg at *; omega

set_option maxRecDepth 20000 in
set_option maxHeartbeats 8000000 in
theorem law_reckons (l : Value) (ls : List (Int × Int)) (w : World) (h : RdA w l ls) (hE : Env w) :
    Calls Tryd.prog 4 #[l] w fun e w' => e = .returned (.bool true) ∧ Below w.heap.size w w' := by
  have hfew := few_any l ls w h
  have hrg : ∀ x ∈ fl (ls.take 30), Rg x.1 x.2 := fl_rg
  have hll := fl_len ls 30
  generalize fl (ls.take 30) = xs at hfew hrg hll
  obtain ⟨a1, b1, q1, hr1, s1, s2, s3, s4, s5⟩ := res_both addO (0, 0) Rg.zero xs
  obtain ⟨a2, b2, q2, hr2, t1, t2, t3, t4, t5⟩ := res_both mulO (1, 0) (show Rg 1 0 by decide) xs
  have hA := fun v w h => add_any v xs w h (by omega) hrg
  have hM := fun v w h => mul_any v xs w h (by omega) hrg
  have hRA := fun v w h => radd_any v xs w h (by omega) hrg
  have hRM := fun v w h => rmul_any v xs w h (by omega) hrg
  rw [s1, s2] at hA
  rw [t1, t2] at hM
  rw [s3, s4, s5] at hRA
  rw [t3, t4, t5] at hRM
  clear s1 s2 s3 s4 s5 t1 t2 t3 t4 t5
  have HRG := Lib.hid hrg; clear hrg
  go_enter Tryd.func4, Tryd.ntmps4
  go_wp2_with fail
  go_must (refine hfew.mono ?_); rintro e w1 ⟨v, vf, rfl, ho1, hf1, hb1⟩
  have HK1 : Hid (Kp w w1 v vf xs) := ⟨ho1, hf1, hE.below hb1, hb1⟩
  clear ho1 hf1 hb1
  go_wp2_with fail
  go_must (refine (hA v _ (ownC_rd HK1.out.1)).mono ?_); rintro e w2 ⟨rfl, rfl⟩
  go_wp2_with fail
  go_must (refine (hRA vf _ (ownP_rd HK1.out.2.1)).mono ?_); rintro e w3 ⟨rfl, hb3⟩
  have HK3 := Lib.hid (HK1.out.below hb3)
  have HK3' := Lib.hid (HK3.out.al (.cells #[.int .i64 a1, .int .i64 b1] 28))
  clear HK1 hb3
  go_wp2_with fail
  go_must (refine (hM v _ (ownC_rd HK3'.out.1)).mono ?_); rintro e w4 ⟨rfl, rfl⟩
  go_wp2_with fail
  go_must (refine (hRM vf _ (ownP_rd HK3'.out.2.1)).mono ?_); rintro e w5 ⟨rfl, hb5⟩
  obtain ⟨c0, c1, _, _, hsz5⟩ := two_cells hb5
  have HK5 := Lib.hid (HK3'.out.below hb5)
  clear HK3 HK3' hb5
  have HK5' := Lib.hid (HK5.out.al (.cells #[.int .i64 a2, .int .i64 b2] 28))
  clear HK5 hA hM hRA hRM hfew
  go_wp2_with fail
  go_must (refine (is_same' a1 b1 hr1 _).mono ?_); rintro e w6 ⟨rfl, hb6⟩
  obtain ⟨d0, d1, _, _, hsz6⟩ := two_cells hb6
  have HK6 := Lib.hid (HK5'.out.below hb6)
  clear HK5' hb6 c0 c1
  go_wp2_with fail
  go_must (refine (is_same' a2 b2 hr2 _).mono ?_); rintro e w7 ⟨rfl, hb7⟩
  have HK7 := Lib.hid (HK6.out.below hb7)
  clear HK6 hb7 d0 d1
  rcases Nat.eq_zero_or_pos xs.length with hm0 | hm0
  · obtain ⟨p, cap, rfl⟩ := HK7.out.empty hm0
    have hE7 := HK7.out.2.2.1
    have hB7 := HK7.out.2.2.2
    clear HK7 hm0
    go_wp2_with fail
    refine wp_loop_rounds 1 ?_; rw [rounds_succ]
    go_wp2_with fail
    go_must (refine (awake_any _ hE7).mono ?_); rintro e w8 ⟨rfl, hb8⟩
    have hbF := hB7.trans (hb8.mono hB7.size)
    go_wp2
    go_ret
    exact ⟨rfl, hbF⟩
  · obtain ⟨g, cap, g2, cap2, rfl, rfl, hcap, hcap2⟩ := HK7.out.forms hm0
    obtain ⟨n, hn⟩ : ∃ n, n = xs.length := ⟨_, rfl⟩
    rw [← hn] at hll hm0 hcap hcap2 ⊢
    have HN := Lib.hid hn
    clear hn
    go_wp2_with fail
    go_loopw [13] (fun iv wr => ∃ k : Nat, k ≤ n ∧ iv = .int .i64 (k : Int) ∧ Hid (Kp w wr (.slice (some ⟨g, 0, none⟩) xs.length cap) (.slice (some ⟨g2, 0, none⟩) xs.length cap2) xs)) (fun iv _ => n - (intOf iv).toNat)
    case atStart => exact ⟨0, Nat.zero_le _, rfl, HK7.out⟩
    case round =>
      obtain ⟨k, hk, rfl, HK⟩ := hrel
      by_cases hkn : k < n
      · obtain ⟨⟨c, d⟩, hx⟩ : ∃ x, xs[k]? = some x := ⟨_, List.getElem?_eq_getElem (by rw [← HN.out]; exact hkn)⟩
        have hcd := HRG.out (c, d) (List.mem_of_getElem? hx)
        have hS0 := (HK.out.sk hx).below (Below.refl _ wr).drew
        obtain ⟨p1, p2⟩ := rg_abs hcd
        obtain ⟨m1, m1'⟩ := pb c c p1 p1
        obtain ⟨m2, m2'⟩ := pb d d p2 p2
        have hCj := fun w => conj_any c d hcd w
        have hNm := fun w => norm_any c d hcd w
        have hIs := fun w => is_same' c (-d) (rg_neg hcd) w
        have hw0 : IntKind.i64.wrap (0 - d) = -d := by rw [IntWalk.i64_in _ (by omega)]; omega
        have hw0' : IntKind.i64.wrap (-d) = -d := IntWalk.i64_in _ (by omega)
        have hw1 : IntKind.i64.wrap (c * c) = c * c := IntWalk.i64_in _ (by omega)
        have hw2 : IntKind.i64.wrap (d * d) = d * d := IntWalk.i64_in _ (by omega)
        have hw3 : IntKind.i64.wrap (c * c + d * d) = c * c + d * d := IntWalk.i64_in _ (by omega)
        have hk0 : (0 : Int) ≤ (k : Int) := by omega
        have hki : (k : Int) < (n : Int) := by omega
        clear hcd hx HK p1 p2 m1 m1' m2 m2'
        go_wp2_with fail
        go_region_held3 (fun w' => w'.cell? ⟨g, k, none⟩ = some (cv c d) ∧ w'.cell? ⟨g2, k * 2, none⟩ = some (.int .i64 c) ∧ w'.cell? ⟨g2, k * 2 + 1, none⟩ = some (.int .i64 d) ∧ Kp w w' (.slice (some ⟨g, 0, none⟩) xs.length cap) (.slice (some ⟨g2, 0, none⟩) xs.length cap2) xs)
          (first | assumption | go_keep)
          (first
            | (go_at_call 16; (with_reducible refine (hCj _).mono ?_); rintro e W ⟨rfl, rfl⟩)
            | (go_at_call 17; (with_reducible refine (hNm _).mono ?_); rintro e W ⟨rfl, rfl⟩)
            | (go_at_call 9; (with_reducible refine (hIs _).mono ?_); rintro e W ⟨rfl, hbW⟩; have SW := Sk.below (by assumption) hbW))
        all_goals
          have HKW := Lib.hid SW.2.2.2
          clear hw0 hw0' hw1 hw2 hw3 hCj hNm hIs
          go_wp2
          go_roundw
          case rel => exact ⟨k + 1, by omega, by go_num, HKW.out⟩
          case measure => simp [intOf]; omega
      · obtain rfl : k = n := by omega
        have hE9 := HK.out.2.2.1
        have hB9 := HK.out.2.2.2
        clear HK HK7
        go_wp2_with fail
        go_must (refine (awake_any _ hE9).mono ?_); rintro e w8 ⟨rfl, hb8⟩
        have hbF := hB9.trans (hb8.mono hB9.size)
        go_wp2
        go_ret
        exact ⟨rfl, hbF⟩
end Go.Proofs.YtkppkojpdhgicaaDoor
