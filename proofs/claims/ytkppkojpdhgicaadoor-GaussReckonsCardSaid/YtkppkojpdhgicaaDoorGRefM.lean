/-
The reference's Mul, by its contract.
-/
import Derived.Test.YtkppkojpdhgicaaDoorGRefS
namespace Go.Proofs.YtkppkojpdhgicaaDoor
open Go.RowKit Go.Proofs.YtkppkojpdhgicaaDoor.Gf

theorem pb (p q : Int) (hp : p.natAbs ≤ 1048576) (hq : q.natAbs ≤ 1048576) : -1099511627776 ≤ p * q ∧ p * q ≤ 1099511627776 := by
  have : (p * q).natAbs ≤ 1099511627776 := by rw [Int.natAbs_mul]; exact Nat.le_trans (Nat.mul_le_mul hp hq) (by decide)
  omega

set_option maxRecDepth 20000 in
set_option maxHeartbeats 4000000 in
theorem rmul_some (xs : List (Int × Int)) (n g cap : Nat) (hn : n = xs.length) (hl : n ≤ 1000) (hcap : n ≤ cap) (hr : ∀ x ∈ xs, Rg x.1 x.2) (w : World) (hg : g < w.heap.size)
    (hc : ∀ j x, xs[j]? = some x → w.cell? ⟨g, j * 2, none⟩ = some (.int .i64 x.1) ∧ w.cell? ⟨g, j * 2 + 1, none⟩ = some (.int .i64 x.2)) :
    Calls Tryd.prog 15 #[.slice (some ⟨g, 0, none⟩) n cap] w fun e w' =>
      e = .returned (.tuple #[.agg #[.int .i64 (resP (runS mulO (1, 0) xs)).1.1, .int .i64 (resP (runS mulO (1, 0) xs)).1.2], .int .i64 (resP (runS mulO (1, 0) xs)).2]) ∧ Below w.heap.size w w' := by
  have HN := Lib.hid hn; clear hn
  have HC := Lib.hid hc; clear hc
  have HR := Lib.hid hr; clear hr
  go_enter Tryd.func15, Tryd.ntmps15
  go_wp2
  go_loopw [5] (fun iv wr => ∃ (k : Nat) (a b : Int), k ≤ n ∧ iv = .int .i64 (k : Int) ∧ Hid (St w a b wr) ∧ Hid (Rg a b) ∧ Hid (runS mulO (1, 0) xs = runS mulO (a, b) (xs.drop k))) (fun iv _ => n - (intOf iv).toNat)
  case atStart => exact ⟨0, 1, 0, Nat.zero_le _, rfl, St.start _ _ _ _, show Rg 1 0 by decide, by show _ = runS mulO (1, 0) (xs.drop 0); rw [List.drop_zero]⟩
  case round =>
    obtain ⟨k, a, b, hk, rfl, HSt, HG, HS⟩ := hrel
    by_cases hkn : k < n
    · obtain ⟨⟨c, d⟩, hx⟩ : ∃ x, xs[k]? = some x := ⟨_, List.getElem?_eq_getElem (by rw [← HN.out]; exact hkn)⟩
      obtain ⟨hc0, hc1⟩ := HC.out k (c, d) hx
      have hcd := HR.out (c, d) (List.mem_of_getElem? hx)
      have hd := drop_at hx
      have hbw := HSt.out.2.2.2
      have hsz := HSt.out.2.2.1
      rw [← bcell hbw _ _ hg] at hc0 hc1
      obtain ⟨⟨_, _, _, _⟩, ⟨b1, b2, b3, b4⟩, _, _⟩ := HSt.out
      have hst : runS mulO (1, 0) xs = if Rg (a * c - b * d) (a * d + b * c) then runS mulO (a * c - b * d, a * d + b * c) (xs.drop (k + 1)) else none := by rw [HS.out, hd]; rfl
      have HT := Lib.hid hst
      obtain ⟨p1, p2⟩ := rg_abs HG.out
      obtain ⟨q1, q2⟩ := rg_abs hcd
      obtain ⟨m1, m1'⟩ := pb a c p1 q1
      obtain ⟨m2, m2'⟩ := pb b d p2 q2
      obtain ⟨m3, m3'⟩ := pb a d p1 q2
      obtain ⟨m4, m4'⟩ := pb b c p2 q1
      clear hst hd hx hbw hcd p1 p2 q1 q2
      have HS2 := Lib.hid ((HSt.out.set (a * c - b * d) (a * d + b * c)).below ((Below.refl _ _).alloc (Nat.le_refl _) (.cells #[.int .i64 c, .int .i64 d] 28)))
      by_cases hg2 : Rg (a * c - b * d) (a * d + b * c)
      · have HT2 := Lib.hid (HT.out.trans (if_pos hg2))
        clear HT
        go_wp2_with fail
        go_must (refine (fits_t' (a * c - b * d) (a * d + b * c) hg2 _).mono ?_); rintro e1 w1 ⟨rfl, hb1⟩
        have HS3 := Lib.hid (HS2.out.below hb1)
        clear HS2 b1 b2 b3 b4 hc0 hc1
        go_wp2
        go_roundw
        case rel => exact ⟨k + 1, a * c - b * d, a * d + b * c, by omega, by go_num, HS3.out, hg2, HT2.out⟩
        case measure => simp [intOf]; omega
      · have HT2 := Lib.hid (HT.out.trans (if_neg hg2))
        clear HT
        go_wp2_with fail
        go_must (refine (fits_f' (a * c - b * d) (a * d + b * c) hg2 _).mono ?_); rintro e1 w1 ⟨rfl, hb1⟩
        have HS3 := Lib.hid (HS2.out.below hb1)
        clear HS2 b1 b2 b3 b4 hc0 hc1
        obtain ⟨⟨a1, a2, a3, a4⟩, ⟨b1, b2, b3, b4⟩, _, _⟩ := HS3.out
        go_wp2
        refine bodyPost_ret (v := .tuple #[.agg #[.int .i64 0, .int .i64 0], .int .i64 31]) (by simp [results, Tryd.results15, go_sem, a1, a2]) rfl ⟨?_, HS3.out.out _ _⟩
        rw [HT2.out]; rfl
    · obtain rfl : k = n := by omega
      obtain ⟨⟨a1, a2, a3, a4⟩, ⟨b1, b2, b3, b4⟩, _, _⟩ := HSt.out
      go_wp2
      refine bodyPost_ret (v := .tuple #[.agg #[.int .i64 a, .int .i64 b], .int .i64 0]) (by simp [results, Tryd.results15, go_sem, a1, a2]) rfl ⟨?_, HSt.out.out _ _⟩
      rw [HS.out, List.drop_of_length_le (by rw [← HN.out]; exact Nat.le_refl _)]; rfl

theorem rmul_none (w : World) :
    Calls Tryd.prog 15 #[.slice none 0 0] w fun e w' => e = .returned (.tuple #[.agg #[.int .i64 1, .int .i64 0], .int .i64 0]) ∧ Below w.heap.size w w' := by
  have HSt := Lib.hid (St.start w 1 0 28)
  obtain ⟨⟨a1, a2, a3, a4⟩, ⟨b1, b2, b3, b4⟩, _, _⟩ := HSt.out
  go_enter Tryd.func15, Tryd.ntmps15
  go_wp2
  refine wp_loop_rounds 1 ?_; rw [rounds_succ]
  go_wp2
  refine bodyPost_ret (v := .tuple #[.agg #[.int .i64 1, .int .i64 0], .int .i64 0]) (by simp [results, Tryd.results15, go_sem, a1, a2]) rfl ⟨rfl, ?_⟩
  first
    | exact HSt.out.out _ _
    | exact HSt.out.2.2.2
    | exact ((Below.refl _ w).alloc (Nat.le_refl _) _).alloc (by simp) _

/-- ref.Mul. -/
theorem rmul_any (v : Value) (xs : List (Int × Int)) (w : World) (h : RdP w v xs) (hl : xs.length ≤ 1000) (hr : ∀ x ∈ xs, Rg x.1 x.2) :
    Calls Tryd.prog 15 #[v] w fun e w' =>
      e = .returned (.tuple #[.agg #[.int .i64 (resP (runS mulO (1, 0) xs)).1.1, .int .i64 (resP (runS mulO (1, 0) xs)).1.2], .int .i64 (resP (runS mulO (1, 0) xs)).2]) ∧ Below w.heap.size w w' := by
  rcases h with ⟨rfl, rfl⟩ | ⟨g, cap, rfl, hcap, hg, hc⟩
  · exact rmul_none w
  · exact rmul_some xs _ g cap rfl hl hcap hr w hg hc
end Go.Proofs.YtkppkojpdhgicaaDoor
