/-
The program's Add and Mul, by contracts: what a list of numbers comes to, one by one.
-/
import Derived.Test.YtkppkojpdhgicaaDoorGArith
import Derived.LoopTactic
namespace Go.Proofs.YtkppkojpdhgicaaDoor
open Go.RowKit Go.Proofs.YtkppkojpdhgicaaDoor.Gf

/-- One after the other; none: one on the way is out of range. -/
def runS (op : Int × Int → Int × Int → Int × Int) : Int × Int → List (Int × Int) → Option (Int × Int)
  | s, [] => some s
  | s, x :: t => if Rg (op s x).1 (op s x).2 then runS op (op s x) t else none
def addO (s x : Int × Int) : Int × Int := (s.1 + x.1, s.2 + x.2)
def mulO (s x : Int × Int) : Int × Int := (s.1 * x.1 - s.2 * x.2, s.1 * x.2 + s.2 * x.1)
def resV : Option (Int × Int) → Value × Int
  | some (a, b) => (cv a b, 0)
  | none => (cv 0 0, 31)

/-- The slice value v reads as these numbers. -/
def RdC (w : World) (v : Value) (xs : List (Int × Int)) : Prop :=
  (v = .slice none 0 0 ∧ xs = []) ∨ ∃ g cap, v = .slice (some ⟨g, 0, none⟩) xs.length cap ∧ xs.length ≤ cap ∧ ∀ j x, xs[j]? = some x → w.cell? ⟨g, j, none⟩ = some (cv x.1 x.2)

theorem drop_at {α : Type} {xs : List α} {k : Nat} {x : α} (h : xs[k]? = some x) : xs.drop k = x :: xs.drop (k + 1) := by
  obtain ⟨h1, h2⟩ := List.getElem?_eq_some_iff.1 h
  rw [List.drop_eq_getElem_cons h1, h2]

theorem add_none (w : World) :
    Calls Tryd.prog 12 #[.slice none 0 0] w fun e w' => e = .returned (.tuple #[.complex .f64 0 0, .int .i64 0]) ∧ w = w' := by
  go_enter Tryd.func12, Tryd.ntmps12
  go_wp2
  refine wp_loop_rounds 1 ?_; rw [rounds_succ]
  go_wp2
  go_ret2
  exact ⟨rfl, rfl⟩

set_option maxRecDepth 20000 in
set_option maxHeartbeats 2000000 in
theorem add_some (xs : List (Int × Int)) (n g cap : Nat) (hn : n = xs.length) (hl : n ≤ 1000) (hcap : n ≤ cap) (hr : ∀ x ∈ xs, Rg x.1 x.2) (w : World) (hc : ∀ j x, xs[j]? = some x → w.cell? ⟨g, j, none⟩ = some (cv x.1 x.2)) :
    Calls Tryd.prog 12 #[.slice (some ⟨g, 0, none⟩) n cap] w fun e w' => e = .returned (.tuple #[(resV (runS addO (0, 0) xs)).1, .int .i64 (resV (runS addO (0, 0) xs)).2]) ∧ w = w' := by
  have HN := Lib.hid hn; clear hn
  have HC := Lib.hid hc; clear hc
  have HR := Lib.hid hr; clear hr
  have cv0 : cv 0 0 = .complex .f64 0 0 := by
    show Value.complex .f64 (floatOfInt .f64 0) (floatOfInt .f64 0) = _
    rw [fl0]
  have HZ := Lib.hid cv0; clear cv0
  go_enter Tryd.func12, Tryd.ntmps12
  go_wp2
  go_loop [4, 10] (fun s i => ∃ (k : Nat) (a b : Int), k ≤ n ∧ s = cv a b ∧ i = .int .i64 (k : Int) ∧ Hid (Rg a b) ∧ Hid (runS addO (0, 0) xs = runS addO (a, b) (xs.drop k))) (fun _ i => n - (intOf i).toNat)
  case atStart => exact ⟨0, 0, 0, Nat.zero_le _, HZ.out.symm, rfl, Rg.zero, by show _ = runS addO (0, 0) (xs.drop 0); rw [List.drop_zero]⟩
  case round =>
    obtain ⟨k, a, b, hk, rfl, rfl, HG, HS⟩ := hrel
    by_cases hkn : k < n
    · obtain ⟨⟨c, d⟩, hx⟩ : ∃ x, xs[k]? = some x := ⟨_, List.getElem?_eq_getElem (by rw [← HN.out]; exact hkn)⟩
      have hcell := HC.out k (c, d) hx
      have hcd := HR.out (c, d) (List.mem_of_getElem? hx)
      have hd := drop_at hx
      obtain ⟨p1, p2⟩ := rg_abs HG.out
      obtain ⟨q1, q2⟩ := rg_abs hcd
      obtain ⟨re, im, he, f1, f2⟩ := cadd (fi_of a) (fi_of b) (fi_of c) (fi_of d) p1 p2 q1 q2
      have hop := fun t w => run_complex_sum (P := Tryd.prog) w .add (Or.inl rfl) t .f64 _ _ _ _ re im he
      have hck := fun w => checked_fi f1 f2 (by rw [h53]; omega) (by rw [h53]; omega) w
      have hst : runS addO (0, 0) xs = if Rg (a + c) (b + d) then runS addO (a + c, b + d) (xs.drop (k + 1)) else none := by rw [HS.out, hd]; rfl
      have HT := Lib.hid hst
      clear hst hd hx hcd p1 p2 q1 q2 he f1 f2
      by_cases hg : Rg (a + c) (b + d)
      · rw [chk_in hg] at hck
        have HT2 := Lib.hid (HT.out.trans (if_pos hg))
        have HG2 := Lib.hid hg
        clear HT hg
        go_wp2_with (first | (go_at_call 24; go_must (refine (hck _).mono ?_); rintro e w' ⟨rfl, rfl⟩) | simp only [hop])
        go_round
        case rel => exact ⟨k + 1, a + c, b + d, by omega, rfl, by go_num, HG2.out, HT2.out⟩
        case measure => simp [intOf]; omega
      · rw [chk_out hg] at hck
        have HT2 := Lib.hid (HT.out.trans (if_neg hg))
        clear HT hg
        go_wp2_with (first | (go_at_call 24; go_must (refine (hck _).mono ?_); rintro e w' ⟨rfl, rfl⟩) | simp only [hop])
        go_ret2
        refine ⟨?_, rfl⟩
        rw [HT2.out]; show _ = Ending.returned (.tuple #[cv 0 0, .int .i64 31]); rw [HZ.out]; rfl
    · obtain rfl : k = n := by omega
      go_wp2
      go_ret2
      refine ⟨?_, rfl⟩
      rw [HS.out, List.drop_of_length_le (by rw [← HN.out]; exact Nat.le_refl _)]; rfl

/-- Add. -/
theorem add_any (v : Value) (xs : List (Int × Int)) (w : World) (h : RdC w v xs) (hl : xs.length ≤ 1000) (hr : ∀ x ∈ xs, Rg x.1 x.2) :
    Calls Tryd.prog 12 #[v] w fun e w' => e = .returned (.tuple #[(resV (runS addO (0, 0) xs)).1, .int .i64 (resV (runS addO (0, 0) xs)).2]) ∧ w = w' := by
  rcases h with ⟨rfl, rfl⟩ | ⟨g, cap, rfl, hcap, hc⟩
  · have h := add_none w
    rw [← fl0] at h
    exact h
  · exact add_some xs _ g cap rfl hl hcap hr w hc

theorem bd2 (a b c d : Int) (ha : a.natAbs ≤ 1048576) (hb : b.natAbs ≤ 1048576) (hc : c.natAbs ≤ 1048576) (hd : d.natAbs ≤ 1048576) : (a * c - b * d).natAbs ≤ 2199023255552 ∧ (a * d + b * c).natAbs ≤ 2199023255552 := by
  have bd : ∀ p q : Int, p.natAbs ≤ 1048576 → q.natAbs ≤ 1048576 → (p * q).natAbs ≤ 1099511627776 := fun p q hp hq => by
    rw [Int.natAbs_mul]; exact Nat.le_trans (Nat.mul_le_mul hp hq) (by decide)
  have b1 := bd a c ha hc
  have b2 := bd b d hb hd
  have b3 := bd a d ha hd
  have b4 := bd b c hb hc
  omega
theorem mul_none (w : World) :
    Calls Tryd.prog 14 #[.slice none 0 0] w fun e w' => e = .returned (.tuple #[.complex .f64 4607182418800017408 0, .int .i64 0]) ∧ w = w' := by
  go_enter Tryd.func14, Tryd.ntmps14
  go_wp2
  refine wp_loop_rounds 1 ?_; rw [rounds_succ]
  go_wp2
  go_ret2
  exact ⟨rfl, rfl⟩

set_option maxRecDepth 20000 in
set_option maxHeartbeats 2000000 in
theorem mul_some (xs : List (Int × Int)) (n g cap : Nat) (hn : n = xs.length) (hl : n ≤ 1000) (hcap : n ≤ cap) (hr : ∀ x ∈ xs, Rg x.1 x.2) (w : World) (hc : ∀ j x, xs[j]? = some x → w.cell? ⟨g, j, none⟩ = some (cv x.1 x.2)) :
    Calls Tryd.prog 14 #[.slice (some ⟨g, 0, none⟩) n cap] w fun e w' => e = .returned (.tuple #[(resV (runS mulO (1, 0) xs)).1, .int .i64 (resV (runS mulO (1, 0) xs)).2]) ∧ w = w' := by
  have HN := Lib.hid hn; clear hn
  have HC := Lib.hid hc; clear hc
  have HR := Lib.hid hr; clear hr
  have cv0 : cv 0 0 = .complex .f64 0 0 := by
    show Value.complex .f64 (floatOfInt .f64 0) (floatOfInt .f64 0) = _
    rw [fl0]
  have HZ := Lib.hid cv0; clear cv0
  have cv1 : cv 1 0 = .complex .f64 4607182418800017408 0 := by
    show Value.complex .f64 (floatOfInt .f64 1) (floatOfInt .f64 0) = _
    rw [fl0, fl1]
  have HO := Lib.hid cv1; clear cv1
  go_enter Tryd.func14, Tryd.ntmps14
  go_wp2
  go_loop [4, 10] (fun s i => ∃ (k : Nat) (a b : Int), k ≤ n ∧ s = cv a b ∧ i = .int .i64 (k : Int) ∧ Hid (Rg a b) ∧ Hid (runS mulO (1, 0) xs = runS mulO (a, b) (xs.drop k))) (fun _ i => n - (intOf i).toNat)
  case atStart => exact ⟨0, 1, 0, Nat.zero_le _, HO.out.symm, rfl, show Rg 1 0 by decide, by show _ = runS mulO (1, 0) (xs.drop 0); rw [List.drop_zero]⟩
  case round =>
    obtain ⟨k, a, b, hk, rfl, rfl, HG, HS⟩ := hrel
    by_cases hkn : k < n
    · obtain ⟨⟨c, d⟩, hx⟩ : ∃ x, xs[k]? = some x := ⟨_, List.getElem?_eq_getElem (by rw [← HN.out]; exact hkn)⟩
      have hcell := HC.out k (c, d) hx
      have hcd := HR.out (c, d) (List.mem_of_getElem? hx)
      have hd := drop_at hx
      obtain ⟨p1, p2⟩ := rg_abs HG.out
      obtain ⟨q1, q2⟩ := rg_abs hcd
      obtain ⟨re, im, he, f1, f2⟩ := cmul (fi_of a) (fi_of b) (fi_of c) (fi_of d) p1 p2 q1 q2
      have hop := fun t w => run_complex_mul (P := Tryd.prog) w t _ _ _ _ re im he
      have hck := fun w => checked_fi f1 f2 (by have := bd2 a b c d p1 p2 q1 q2; rw [h53]; omega) (by have := bd2 a b c d p1 p2 q1 q2; rw [h53]; omega) w
      have hst : runS mulO (1, 0) xs = if Rg (a * c - b * d) (a * d + b * c) then runS mulO (a * c - b * d, a * d + b * c) (xs.drop (k + 1)) else none := by rw [HS.out, hd]; rfl
      have HT := Lib.hid hst
      clear hst hd hx hcd p1 p2 q1 q2 he f1 f2
      by_cases hg : Rg (a * c - b * d) (a * d + b * c)
      · rw [chk_in hg] at hck
        have HT2 := Lib.hid (HT.out.trans (if_pos hg))
        have HG2 := Lib.hid hg
        clear HT hg
        go_wp2_with (first | (go_at_call 24; go_must (refine (hck _).mono ?_); rintro e w' ⟨rfl, rfl⟩) | simp only [hop])
        go_round
        case rel => exact ⟨k + 1, a * c - b * d, a * d + b * c, by omega, rfl, by go_num, HG2.out, HT2.out⟩
        case measure => simp [intOf]; omega
      · rw [chk_out hg] at hck
        have HT2 := Lib.hid (HT.out.trans (if_neg hg))
        clear HT hg
        go_wp2_with (first | (go_at_call 24; go_must (refine (hck _).mono ?_); rintro e w' ⟨rfl, rfl⟩) | simp only [hop])
        go_ret2
        refine ⟨?_, rfl⟩
        rw [HT2.out]; show _ = Ending.returned (.tuple #[cv 0 0, .int .i64 31]); rw [HZ.out]; rfl
    · obtain rfl : k = n := by omega
      go_wp2
      go_ret2
      refine ⟨?_, rfl⟩
      rw [HS.out, List.drop_of_length_le (by rw [← HN.out]; exact Nat.le_refl _)]; rfl

/-- Mul. -/
theorem mul_any (v : Value) (xs : List (Int × Int)) (w : World) (h : RdC w v xs) (hl : xs.length ≤ 1000) (hr : ∀ x ∈ xs, Rg x.1 x.2) :
    Calls Tryd.prog 14 #[v] w fun e w' => e = .returned (.tuple #[(resV (runS mulO (1, 0) xs)).1, .int .i64 (resV (runS mulO (1, 0) xs)).2]) ∧ w = w' := by
  rcases h with ⟨rfl, rfl⟩ | ⟨g, cap, rfl, hcap, hc⟩
  · have h := mul_none w
    rw [← fl0] at h
    exact h
  · exact mul_some xs _ g cap rfl hl hcap hr w hc
end Go.Proofs.YtkppkojpdhgicaaDoor
