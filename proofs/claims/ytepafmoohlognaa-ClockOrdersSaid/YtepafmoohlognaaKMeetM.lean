/-
Clocks: the greatest within all, the least around both (maths).
-/
import Derived.Test.YtepafmoohlognaaKRows
namespace Go.Proofs.Ytepafmoohlognaa
open Go.RowKit

theorem zip_get {f : Nat → Nat → Nat} {F G : List Nat} {j x y : Nat} (hx : F[j]? = some x) (hy : G[j]? = some y) : (List.zipWith f F G)[j]? = some (f x y) := by simp [List.getElem?_zipWith, hx, hy]
theorem get64 {F : List Nat} (h : F.length = 64) {j : Nat} (hj : j < 64) : ∃ x, F[j]? = some x := ⟨_, List.getElem?_eq_getElem (by omega)⟩
theorem withinB_iff {F G : List Nat} (hF : F.length = 64) (hG : G.length = 64) : withinB F G = true ↔ ∀ (j x y : Nat), F[j]? = some x → G[j]? = some y → x ≤ y := by
  unfold withinB
  rw [decide_eq_true_eq]
  constructor
  · intro h j x y hx hy
    have h1 := zip_get (f := max) hx hy
    rw [h, hy] at h1
    have := Option.some.inj h1
    omega
  · intro h
    apply List.ext_getElem?
    intro j
    rcases Nat.lt_or_ge j 64 with hj | hj
    · obtain ⟨x, hx⟩ := get64 hF hj
      obtain ⟨y, hy⟩ := get64 hG hj
      rw [zip_get hx hy, hy, Nat.max_eq_right (h j x y hx hy)]
    · rw [List.getElem?_eq_none (by rw [zip_len hF hG]; exact hj), List.getElem?_eq_none (by omega)]
theorem within_min {F G H : List Nat} (hF : F.length = 64) (hG : G.length = 64) (hH : H.length = 64) : withinB F (List.zipWith min G H) = (withinB F G && withinB F H) := by
  rw [Bool.eq_iff_iff, Bool.and_eq_true, withinB_iff hF (zip_len hG hH), withinB_iff hF hG, withinB_iff hF hH]
  constructor
  · intro h
    refine ⟨fun j x y hx hy => ?_, fun j x y hx hy => ?_⟩
    · obtain ⟨z, hz⟩ := get64 hH (show j < 64 by have := (List.getElem?_eq_some_iff.1 hx).1; omega)
      have := h j x _ hx (zip_get hy hz)
      omega
    · obtain ⟨z, hz⟩ := get64 hG (show j < 64 by have := (List.getElem?_eq_some_iff.1 hx).1; omega)
      have := h j x _ hx (zip_get hz hy)
      omega
  · rintro ⟨h1, h2⟩ j x y hx hy
    have hj : j < 64 := by have := (List.getElem?_eq_some_iff.1 hx).1; omega
    obtain ⟨a, ha⟩ := get64 hG hj
    obtain ⟨b, hb⟩ := get64 hH hj
    have e := zip_get (f := min) ha hb
    rw [hy] at e
    have := Option.some.inj e
    have := h1 j x a hx ha
    have := h2 j x b hx hb
    omega
theorem within_max {F G H : List Nat} (hF : F.length = 64) (hG : G.length = 64) (hH : H.length = 64) : withinB (List.zipWith max G H) F = (withinB G F && withinB H F) := by
  rw [Bool.eq_iff_iff, Bool.and_eq_true, withinB_iff (zip_len hG hH) hF, withinB_iff hG hF, withinB_iff hH hF]
  constructor
  · intro h
    refine ⟨fun j x y hx hy => ?_, fun j x y hx hy => ?_⟩
    · obtain ⟨z, hz⟩ := get64 hH (show j < 64 by have := (List.getElem?_eq_some_iff.1 hx).1; omega)
      have := h j _ y (zip_get hx hz) hy
      omega
    · obtain ⟨z, hz⟩ := get64 hG (show j < 64 by have := (List.getElem?_eq_some_iff.1 hx).1; omega)
      have := h j _ y (zip_get hz hx) hy
      omega
  · rintro ⟨h1, h2⟩ j x y hx hy
    have hj : j < 64 := by have := (List.getElem?_eq_some_iff.1 hy).1; omega
    obtain ⟨a, ha⟩ := get64 hG hj
    obtain ⟨b, hb⟩ := get64 hH hj
    have e := zip_get (f := max) ha hb
    rw [hx] at e
    have := Option.some.inj e
    have := h1 j a y ha hy
    have := h2 j b y hb hy
    omega
theorem within_zero {F : List Nat} (hF : F.length = 64) : withinB (List.replicate 64 0) F = true := by
  rw [withinB_iff (by simp) hF]
  intro j x y hx hy
  rw [List.getElem?_replicate] at hx
  split at hx
  · have := Option.some.inj hx; omega
  · cases hx
theorem zip_self {F : List Nat} : List.zipWith min F F = F := by
  induction F with
  | nil => rfl
  | cons x F ih => rw [List.zipWith_cons_cons, ih, Nat.min_self]
/-- What was cut off is noughts. -/
theorem drop_cut (F : List Nat) : F.drop (cutN F) = List.replicate (F.length - cutN F) 0 := by
  have key : ∀ l : List Nat, l.take (l.length - (l.dropWhile (· == 0)).length) = List.replicate (l.length - (l.dropWhile (· == 0)).length) 0 := by
    intro l
    induction l with
    | nil => rfl
    | cons x l ih =>
      rw [List.dropWhile_cons]
      split
      · rename_i h
        have hx : x = 0 := by simpa using h
        have hle : (l.dropWhile (· == 0)).length ≤ l.length := (List.dropWhile_suffix (l := l) (· == 0)).length_le
        rw [List.length_cons, show l.length + 1 - (l.dropWhile (· == 0)).length = (l.length - (l.dropWhile (· == 0)).length) + 1 from by omega, List.take_succ_cons, List.replicate_succ, ih, hx]
      · rw [Nat.sub_self]; rfl
  have h := key F.reverse
  have hlen : F.reverse.length = F.length := List.length_reverse
  rw [hlen] at h
  have hc : (F.reverse.dropWhile (· == 0)).length = cutN F := rfl
  rw [hc, List.take_reverse, show F.length - (F.length - cutN F) = cutN F from by have := cutN_le F; omega] at h
  have h2 := congrArg List.reverse h
  rwa [List.reverse_reverse, List.reverse_replicate] at h2
theorem pad_cut {F : List Nat} (hF : F.length = 64) : padF (cutF F) = F := by
  have hle := cutN_le F
  unfold padF cutF
  rw [List.length_take, Nat.min_eq_left hle, ← hF, ← drop_cut F, List.take_append_drop]
theorem pad_join {xs ys : List Nat} (h1 : FitC xs) (h2 : FitC ys) : padF (joinV xs ys) = List.zipWith max (padF xs) (padF ys) := pad_cut (zip_len (padF_len h1.1) (padF_len h2.1))
theorem pad_fit {xs : List Nat} (h : FitC xs) : ∀ x ∈ padF xs, x < 18446744073709551616 := by
  intro x hx
  unfold padF at hx
  rcases List.mem_append.1 hx with hx | hx
  · exact h.2 x hx
  · have := (List.mem_replicate.1 hx).2; omega
theorem zip_fit {f : Nat → Nat → Nat} (hf : ∀ x y, f x y = x ∨ f x y = y) : ∀ {F G : List Nat}, (∀ x ∈ F, x < 18446744073709551616) → (∀ x ∈ G, x < 18446744073709551616) → ∀ x ∈ List.zipWith f F G, x < 18446744073709551616
  | [], _, _, _, x, hx => by simp at hx
  | _ :: _, [], _, _, x, hx => by simp at hx
  | a :: F, b :: G, hF, hG, x, hx => by
    rw [List.zipWith_cons_cons] at hx
    rcases List.mem_cons.1 hx with rfl | hx
    · rcases hf a b with e | e
      · rw [e]; exact hF a List.mem_cons_self
      · rw [e]; exact hG b List.mem_cons_self
    · exact zip_fit hf (fun x h => hF x (List.mem_cons_of_mem _ h)) (fun x h => hG x (List.mem_cons_of_mem _ h)) x hx
theorem cut_fit {F : List Nat} (hF : F.length = 64) (h : ∀ x ∈ F, x < 18446744073709551616) : FitC (cutF F) := ⟨cut_len hF, fun x hx => h x (List.mem_of_mem_take hx)⟩
theorem max_or (x y : Nat) : max x y = x ∨ max x y = y := by omega
theorem min_or (x y : Nat) : min x y = x ∨ min x y = y := by omega
theorem join_fit {xs ys : List Nat} (h1 : FitC xs) (h2 : FitC ys) : FitC (joinV xs ys) := cut_fit (zip_len (padF_len h1.1) (padF_len h2.1)) (zip_fit max_or (pad_fit h1) (pad_fit h2))

def zeroF : List Nat := List.replicate 64 0
theorem pad_nil : padF [] = zeroF := rfl
/-- The law's f behind k clocks. -/
def fAt (ls : List (List Nat)) : Nat → List Nat
  | 0 => zeroF
  | k + 1 => meetF (padF (ls.headD [])) (ls.take (k + 1))
def inAt (c : List Nat) (ls : List (List Nat)) (k : Nat) : Bool := (ls.take k).all fun xs => withinB (padF c) (padF xs)
def arAt (c : List Nat) (ls : List (List Nat)) (k : Nat) : Bool := (ls.take k).all fun xs => withinB (padF xs) (padF c)
def jnAt (ls : List (List Nat)) (k : Nat) : List Nat := (ls.take k).foldl joinV []
theorem meetF_len {ls : List (List Nat)} : ∀ {F : List Nat}, F.length = 64 → (∀ xs ∈ ls, FitC xs) → (meetF F ls).length = 64 := by
  induction ls with
  | nil => intro F hF _; exact hF
  | cons x ls ih => intro F hF h; exact ih (zip_len hF (padF_len (h x List.mem_cons_self).1)) (fun y hy => h y (List.mem_cons_of_mem _ hy))
theorem meetF_fit {ls : List (List Nat)} : ∀ {F : List Nat}, (∀ x ∈ F, x < 18446744073709551616) → (∀ xs ∈ ls, FitC xs) → ∀ x ∈ meetF F ls, x < 18446744073709551616 := by
  induction ls with
  | nil => intro F hF _; exact hF
  | cons x ls ih => intro F hF h; exact ih (zip_fit min_or hF (pad_fit (h x List.mem_cons_self))) (fun y hy => h y (List.mem_cons_of_mem _ hy))
theorem meetF_snoc {F : List Nat} {ls : List (List Nat)} {k : Nat} {xs : List Nat} (h : ls[k]? = some xs) : meetF F (ls.take (k + 1)) = List.zipWith min (meetF F (ls.take k)) (padF xs) := by
  unfold meetF
  rw [List.take_add_one, h, List.foldl_append]
  rfl
theorem fAt_one {ls : List (List Nat)} {xs : List Nat} (h : ls[0]? = some xs) : List.zipWith min (padF xs) (padF xs) = fAt ls (0 + 1) := by
  match ls, h with
  | y :: ls, h =>
    simp only [List.getElem?_cons_zero, Option.some.injEq] at h
    subst h
    rfl
theorem fAt_snoc {ls : List (List Nat)} {k : Nat} {xs : List Nat} (h0 : k ≠ 0) (h : ls[k]? = some xs) : List.zipWith min (fAt ls k) (padF xs) = fAt ls (k + 1) := by
  match k, h0 with
  | k + 1, _ => exact (meetF_snoc h).symm
theorem fAt_len {ls : List (List Nat)} (h : ∀ xs ∈ ls, FitC xs) : ∀ k, (fAt ls k).length = 64
  | 0 => by simp [fAt, zeroF]
  | k + 1 => by
    refine meetF_len ?_ (fun xs hx => h xs (List.mem_of_mem_take hx))
    match ls with
    | [] => rfl
    | y :: ls => exact padF_len (h y List.mem_cons_self).1
theorem fAt_end (ls : List (List Nat)) : meetV ls = cutF (fAt ls ls.length) := by
  match ls with
  | [] => decide
  | y :: ls =>
    show cutF (meetF (padF y) ls) = cutF (meetF (padF y) ((y :: ls).take (ls.length + 1)))
    rw [List.take_of_length_le (by simp)]
    show _ = cutF (meetF (List.zipWith min (padF y) (padF y)) ls)
    rw [zip_self]
theorem inAt_snoc {c : List Nat} {ls : List (List Nat)} {k : Nat} {xs : List Nat} (h : ls[k]? = some xs) : inAt c ls (k + 1) = (inAt c ls k && withinB (padF c) (padF xs)) := by
  unfold inAt
  rw [List.take_add_one, h]
  simp
theorem arAt_snoc {c : List Nat} {ls : List (List Nat)} {k : Nat} {xs : List Nat} (h : ls[k]? = some xs) : arAt c ls (k + 1) = (arAt c ls k && withinB (padF xs) (padF c)) := by
  unfold arAt
  rw [List.take_add_one, h]
  simp
theorem jnAt_snoc {ls : List (List Nat)} {k : Nat} {xs : List Nat} (h : ls[k]? = some xs) : jnAt ls (k + 1) = joinV (jnAt ls k) xs := by
  unfold jnAt
  rw [List.take_add_one, h, List.foldl_append]
  rfl
theorem jn_fit {ls : List (List Nat)} : ∀ {xs : List Nat}, FitC xs → (∀ xs ∈ ls, FitC xs) → FitC (ls.foldl joinV xs) := by
  induction ls with
  | nil => intro xs h _; exact h
  | cons x ls ih => intro xs h1 h; exact ih (join_fit h1 (h x List.mem_cons_self)) (fun y hy => h y (List.mem_cons_of_mem _ hy))
theorem fit_nil : FitC [] := ⟨Nat.zero_le _, by simp⟩
theorem jnAt_fit {ls : List (List Nat)} (h : ∀ xs ∈ ls, FitC xs) (k : Nat) : FitC (jnAt ls k) := jn_fit fit_nil (fun xs hx => h xs (List.mem_of_mem_take hx))
theorem within_meetF {c : List Nat} (hc : FitC c) : ∀ {ls : List (List Nat)} {F : List Nat}, F.length = 64 → (∀ xs ∈ ls, FitC xs) → withinB (padF c) (meetF F ls) = (withinB (padF c) F && ls.all fun xs => withinB (padF c) (padF xs)) := by
  intro ls
  induction ls with
  | nil => intro F hF _; simp [meetF]
  | cons x ls ih =>
    intro F hF h
    have hx := padF_len (h x List.mem_cons_self).1
    show withinB (padF c) (meetF (List.zipWith min F (padF x)) ls) = _
    rw [ih (zip_len hF hx) (fun y hy => h y (List.mem_cons_of_mem _ hy)), within_min (padF_len hc.1) hF hx, List.all_cons, Bool.and_assoc]
theorem within_meet {c : List Nat} (hc : FitC c) {ls : List (List Nat)} (hne : ls ≠ []) (h : ∀ xs ∈ ls, FitC xs) : withinB (padF c) (padF (meetV ls)) = inAt c ls ls.length := by
  match ls, hne with
  | y :: ls, _ =>
    have hy := padF_len (h y List.mem_cons_self).1
    show withinB (padF c) (padF (cutF (meetF (padF y) ls))) = _
    rw [pad_cut (meetF_len hy (fun x hx => h x (List.mem_cons_of_mem _ hx))), within_meetF hc hy (fun x hx => h x (List.mem_cons_of_mem _ hx))]
    unfold inAt
    rw [List.take_of_length_le (Nat.le_refl _), List.all_cons]
theorem within_jn {c : List Nat} (hc : FitC c) : ∀ {ls : List (List Nat)} {xs : List Nat}, FitC xs → (∀ xs ∈ ls, FitC xs) → withinB (padF (ls.foldl joinV xs)) (padF c) = (withinB (padF xs) (padF c) && ls.all fun xs => withinB (padF xs) (padF c)) := by
  intro ls
  induction ls with
  | nil => intro xs _ _; simp
  | cons x ls ih =>
    intro xs h1 h
    have hx := h x List.mem_cons_self
    rw [List.foldl_cons, ih (join_fit h1 hx) (fun y hy => h y (List.mem_cons_of_mem _ hy)), pad_join h1 hx, within_max (padF_len hc.1) (padF_len h1.1) (padF_len hx.1), List.all_cons, Bool.and_assoc]
theorem within_join {c : List Nat} (hc : FitC c) {ls : List (List Nat)} (h : ∀ xs ∈ ls, FitC xs) : withinB (padF (jnAt ls ls.length)) (padF c) = arAt c ls ls.length := by
  unfold jnAt arAt
  rw [List.take_of_length_le (Nat.le_refl _), within_jn hc fit_nil h, pad_nil, show withinB zeroF (padF c) = true from within_zero (padF_len hc.1), Bool.true_and]
theorem meetV_fit {ls : List (List Nat)} (h : ∀ xs ∈ ls, FitC xs) : FitC (meetV ls) := by
  match ls with
  | [] => exact fit_nil
  | y :: ls =>
    have hy := h y List.mem_cons_self
    exact cut_fit (meetF_len (padF_len hy.1) (fun x hx => h x (List.mem_cons_of_mem _ hx))) (meetF_fit (pad_fit hy) (fun x hx => h x (List.mem_cons_of_mem _ hx)))
end Go.Proofs.Ytepafmoohlognaa
