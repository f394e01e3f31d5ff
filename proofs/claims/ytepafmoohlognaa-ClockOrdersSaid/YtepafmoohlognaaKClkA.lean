/-
Package clock: Get, short, the greater and the less, by contracts; rows made and written.
-/
import Derived.Test.YtepafmoohlognaaKRows
import Derived.Laws.MakeOwn
namespace Go.Proofs.Ytepafmoohlognaa
open Go.RowKit

set_option maxRecDepth 20000 in
set_option maxHeartbeats 1000000 in
theorem get_form (xs : List Nat) (n c i : Nat) (A : Option Addr) (hn : n = xs.length) (hl : n ≤ 1000) (hi : i < 1000) (w : World) (h : RdU w (.slice A n c) xs) :
    Calls Try.prog 32 #[.slice A n c, .int .i64 ((i : Int) + 1)] w fun e w' => e = .returned (.int .u64 ((xs.getD i 0 : Nat) : Int)) ∧ w = w' := by
  have HR := Lib.hid h
  have HN := Lib.hid hn
  clear hn h
  have t0 : decide ((i : Int) + 1 < 1) = false := by simp; omega
  by_cases hin : i < n
  · obtain ⟨x, hx⟩ : ∃ x, xs[i]? = some x := ⟨_, List.getElem?_eq_getElem (by rw [← HN.out]; exact hin)⟩
    have he : xs.getD i 0 = x := by rw [List.getD_eq_getElem?_getD, hx]; rfl
    rw [he]
    obtain ⟨b, off, rfl, hcs⟩ := HR.out.at_ hx
    have p0 := hcs w (Below.refl _ _)
    have t1 : decide ((n : Int) < (i : Int) + 1) = false := by simp; omega
    clear hx he hcs
    go_enter Try.func32, Try.ntmps32
    go_wp2
    go_ret
    exact ⟨rfl, rfl⟩
  · have he : xs.getD i 0 = 0 := by rw [List.getD_eq_getElem?_getD, List.getElem?_eq_none (by rw [← HN.out]; omega)]; rfl
    rw [he]
    have t1 : decide ((n : Int) < (i : Int) + 1) = true := by simp; omega
    have hle : (n : Int) < (i : Int) + 1 := by omega
    clear he hin
    go_enter Try.func32, Try.ntmps32
    go_wp2
    go_ret
    exact ⟨rfl, rfl⟩
theorem get_any (xs : List Nat) (v : Value) (i : Nat) (hl : xs.length ≤ 1000) (hi : i < 1000) (w : World) (h : RdU w v xs) :
    Calls Try.prog 32 #[v, .int .i64 ((i : Int) + 1)] w fun e w' => e = .returned (.int .u64 ((xs.getD i 0 : Nat) : Int)) ∧ w = w' := by
  obtain ⟨A, n, c, rfl, hn⟩ := h.named
  exact get_form xs n c i A hn (by omega) hi w h

/-- A row of unsigned integers cut up to a place. -/
theorem sliceHU_run (A : Option Addr) (n c m : Nat) (h : m ≤ c) (W : World) : (Instr.slice 25 (.slice A n c) none (some (.int .i64 (m : Int))) none).run Try.prog W = .ok (sliceH A c m) W := by
  obtain ⟨i0, hi, hz0, hz1, hz2⟩ := info_parts info_u64
  have he : Try.prog.elem 25 = 26 := by kernel_rfl
  rw [run_slice_h (P := Try.prog) W 25 A n c (by rw [he]; exact Try.underlying25) .i64 (m : Int) (by omega) (by omega), he]
  have hs : (sizeOf 26).run Try.prog W = .ok 1 W := by simp [sizeOf, typeInfo, hi, hz1]
  rw [hs]
  simp [Result.andThen, sliced, sliceH]
theorem RdU.cap {w : World} {A : Option Addr} {n c : Nat} {xs : List Nat} (h : RdU w (.slice A n c) xs) : n = xs.length ∧ (n ≠ 0 → n ≤ c) := by
  rcases h with ⟨p, c', hv, rfl, _⟩ | ⟨b, off, cap, hv, hcap, _⟩
  · simp only [Value.slice.injEq] at hv
    obtain ⟨_, rfl, _⟩ := hv
    exact ⟨rfl, fun e => absurd rfl e⟩
  · simp only [Value.slice.injEq] at hv
    obtain ⟨_, rfl, rfl⟩ := hv
    exact ⟨rfl, fun _ => hcap⟩
theorem RdU.upto {w : World} {A : Option Addr} {n c : Nat} {xs : List Nat} (h : RdU w (.slice A n c) xs) (m : Nat) (hm : m ≤ n) : RdU w (.slice A m c) (xs.take m) := by
  have hn := h.cap.1
  have hlt : (xs.take m).length = m := by rw [List.length_take]; omega
  rcases h with ⟨p, c', hv, rfl, h0⟩ | ⟨b, off, cap, hv, hcap, hmx, hb, hc⟩
  · simp only [Value.slice.injEq] at hv
    obtain ⟨rfl, rfl, rfl⟩ := hv
    obtain rfl : m = 0 := by omega
    exact .inl ⟨A, c, rfl, rfl, h0⟩
  · simp only [Value.slice.injEq] at hv
    obtain ⟨rfl, _, rfl⟩ := hv
    refine .inr ⟨b, off, c, by rw [hlt], by omega, hmx, hb, fun j x hx => ?_⟩
    rw [List.getElem?_take] at hx
    split at hx
    · exact hc j x hx
    · cases hx
def lenOf : Value → Nat | .slice _ n _ => n | _ => 0

set_option maxRecDepth 20000 in
set_option maxHeartbeats 1000000 in
theorem short_clk (xs : List Nat) (n c : Nat) (A : Option Addr) (hn : n = xs.length) (hl : n ≤ 1000) (w : World) (h : RdU w (.slice A n c) xs) :
    Calls Try.prog 30 #[.slice A n c] w fun e w' => ∃ m, e = .returned (.slice A m c) ∧ m = cutN xs ∧ m ≤ n ∧ w = w' := by
  have HR := Lib.hid h
  have HN := Lib.hid hn
  have hc := h.cap.2
  clear hn h
  by_cases hz : n = 0
  · subst hz
    have he : xs = [] := List.eq_nil_of_length_eq_zero HN.out.symm
    subst he
    go_enter Try.func30, Try.ntmps30
    go_wp2
    go_loopw [0] (fun v wr => v = .slice A 0 c ∧ w = wr) (fun _ _ => 0)
    case atStart => exact ⟨rfl, rfl⟩
    case round =>
      obtain ⟨rfl, rfl⟩ := hrel
      go_wp2
      go_ret
      exact ⟨0, rfl, rfl, Nat.le_refl _, rfl⟩
  · have hcap := hc hz
    obtain ⟨x0, hx0⟩ : ∃ x, xs[0]? = some x := ⟨_, List.getElem?_eq_getElem (by rw [← HN.out]; omega)⟩
    obtain ⟨b, off, rfl, _⟩ := HR.out.at_ hx0
    have hcell : ∀ (k x : Nat), xs[k]? = some x → w.cell? ⟨b, off + k, none⟩ = some (.int .u64 (x : Int)) := fun k x hx => by
      obtain ⟨b', off', e, h2⟩ := HR.out.at_ hx
      simp only [Option.some.injEq, Addr.mk.injEq, and_true] at e
      obtain ⟨rfl, rfl⟩ := e
      exact h2 w (Below.refl _ _)
    have HC := Lib.hid hcell
    clear hx0 hcell hc
    go_enter Try.func30, Try.ntmps30
    go_wp2
    go_loopw [0] (fun v wr => ∃ (k : Nat), k ≤ n ∧ v = .slice (some ⟨b, off, none⟩) k c ∧ w = wr ∧ Hid (∀ (j x : Nat), k ≤ j → xs[j]? = some x → x = 0)) (fun v _ => lenOf v)
    case atStart => exact ⟨n, Nat.le_refl _, rfl, rfl, Lib.hid (fun j x hj hx => by
      rw [List.getElem?_eq_none (by rw [← HN.out]; exact hj)] at hx; cases hx)⟩
    case round =>
      obtain ⟨k, hk, rfl, rfl, HZ⟩ := hrel
      rcases k with _ | k
      · go_wp2
        go_ret
        exact ⟨0, rfl, (cutN_of (Nat.zero_le _) HZ.out (.inl rfl)).symm, Nat.zero_le _, rfl⟩
      · obtain ⟨x, hx⟩ : ∃ x, xs[k]? = some x := ⟨_, List.getElem?_eq_getElem (by rw [← HN.out]; omega)⟩
        have p0 := HC.out k x hx
        have HX := Lib.hid hx
        have hq := fun W => sliceHU_run (some ⟨b, off, none⟩) (k + 1) c k (by omega) W
        have e0 : sliceH (some ⟨b, off, none⟩) c k = .slice (some ⟨b, off, none⟩) k c := by unfold sliceH; split <;> rfl
        simp only [e0] at hq
        have t1 : decide ((k : Int) + 1 > 0) = true := decide_eq_true (by omega)
        have hpos : (0 : Int) < (k : Int) + 1 := by omega
        clear hx e0
        by_cases hx0 : x = 0
        · subst hx0
          have HZN := Lib.hid (show ∀ (j y : Nat), k ≤ j → xs[j]? = some y → y = 0 from fun j y hj hy => by
            rcases Nat.eq_or_lt_of_le hj with rfl | hj
            · rw [HX.out] at hy; exact (Option.some.inj hy).symm
            · exact HZ.out j y hj hy)
          go_wp2
          go_roundw
          case rel => exact ⟨k, by omega, rfl, trivial, HZN⟩
          case measure => simp [lenOf]
        · have hne : (x : Int) ≠ 0 := by omega
          have tx : ((x : Int) == 0) = false := by simp; exact hx0
          have HX0 := Lib.hid hx0
          clear hx0
          go_wp2
          go_ret
          exact ⟨k + 1, rfl, (cutN_of (by rw [← HN.out]; exact hk) HZ.out (.inr ⟨x, by rw [Nat.add_sub_cancel]; exact HX.out, HX0.out⟩)).symm, hk, rfl⟩
theorem pickMax (x y : Nat) (w : World) : Calls Try.prog 28 #[.int .u64 (x : Int), .int .u64 (y : Int)] w fun e w' => e = .returned (.int .u64 ((max x y : Nat) : Int)) ∧ w = w' := by
  rcases Nat.lt_trichotomy x y with h | h | h
  · have h1 : (x : Int) < (y : Int) := by omega
    have e : max x y = y := by omega
    rw [e]
    go_enter Try.func28, Try.ntmps28
    go_wp2
    all_goals go_ret
    all_goals first | exact ⟨rfl, rfl⟩ | omega
  · subst h
    have e : max x x = x := by omega
    rw [e]
    go_enter Try.func28, Try.ntmps28
    go_wp2
    all_goals go_ret
    all_goals first | exact ⟨rfl, rfl⟩ | omega
  · have h1 : (y : Int) < (x : Int) := by omega
    have e : max x y = x := by omega
    rw [e]
    go_enter Try.func28, Try.ntmps28
    go_wp2
    all_goals go_ret
    all_goals first | exact ⟨rfl, rfl⟩ | omega
theorem pickMin (x y : Nat) (w : World) : Calls Try.prog 31 #[.int .u64 (x : Int), .int .u64 (y : Int)] w fun e w' => e = .returned (.int .u64 ((min x y : Nat) : Int)) ∧ w = w' := by
  rcases Nat.lt_trichotomy x y with h | h | h
  · have h1 : (x : Int) < (y : Int) := by omega
    have e : min x y = x := by omega
    rw [e]
    go_enter Try.func31, Try.ntmps31
    go_wp2
    all_goals go_ret
    all_goals first | exact ⟨rfl, rfl⟩ | omega
  · subst h
    have e : min x x = x := by omega
    rw [e]
    go_enter Try.func31, Try.ntmps31
    go_wp2
    all_goals go_ret
    all_goals first | exact ⟨rfl, rfl⟩ | omega
  · have h1 : (y : Int) < (x : Int) := by omega
    have e : min x y = y := by omega
    rw [e]
    go_enter Try.func31, Try.ntmps31
    go_wp2
    all_goals go_ret
    all_goals first | exact ⟨rfl, rfl⟩ | omega
end Go.Proofs.Ytepafmoohlognaa
