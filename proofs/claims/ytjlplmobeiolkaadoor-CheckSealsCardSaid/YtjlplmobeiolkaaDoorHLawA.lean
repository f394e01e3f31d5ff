/-
The law CheckSums.
-/
import Derived.Test.YtjlplmobeiolkaaDoorHWorld
namespace Go.Proofs.YtjlplmobeiolkaaDoor
open Go.RowKit
open Crc (st stN by8 run sumN tab nib)

theorem Rd.named {w : World} {v : Value} {xs : List Nat} (h : Rd w v xs) : ∃ A n c, v = .slice A n c ∧ n = xs.length := by
  obtain ⟨A, c, hv, _⟩ := h.form
  exact ⟨A, _, c, hv, rfl⟩

set_option maxRecDepth 20000 in
set_option maxHeartbeats 1000000 in
theorem law_form (pss : List (List Nat)) (n cap : Nat) (A : Option Addr) (hn : n = pss.length) (hs : ∀ ps ∈ pss, ∀ x ∈ ps, x < 256) (w : World) (ht : Tab w) (hp : RdP w (.slice A n cap) pss)
    (hc : ∀ j ps, pss[j]? = some ps → ∃ b off u, A = some ⟨b, off, none⟩ ∧ b < w.heap.size ∧ w.cell? ⟨b, off + j, none⟩ = some u ∧ Rd w u ps) :
    Calls Tryd.prog 3 #[.slice A n cap] w fun e w' => e = .returned (.bool true) ∧ Below w.heap.size w w' := by
  have HN := Lib.hid hn; clear hn
  have HC := Lib.hid hc; clear hc
  have HS := Lib.hid hs; clear hs
  have HT := Lib.hid ht; clear ht
  have HP := Lib.hid hp; clear hp
  go_enter Tryd.func3, Tryd.ntmps3
  go_wp2
  go_loopw [3, 4] (fun a i wr => ∃ (k : Nat), k ≤ n ∧ k ≤ 20 ∧ i = .int .i64 (k : Int) ∧ Own w.heap.size wr a (pss.take k).flatten ∧ Below w.heap.size w wr ∧ (pss.take k).flatten.length ≤ 300 * k ∧ Hid (∀ ps ∈ pss.take k, ps.length ≤ 300)) (fun _ i _ => n - (intOf i).toNat)
  case atStart => exact ⟨0, Nat.zero_le _, Nat.zero_le _, rfl, Own.nil _ _, Below.refl _ _, by simp, Lib.hid (by simp)⟩
  case round =>
    obtain ⟨k, hk, hk20, rfl, hown, hbel, hlen, HL⟩ := hrel
    by_cases hkn : k < n
    · obtain ⟨ps, hx⟩ : ∃ x, pss[k]? = some x := ⟨_, List.getElem?_eq_getElem (by rw [← HN.out]; exact hkn)⟩
      obtain ⟨b, off, u, rfl, hb, hcell0, hrd⟩ := HC.out k ps hx
      have hcell : wr.cell? ⟨b, off + k, none⟩ = some u := by rw [bcell hbel _ _ hb]; exact hcell0
      obtain ⟨A2, c2, rfl, _, _⟩ := hrd.form
      have hrd2 := hrd.below hbel
      have hps : (pss.take (k + 1)) = pss.take k ++ [ps] := by rw [List.take_add_one, hx]; rfl
      have HPS := Lib.hid hps
      obtain ⟨m, hm⟩ : ∃ m, m = ps.length := ⟨_, rfl⟩
      rw [← hm] at hcell
      have HM := Lib.hid hm
      have HR := Lib.hid hrd2
      clear hx hcell0 hrd hps hm hrd2
      by_cases h20 : 20 ≤ k
      · go_wp2_with (go_at_call 5; refine (awake_any _ (HT.out.below hbel)).mono ?_; rintro e w1 ⟨rfl, hb1⟩)
        go_ret
        exact ⟨rfl, hbel.trans (hb1.mono hbel.size)⟩
      · by_cases h300 : 300 < m
        · go_wp2_with (go_at_call 5; refine (awake_any _ (HT.out.below hbel)).mono ?_; rintro e w1 ⟨rfl, hb1⟩)
          go_ret
          exact ⟨rfl, hbel.trans (hb1.mono hbel.size)⟩
        · go_wp2_with (at_builtin; refine wp_appR rfl _ _ rfl _ _ _ rfl hown _ ps rfl (by rw [HM.out]; exact HR.out) (by rw [← HM.out]; omega) hbel.size ?_; intro v1 w1 hown1 hbel1 hsz1)
          have hfl : (pss.take (k + 1)).flatten = (pss.take k).flatten ++ ps := by rw [HPS.out]; simp
          rw [← hfl] at hown1
          have hle : ∀ qs ∈ pss.take (k + 1), qs.length ≤ 300 := by
            rw [HPS.out]
            intro qs hq
            rcases List.mem_append.1 hq with hq | hq
            · exact HL.out qs hq
            · simp at hq; subst hq; rw [← HM.out]; omega
          have hln : (pss.take (k + 1)).flatten.length ≤ 300 * (k + 1) := by rw [hfl, List.length_append, ← HM.out]; omega
          have HLE := Lib.hid hle
          clear hle hfl
          go_roundw
          case rel => exact ⟨k + 1, by omega, by omega, by go_num, hown1, hbel.trans hbel1, hln, HLE⟩
          case measure => simp [intOf]; omega
    · have hnk : n ≤ k := by omega
      have hall : pss.take k = pss := List.take_of_length_le (by rw [← HN.out]; exact hnk)
      rw [hall] at hown hlen
      have hle : ∀ ps ∈ pss, ps.length ≤ 300 := fun ps hp => HL.out ps (by rw [hall]; exact hp)
      have hs1 : ∀ ps ∈ pss, ps.length ≤ 100000 ∧ ∀ x ∈ ps, x < 256 := fun ps hp => ⟨Nat.le_trans (hle ps hp) (by decide), (HS.out ps hp)⟩
      have hb1 : ∀ x ∈ pss.flatten, x < 256 := fun x hx => by
        obtain ⟨ps, hp, hx⟩ := List.mem_flatten.1 hx
        exact HS.out ps hp x hx
      have hlen2 : pss.flatten.length ≤ 6000 := by omega
      obtain ⟨A3, L, c3', rfl, hL⟩ := hown.rd.named
      have hs2 : ∀ ps ∈ [pss.flatten], ps.length ≤ 100000 ∧ ∀ x ∈ ps, x < 256 := fun ps hp => by
        simp only [List.mem_singleton] at hp; subst hp; exact ⟨by omega, hb1⟩
      have c1 := sum_any _ pss wr (HT.out.below hbel) (HP.out.below hbel) (by rw [← HN.out]; omega) hs1
      have c2 := fun w3 hb => ref_any _ pss.flatten w3 (hown.rd.below hb) (by omega) hb1
      have c3 := fun v w3 h1 h2 => sum_any v [pss.flatten] w3 h1 h2 (by simp) hs2
      rw [show [pss.flatten].flatten = pss.flatten from by simp] at c3
      have HO := Lib.hid hown
      generalize sumN pss.flatten = s at c1 c2 c3
      have C1 := Lib.hid c1
      have C2 := Lib.hid c2
      have C3 := Lib.hid c3
      have hnk20 : n ≤ 20 := by omega
      have hL6 : L ≤ 6000 := by omega
      clear hL hlen2 hlen
      clear c1 c2 c3 hs2 hb1 hs1 hle hall HL hown
      go_wp2_with (first
        | (go_at_call 6; (with_reducible refine (C1.out).mono ?_); rintro e w1 ⟨rfl, rfl⟩)
        | (go_at_call 7; (with_reducible refine (C2.out _ (Below.refl _ _)).mono ?_); rintro e w1 ⟨rfl, rfl⟩)
        | (go_at_call 6; (with_reducible refine (C3.out _ _ (HT.out.below (hbel.alloc hbel.size _)) (rdP_one rfl HO.out.rd)).mono ?_); rintro e w1 ⟨rfl, rfl⟩)
        | (go_at_call 7; (with_reducible refine (C2.out _ (below_alloc _ _)).mono ?_); rintro e w1 ⟨rfl, rfl⟩)
        | (go_at_call 5; (with_reducible refine (awake_any _ (HT.out.below (hbel.alloc hbel.size _))).mono ?_); rintro e w1 ⟨rfl, hb1⟩))
      go_ret
      exact ⟨rfl, (hbel.alloc hbel.size _).trans (hb1.mono (by simp; exact Nat.le_succ_of_le hbel.size))⟩

theorem RdP.form2 {w : World} {v : Value} {pss : List (List Nat)} (h : RdP w v pss) :
    ∃ A n c, v = .slice A n c ∧ n = pss.length ∧ ∀ j ps, pss[j]? = some ps → ∃ b off u, A = some ⟨b, off, none⟩ ∧ b < w.heap.size ∧ w.cell? ⟨b, off + j, none⟩ = some u ∧ Rd w u ps := by
  rcases h with ⟨p, c, rfl, rfl⟩ | ⟨b, off, cap, rfl, hcap, hm, hb, hc⟩
  · exact ⟨p, _, c, rfl, rfl, fun j x hj => by simp at hj⟩
  · exact ⟨_, _, cap, rfl, rfl, fun j x hj => by obtain ⟨u, hu, hr⟩ := hc j x hj; exact ⟨b, off, u, rfl, hb, hu, hr⟩⟩

/-- CheckSums. -/
theorem law_sums (v : Value) (pss : List (List Nat)) (w : World) (h : RdP w v pss ∧ ∀ ps ∈ pss, ∀ x ∈ ps, x < 256) (ht : Tab w) :
    Calls Tryd.prog 3 #[v] w fun e w' => e = .returned (.bool true) ∧ Below w.heap.size w w' := by
  obtain ⟨hp, hs⟩ := h
  obtain ⟨A, n, c, rfl, hn, hc⟩ := hp.form2
  exact law_form pss n c A hn hs w ht hp hc
end Go.Proofs.YtjlplmobeiolkaaDoor
