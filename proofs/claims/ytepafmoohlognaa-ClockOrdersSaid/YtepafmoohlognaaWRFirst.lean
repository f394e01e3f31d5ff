/-
The function first: the integer whose encoding the bytes begin with, and how long that is, by a contract.
-/
import Derived.Test.YtepafmoohlognaaWReader
import Derived.Laws.BitsAllLaws
namespace Go.Proofs.Ytepafmoohlognaa
open Go.RowKit
open Wire (numL valL takeL runL bytesL)

theorem pow7 (k : Nat) : (128 : Nat) ^ k = 2 ^ (7 * k) := by rw [Nat.pow_mul]
/-- One group of seven bits more. -/
theorem or_step {xs : List Nat} {k x : Nat} (h : xs[k]? = some x) (hx : x < 256) (hv : valL (xs.take (k + 1)) < 18446744073709551616) :
    bits .or .u64 ((valL (xs.take k) : Nat) : Int) (IntKind.u64.wrap ((x : Int) % 128 * 2 ^ (7 * k))) = ((valL (xs.take (k + 1)) : Nat) : Int) := by
  have hl := (List.getElem?_eq_some_iff.1 h).1
  have hlk : (xs.take k).length = k := by simp; omega
  have hs : valL (xs.take (k + 1)) = valL (xs.take k) + 2 ^ (7 * k) * (x % 128) := by
    rw [List.take_add_one, h]
    show valL (xs.take k ++ [x]) = _
    rw [Wire.valL_snoc, hlk, pow7]
  have hu : valL (xs.take k) < 2 ^ (7 * k) := by
    have := Wire.valL_lt (xs.take k)
    rw [hlk, pow7] at this; exact this
  have hw : IntKind.u64.wrap ((x : Int) % 128 * 2 ^ (7 * k)) = ((2 ^ (7 * k) * (x % 128) : Nat) : Int) := by
    have e : ((x : Int) % 128 * 2 ^ (7 * k)) = ((2 ^ (7 * k) * (x % 128) : Nat) : Int) := by
      rw [Int.natCast_mul, Int.mul_comm, Int.natCast_pow]; rfl
    rw [e, IntKind.wrap_u64]
    rw [hs] at hv
    generalize 2 ^ (7 * k) * (x % 128) = q at hv ⊢
    omega
  rw [hw, u64_or_nat _ _ (by rw [hs] at hv; omega) (by rw [hs] at hv; omega), Nat.or_comm, nat_join (7 * k) _ _ (Nat.mul_mod_right _ _) hu, hs, Nat.add_comm]

set_option maxRecDepth 20000 in
set_option maxHeartbeats 2000000 in
theorem first_form (n c : Nat) (A : Option Addr) (xs : List Nat) (w : World) (h : Rd w (.slice A n c) xs) (hl : n ≤ 100000) (hn : n = xs.length) (hx : ∀ x ∈ xs, x < 256) :
    Calls Try.prog 41 #[.slice A n c] w fun e w' => e = .returned (.tuple #[.int .u64 ((takeL xs).1 : Nat), .int .i64 ((takeL xs).2 : Nat)]) ∧ w = w' := by
  have HR := Lib.hid h
  have HN := Lib.hid hn
  have HX := Lib.hid hx
  clear h hn hx
  go_enter Try.func41, Try.ntmps41
  go_wp2
  go_loop [4, 9] (fun a i => ∃ (k u : Nat), k ≤ n ∧ k ≤ 9 ∧ a = .int .u64 (u : Int) ∧ i = .int .i64 (k : Int) ∧ Hid (u = valL (xs.take k) ∧ ∀ j y, j < k → xs[j]? = some y → 128 ≤ y)) (fun _ i => n - (intOf i).toNat)
  case atStart => exact ⟨0, 0, Nat.zero_le _, Nat.zero_le _, rfl, rfl, Lib.hid ⟨rfl, fun j y hj => absurd hj (Nat.not_lt_zero _)⟩⟩
  case round =>
    obtain ⟨k, u, hk, hk9, rfl, rfl, HS⟩ := hrel
    by_cases hkn : k < n
    · obtain ⟨x, hbx⟩ : ∃ x, xs[k]? = some x := ⟨_, List.getElem?_eq_getElem (by rw [← HN.out]; exact hkn)⟩
      obtain ⟨b0, off, rfl, hcn, hcm⟩ := HR.out.addr (by omega)
      have hcell : w.cell? ⟨b0, off + k, none⟩ = some (nv x) := by
        rcases HR.out with ⟨p, c', hv, _⟩ | ⟨b', off', cap', hv, _, _, _, hc⟩
        · simp at hv; omega
        · simp only [Value.slice.injEq, Option.some.injEq, Addr.mk.injEq, and_true] at hv
          obtain ⟨⟨rfl, rfl⟩, _, _⟩ := hv
          exact hc k x hbx
      have hx256 := HX.out x (List.mem_of_getElem? hbx)
      have HBX := Lib.hid hbx
      clear hbx
      unfold nv at hcell
      obtain ⟨hsu, hge⟩ := HS.out
      have HGE := Lib.hid hge
      clear hge
      by_cases hover : k = 9 ∧ 1 < x
      · obtain ⟨rfl, hx1⟩ := hover
        have htk := Wire.take_over HBX.out hx1 HGE.out HX.out
        have HTK := Lib.hid htk
        clear htk hsu HS
        go_wp2
        go_ret2
        exact ⟨by rw [HTK.out]; rfl, rfl⟩
      · have hx1 : k = 9 → x ≤ 1 := fun h => by omega
        have hv : valL (xs.take (k + 1)) < 18446744073709551616 := by
          have hl := (List.getElem?_eq_some_iff.1 HBX.out).1
          rcases Nat.lt_or_ge k 9 with h | h
          · have hsn := Wire.valL_lt (xs.take (k + 1))
            rw [show (xs.take (k + 1)).length = k + 1 from by simp; omega] at hsn
            exact Nat.lt_of_lt_of_le hsn (Nat.le_trans (Nat.pow_le_pow_right (by decide) (show k + 1 ≤ 9 from h)) (by decide))
          · obtain rfl : k = 9 := by omega
            have h1 := hx1 rfl
            rw [valL_step HBX.out]
            have h2 := Wire.valL_lt (xs.take 9)
            rw [show (xs.take 9).length = 9 from by simp; omega] at h2
            have e : (128 : Nat) ^ 9 = 9223372036854775808 := by decide
            rw [e] at h2 ⊢
            have : 9223372036854775808 * (x % 128) ≤ 9223372036854775808 * 1 := Nat.mul_le_mul_left _ (by omega)
            omega
        have hor := or_step HBX.out hx256 hv
        rw [← hsu] at hor
        generalize hgu : valL (xs.take (k + 1)) = u' at hor hv
        have h99 : k < 9 ∨ (k = 9 ∧ x ≤ 1) := by omega
        have H99 := Lib.hid h99
        clear hsu HS h99
        by_cases h9 : k = 9
        · have t9 : ((k : Int) == 9) = true := by simp; omega
          have hx2 : x ≤ 1 := hx1 h9
          have h9' : 9 ≤ k := by omega
          clear hx1 hover h9
          by_cases hx0 : x = 0
          · have htk := Wire.take_zero (hx0 ▸ HBX.out) (by omega) HGE.out HX.out
            subst hx0
            have HTK := Lib.hid htk
            clear htk
            go_wp2
            go_ret2
            exact ⟨by rw [HTK.out]; rfl, rfl⟩
          · have hok := (Wire.take_ok HBX.out (by omega) HGE.out HX.out (by omega) H99.out).1
            rw [hgu] at hok
            have HOK := Lib.hid hok
            have tx : ((x : Int) == 0) = false := by simp; exact hx0
            clear hok hx0 hgu
            go_wp2
            go_ret2
            exact ⟨by rw [HOK.out]; simp, rfl⟩
        · have t9 : ((k : Int) == 9) = false := by simp; omega
          clear hx1 hover h9
          by_cases h128 : x < 128
          · by_cases hx0 : x = 0 ∧ 0 < k
            · obtain ⟨rfl, hk0⟩ := hx0
              have htk := Wire.take_zero HBX.out hk0 HGE.out HX.out
              have HTK := Lib.hid htk
              clear htk
              go_wp2
              go_ret2
              exact ⟨by rw [HTK.out]; rfl, rfl⟩
            · have hok := (Wire.take_ok HBX.out h128 HGE.out HX.out (by omega) H99.out).1
              rw [hgu] at hok
              have HOK := Lib.hid hok
              clear hok hgu
              by_cases hx00 : x = 0
              · have tx : ((x : Int) == 0) = true := by simp; exact hx00
                have tk1 : (k : Int) ≤ 0 := by omega
                clear hx0 hx00
                go_wp2
                go_ret2
                exact ⟨by rw [HOK.out]; simp, rfl⟩
              · have tx : ((x : Int) == 0) = false := by simp; exact hx00
                clear hx0 hx00
                go_wp2
                go_ret2
                exact ⟨by rw [HOK.out]; simp, rfl⟩
          · have hge2 : ∀ j y, j < k + 1 → xs[j]? = some y → 128 ≤ y := by
              intro j y hj hy
              rcases Nat.lt_or_ge j k with h | h
              · exact HGE.out j y h hy
              · obtain rfl : j = k := by omega
                have e := HBX.out.symm.trans hy
                simp at e; omega
            have hk8 : k < 9 := by
              rcases H99.out with h | h
              · exact h
              · omega
            have HS2 := Lib.hid (show u' = valL (xs.take (k + 1)) ∧ ∀ j y, j < k + 1 → xs[j]? = some y → 128 ≤ y from ⟨hgu.symm, hge2⟩)
            clear hge2 hgu
            go_wp2
            go_round
            case rel => exact ⟨k + 1, u', by omega, by omega, rfl, by go_num, HS2⟩
            case measure => simp [intOf]; omega
    · have hkn' : n ≤ k := by omega
      have htk := Wire.take_none (b := xs) (fun j y hj hy => HS.out.2 j y (by have := (List.getElem?_eq_some_iff.1 hy).1; have := HN.out; omega) hy)
      have HTK := Lib.hid htk
      clear htk
      go_wp2
      go_ret2
      exact ⟨by rw [HTK.out]; rfl, rfl⟩
end Go.Proofs.Ytepafmoohlognaa
