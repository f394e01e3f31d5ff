/-
The reference of stage 5: Number, by a contract.
-/
import Derived.Test.YtfgopiopeidfmaaDoorSTxtM
import Derived.Test.YtfgopiopeidfmaaDoorDigS

namespace Go.Proofs.YtfgopiopeidfmaaDoor
open Go.RowKit Go.Proofs.YtfgopiopeidfmaaDoor.Dig

def numT : Option Nat → Value
  | some m => .tuple #[.int .i64 (m : Int), .bool true]
  | none => .tuple #[.int .i64 0, .bool false]
set_option maxRecDepth 20000 in
set_option maxHeartbeats 1000000 in
theorem rnumber_form (l : List UInt8) (most : Int) (hl : l.length ≤ 1000) (h0 : -9223372036854775808 ≤ most) (h1 : most ≤ 1125899906842624) (w : World) :
    Calls Tryd.prog 27 #[.string ⟨l.toArray⟩, .int .i64 most] w fun e w' => e = .returned (numT (numV l most)) ∧ Below w.heap.size w w' := by
  obtain ⟨n, hn⟩ : ∃ n, n = l.length := ⟨_, rfl⟩
  have hsz : (⟨l.toArray⟩ : ByteArray).size = n := by rw [hn]; rfl
  rw [← hn] at hl
  have HN := Lib.hid hn
  clear hn
  go_enter Tryd.func27, Tryd.ntmps27
  go_wp2
  go_loop [6, 7] (fun a i => ∃ (k : Nat) (v : Int), k ≤ n ∧ k ≤ 18 ∧ a = .int .i64 v ∧ i = .int .i64 (k : Int) ∧ Hid (v = foldW (l.take k))) (fun _ i => n - (intOf i).toNat)
  case atStart => exact ⟨0, 0, Nat.zero_le _, Nat.zero_le _, rfl, rfl, Lib.hid rfl⟩
  case round =>
    obtain ⟨k, v, hk, hk18, rfl, rfl, HV⟩ := hrel
    by_cases hlt : k < n ∧ k < 18
    · obtain ⟨hkn, hk17⟩ := hlt
      obtain ⟨c, hc⟩ : ∃ c, l[k]? = some c := ⟨_, List.getElem?_eq_getElem (by rw [← HN.out]; exact hkn)⟩
      have hget : ∀ h, (⟨l.toArray⟩ : ByteArray)[k]'h = c := fun h => by
        have h2 := (List.getElem?_eq_some_iff.1 hc).2
        exact h2
      have hs := foldW_snoc hc
      rw [← HV.out] at hs
      have hcw : wrap64 (c.toNat : Int) = (c.toNat : Int) := by have := c.toNat_lt; unfold wrap64; omega
      have HS := Lib.hid hs
      have HG := Lib.hid hget
      have HCW := Lib.hid hcw
      clear hc hs hget hcw
      go_wp2
      go_round
      case rel => exact ⟨k + 1, _, by omega, by omega, rfl, by go_num, by
        rw [HG.out, HCW.out]
        exact Lib.hid HS.out.symm⟩
      case measure => simp [intOf]; omega
    · have hend : k = n ∨ k = 18 := by omega
      by_cases hbig : 18 < n
      · have hk1 : k = 18 := by omega
        have hnone : numV l most = none := numV_none (fun m hm hle => by
          have := dec_len18 (m := m) (by omega)
          rw [hm] at this
          have := HN.out
          omega)
        have HNO := Lib.hid hnone
        clear hlt hend hnone
        go_wp2
        go_ret2
        exact ⟨by rw [HNO.out]; rfl, Below.refl _ _⟩
      · obtain rfl : k = n := by omega
        have htk : l.take k = l := List.take_of_length_le (by rw [← HN.out]; exact Nat.le_refl _)
        rw [htk] at HV
        have hn18 : k ≤ 18 := by omega
        clear hlt hend hbig
        by_cases hv0 : v < 0
        · have hnone : numV l most = none := numV_none (fun m hm hle => by
            have hf := foldW_dec (m := m) (by rw [hm, ← HN.out]; exact hn18)
            rw [hm, ← HV.out] at hf
            omega)
          have HNO := Lib.hid hnone
          clear hnone
          go_wp2
          go_ret2
          exact ⟨by rw [HNO.out]; rfl, Below.refl _ _⟩
        · have hv00 : 0 ≤ v := by omega
          by_cases hvm : most < v
          · have hnone : numV l most = none := numV_none (fun m hm hle => by
              have hf := foldW_dec (m := m) (by rw [hm, ← HN.out]; exact hn18)
              rw [hm, ← HV.out] at hf
              omega)
            have HNO := Lib.hid hnone
            clear hnone hv0
            go_wp2
            go_ret2
            exact ⟨by rw [HNO.out]; rfl, Below.refl _ _⟩
          · have hvm' : v ≤ most := by omega
            have hdig := digits_any v (by omega) (by omega) w
            have hit : Lib.itoa v = Lib.decDigits v.toNat := by unfold Lib.itoa; rw [if_neg hv0]
            rw [hit] at hdig
            have HD := Lib.hid hdig
            clear hdig hit hv0 hvm
            by_cases he : Lib.decDigits v.toNat = l
            · have hsome : numV l most = some v.toNat := numV_iff.2 ⟨he, by omega⟩
              rw [he] at HD
              have HSO := Lib.hid hsome
              clear hsome he
              go_wp2_with (go_at_call 25; (with_reducible refine (HD.out).mono ?_); rintro e w1 ⟨rfl, hb1⟩)
              go_ret2
              exact ⟨by rw [HSO.out]; show _ = Ending.returned (.tuple #[.int .i64 ((v.toNat : Nat) : Int), .bool true]); rw [Int.toNat_of_nonneg hv00]; rfl, hb1⟩
            · have hnone : numV l most = none := numV_none (fun m hm hle => by
                have hf := foldW_dec (m := m) (by rw [hm, ← HN.out]; exact hn18)
                rw [hm, ← HV.out] at hf
                exact he (by rw [hf]; exact hm))
              have HNO := Lib.hid hnone
              have hne : (Lib.decDigits v.toNat == l) = false := by simpa using he
              clear hnone he
              go_wp2_with (go_at_call 25; (with_reducible refine (HD.out).mono ?_); rintro e w1 ⟨rfl, hb1⟩)
              go_ret2
              exact ⟨by rw [HNO.out]; rfl, hb1⟩
end Go.Proofs.YtfgopiopeidfmaaDoor
