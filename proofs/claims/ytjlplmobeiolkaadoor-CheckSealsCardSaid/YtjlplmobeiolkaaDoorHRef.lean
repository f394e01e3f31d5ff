/-
Slices of bytes that read as lists; the reference's Sum, by a contract.
-/
import Derived.Test.YtjlplmobeiolkaaDoorRows
import Derived.Test.YtjlplmobeiolkaaDoorHMath
import Derived.WalkKit
import Derived.WalkSpells
import Derived.WalkLawsBesides
import Derived.LoopTactic
import Derived.Outline
import Derived.Lib.Hide
import Derived.Laws.BitsAllLaws
namespace Go.Proofs.YtjlplmobeiolkaaDoor
open Go.RowKit
open Crc (st stN by8 run sumN)

def nv (d : Nat) : Value := .int .u8 (d : Int)
/-- The slice value v reads as these bytes. -/
def Rd (w : World) (v : Value) (xs : List Nat) : Prop :=
  (∃ p c, v = .slice p 0 c ∧ xs = [] ∧ (p = none → c = 0)) ∨ ∃ b off cap, v = .slice (some ⟨b, off, none⟩) xs.length cap ∧ xs.length ≤ cap ∧ cap ≤ maxLen ∧ b < w.heap.size ∧ ∀ j x, xs[j]? = some x → w.cell? ⟨b, off + j, none⟩ = some (nv x)

theorem drop_at {α : Type} {xs : List α} {k : Nat} {x : α} (h : xs[k]? = some x) : xs.drop k = x :: xs.drop (k + 1) := by
  obtain ⟨h1, h2⟩ := List.getElem?_eq_some_iff.1 h
  rw [List.drop_eq_getElem_cons h1, h2]
theorem stN_succ : ∀ (n c : Nat), stN (n + 1) c = st (stN n c)
  | 0, _ => rfl
  | n + 1, c => stN_succ n (st c)

theorem ref_none (w : World) (p : Option Addr) (c : Nat) :
    Calls Tryd.prog 7 #[.slice p 0 c] w fun e w' => e = .returned (.int .u32 0) ∧ w = w' := by
  go_enter Tryd.func7, Tryd.ntmps7
  go_wp2
  refine wp_loop_rounds 1 ?_; rw [rounds_succ]
  go_wp2
  go_ret
  exact ⟨rfl, rfl⟩

set_option maxRecDepth 20000 in
set_option maxHeartbeats 1000000 in
theorem ref_some (xs : List Nat) (n b off cap : Nat) (hn : n = xs.length) (hl : n ≤ 100000) (hcap : n ≤ cap) (hx : ∀ x ∈ xs, x < 256) (w : World) (hc : ∀ j x, xs[j]? = some x → w.cell? ⟨b, off + j, none⟩ = some (nv x)) :
    Calls Tryd.prog 7 #[.slice (some ⟨b, off, none⟩) n cap] w fun e w' => e = .returned (.int .u32 (sumN xs : Nat)) ∧ w = w' := by
  have HN := Lib.hid hn; clear hn
  have HC := Lib.hid hc; clear hc
  have HX := Lib.hid hx; clear hx
  go_enter Tryd.func7, Tryd.ntmps7
  go_wp2
  go_loop [3, 4] (fun s i => ∃ (k c : Nat), k ≤ n ∧ c < 4294967296 ∧ s = .int .u32 (c : Int) ∧ i = .int .i64 (k : Int) ∧ Hid (run 4294967295 xs = run c (xs.drop k))) (fun _ i => n - (intOf i).toNat)
  case atStart => exact ⟨0, 4294967295, Nat.zero_le _, by decide, rfl, rfl, by show _ = run 4294967295 (xs.drop 0); rw [List.drop_zero]⟩
  case round =>
    obtain ⟨k, c, hk, hc, rfl, rfl, HS⟩ := hrel
    by_cases hkn : k < n
    · obtain ⟨x, hx⟩ : ∃ x, xs[k]? = some x := ⟨_, List.getElem?_eq_getElem (by rw [← HN.out]; exact hkn)⟩
      have hcell := HC.out k x hx
      have hx256 := HX.out x (List.mem_of_getElem? hx)
      have hd := drop_at hx
      have hst : run 4294967295 xs = run (by8 c x) (xs.drop (k + 1)) := by rw [HS.out, hd]; rfl
      have HT := Lib.hid hst
      have hxor : bits .xor .u32 (c : Int) (x : Int) = ((c ^^^ x : Nat) : Int) := u32_xor_nat c x (by omega) (by omega)
      have hlt : c ^^^ x < 4294967296 := Crc.xor_lt hc (by omega)
      have hby : by8 c x = stN 8 (c ^^^ x) := rfl
      have HB := Lib.hid hby
      clear hst hd hx hby HS
      unfold nv at hcell
      go_wp2
      generalize c ^^^ x = y at hxor hlt HB ⊢
      clear hxor hcell
      go_loop [3, 5] (fun s i => ∃ (j d : Nat), j ≤ 8 ∧ d < 4294967296 ∧ s = .int .u32 (d : Int) ∧ i = .int .i64 (j : Int) ∧ Hid (d = stN j y)) (fun _ i => 8 - (intOf i).toNat)
      case atStart => exact ⟨0, y, by omega, hlt, rfl, rfl, rfl⟩
      case round =>
        obtain ⟨j, d, hj, hd, rfl, rfl, HD⟩ := hrel
        by_cases hj8 : j < 8
        · by_cases hm : d % 2 = 1
          · have hxor : bits .xor .u32 ((d : Int) / 2) 2197175160 = ((d / 2 ^^^ 2197175160 : Nat) : Int) := u32_xor_nat (d / 2) 2197175160 (by omega) (by omega)
            have ht : (((d : Int) % 2) == 1) = true := by simp; omega
            have hst : d / 2 ^^^ 2197175160 = stN (j + 1) y := by rw [stN_succ, ← HD.out]; unfold st; rw [if_pos hm]
            have hlt2 : d / 2 ^^^ 2197175160 < 4294967296 := Crc.xor_lt (by omega) (by omega)
            have HT2 := Lib.hid hst
            clear hst
            go_wp2
            go_round
            case rel => exact ⟨j + 1, _, by omega, hlt2, rfl, by go_num, HT2.out⟩
            case measure => simp [intOf]; omega
          · have ht : (((d : Int) % 2) == 1) = false := by simp; omega
            have hst : d / 2 = stN (j + 1) y := by rw [stN_succ, ← HD.out]; unfold st; rw [if_neg hm]
            have HT2 := Lib.hid hst
            clear hst
            go_wp2
            go_round
            case rel => exact ⟨j + 1, d / 2, by omega, by omega, rfl, by go_num, HT2.out⟩
            case measure => simp [intOf]; omega
        · have hj9 : 8 ≤ j := by omega
          have hdd : d = by8 c x := by rw [HD.out, HB.out, show j = 8 from by omega]
          have HDD := Lib.hid hdd
          clear hdd
          go_wp2
          go_round
          case rel => exact ⟨k + 1, d, by omega, hd, rfl, by go_num, Lib.hid (by rw [HT.out, HDD.out])⟩
          case measure => simp [intOf]; omega
    · obtain rfl : k = n := by omega
      have hxor : bits .xor .u32 (c : Int) 4294967295 = ((c ^^^ 4294967295 : Nat) : Int) := u32_xor_nat c 4294967295 (by omega) (by omega)
      have hfin : c ^^^ 4294967295 = sumN xs := by
        unfold sumN
        rw [HS.out, List.drop_of_length_le (by rw [← HN.out]; exact Nat.le_refl _)]; rfl
      have HF := Lib.hid hfin
      clear hfin
      go_wp2
      go_ret
      exact ⟨by rw [HF.out]; rfl, rfl⟩

/-- ref.Sum. -/
theorem ref_any (v : Value) (xs : List Nat) (w : World) (h : Rd w v xs) (hl : xs.length ≤ 100000) (hx : ∀ x ∈ xs, x < 256) :
    Calls Tryd.prog 7 #[v] w fun e w' => e = .returned (.int .u32 (sumN xs : Nat)) ∧ w = w' := by
  rcases h with ⟨p, c, rfl, rfl, _⟩ | ⟨b, off, cap, rfl, hcap, hm, hb, hc⟩
  · exact ref_none w p c
  · exact ref_some xs _ b off cap rfl hl hcap hx w hc
end Go.Proofs.YtjlplmobeiolkaaDoor
