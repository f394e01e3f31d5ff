/-
The program's Sum, by a contract.
-/
import Derived.Test.YtjlplmobeiolkaaDoorHRef
namespace Go.Proofs.YtjlplmobeiolkaaDoor
open Go.RowKit
open Crc (st stN by8 run sumN tab nib)

/-- The program's table. -/
def Tab (w : World) : Prop := ∀ r, r < 16 → w.cell? ⟨0, r, none⟩ = some (.int .u32 ((tab[r]?.getD 0 : Nat) : Int))
/-- The slice value v reads as these parts. -/
def RdP (w : World) (v : Value) (pss : List (List Nat)) : Prop :=
  (∃ p c, v = .slice p 0 c ∧ pss = []) ∨ ∃ b off cap, v = .slice (some ⟨b, off, none⟩) pss.length cap ∧ pss.length ≤ cap ∧ cap ≤ maxLen ∧ b < w.heap.size ∧ ∀ j ps, pss[j]? = some ps → ∃ u, w.cell? ⟨b, off + j, none⟩ = some u ∧ Rd w u ps

theorem Rd.form {w : World} {v : Value} {xs : List Nat} (h : Rd w v xs) :
    ∃ A c, v = .slice A xs.length c ∧ xs.length ≤ c + xs.length ∧ ∀ j x, xs[j]? = some x → ∃ b off, A = some ⟨b, off, none⟩ ∧ w.cell? ⟨b, off + j, none⟩ = some (nv x) := by
  rcases h with ⟨p, c, rfl, rfl, _⟩ | ⟨b, off, cap, rfl, hcap, hm, hb, hc⟩
  · exact ⟨p, c, rfl, by omega, fun j x hj => by simp at hj⟩
  · exact ⟨_, cap, rfl, by omega, fun j x hj => ⟨b, off, rfl, hc j x hj⟩⟩
theorem RdP.form {w : World} {v : Value} {pss : List (List Nat)} (h : RdP w v pss) :
    ∃ A c, v = .slice A pss.length c ∧ ∀ j ps, pss[j]? = some ps → ∃ b off u, A = some ⟨b, off, none⟩ ∧ w.cell? ⟨b, off + j, none⟩ = some u ∧ Rd w u ps := by
  rcases h with ⟨p, c, rfl, rfl⟩ | ⟨b, off, cap, rfl, hcap, hm, hb, hc⟩
  · exact ⟨p, c, rfl, fun j x hj => by simp at hj⟩
  · exact ⟨_, cap, rfl, fun j x hj => by obtain ⟨u, hu, hr⟩ := hc j x hj; exact ⟨b, off, u, rfl, hu, hr⟩⟩

theorem nib_facts {y : Nat} (h : y < 4294967296) : bits .and .u32 (y : Int) 15 = ((y % 16 : Nat) : Int) ∧ bits .xor .u32 ((y : Int) / 16) ((tab[y % 16]?.getD 0 : Nat) : Int) = ((nib y : Nat) : Int) ∧ nib y < 4294967296 := by
  refine ⟨?_, ?_, Crc.nib_lt h⟩
  · rw [show (15 : Int) = ((15 : Nat) : Int) from rfl, u32_and_nat y 15 (by omega) (by omega)]
    exact congrArg _ (nat_mask4 y)
  · exact u32_xor_nat (y / 16) _ (by omega) (Crc.tab_lt y)

set_option maxRecDepth 20000 in
set_option maxHeartbeats 1000000 in
theorem sum_form (pss : List (List Nat)) (n cap : Nat) (A : Option Addr) (hn : n = pss.length) (hl : n ≤ 100000) (hs : ∀ ps ∈ pss, ps.length ≤ 100000 ∧ ∀ x ∈ ps, x < 256) (w : World) (ht : Tab w)
    (hc : ∀ j ps, pss[j]? = some ps → ∃ b off u, A = some ⟨b, off, none⟩ ∧ w.cell? ⟨b, off + j, none⟩ = some u ∧ Rd w u ps) :
    Calls Tryd.prog 6 #[.slice A n cap] w fun e w' => e = .returned (.int .u32 (sumN pss.flatten : Nat)) ∧ w = w' := by
  have HN := Lib.hid hn; clear hn
  have HC := Lib.hid hc; clear hc
  have HS := Lib.hid hs; clear hs
  have HT := Lib.hid ht; clear ht
  go_enter Tryd.func6, Tryd.ntmps6
  go_wp2
  go_loop [3, 5, 7, 10] (fun s _ _ i => ∃ (k c : Nat), k ≤ n ∧ c < 4294967296 ∧ s = .int .u32 (c : Int) ∧ i = .int .i64 (k : Int) ∧ Hid (run 4294967295 pss.flatten = run c (pss.drop k).flatten)) (fun _ _ _ i => n - (intOf i).toNat)
  case atStart => exact ⟨0, 4294967295, Nat.zero_le _, by decide, rfl, rfl, Lib.hid (by rw [List.drop_zero])⟩
  case round =>
    obtain ⟨k, c, hk, hc, rfl, rfl, HR⟩ := hrel
    by_cases hkn : k < n
    · obtain ⟨ps, hx⟩ : ∃ x, pss[k]? = some x := ⟨_, List.getElem?_eq_getElem (by rw [← HN.out]; exact hkn)⟩
      obtain ⟨b, off, u, rfl, hcell, hrd⟩ := HC.out k ps hx
      obtain ⟨hpl, hp8⟩ := HS.out ps (List.mem_of_getElem? hx)
      have hd := drop_at hx
      obtain ⟨A2, c2, rfl, _, hc2⟩ := hrd.form
      have hst : run 4294967295 pss.flatten = run c (ps ++ (pss.drop (k + 1)).flatten) := by rw [HR.out, hd]; rfl
      have HR2 := Lib.hid hst
      have HC2 := Lib.hid hc2
      have HP := Lib.hid hp8
      obtain ⟨m, hm⟩ : ∃ m, m = ps.length := ⟨_, rfl⟩
      rw [← hm] at hcell hpl
      have HM := Lib.hid hm
      clear hst hd hx HR hc2 hp8 hm
      go_wp2
      go_loop [3, 16] (fun s i => ∃ (j d : Nat), j ≤ m ∧ d < 4294967296 ∧ s = .int .u32 (d : Int) ∧ i = .int .i64 (j : Int) ∧ Hid (run 4294967295 pss.flatten = run d (ps.drop j ++ (pss.drop (k + 1)).flatten))) (fun _ i => m - (intOf i).toNat)
      case atStart => exact ⟨0, c, Nat.zero_le _, hc, rfl, rfl, Lib.hid (by rw [List.drop_zero]; exact HR2.out)⟩
      case round =>
        obtain ⟨j, d, hj, hd, rfl, rfl, HD⟩ := hrel
        by_cases hjm : j < m
        · obtain ⟨x, hx⟩ : ∃ x, ps[j]? = some x := ⟨_, List.getElem?_eq_getElem (by rw [← HM.out]; exact hjm)⟩
          obtain ⟨b2, off2, rfl, hcell2⟩ := HC2.out j x hx
          have hx256 := HP.out x (List.mem_of_getElem? hx)
          have hdr := drop_at hx
          have hst : run 4294967295 pss.flatten = run (nib (nib (d ^^^ x))) (ps.drop (j + 1) ++ (pss.drop (k + 1)).flatten) := by rw [HD.out, hdr, List.cons_append, Crc.run_cons, Crc.by8_nib]
          have HR3 := Lib.hid hst
          have hxor : bits .xor .u32 (d : Int) (x : Int) = ((d ^^^ x : Nat) : Int) := u32_xor_nat d x (by omega) (by omega)
          have hlt : d ^^^ x < 4294967296 := Crc.xor_lt hd (by omega)
          clear hst hx hdr HD hcell
          unfold nv at hcell2
          generalize d ^^^ x = y at hxor hlt HR3
          obtain ⟨hand, hnib, hlt2⟩ := nib_facts hlt
          have htab := HT.out (y % 16) (Nat.mod_lt _ (by decide))
          generalize nib y = z at hnib hlt2 HR3
          obtain ⟨hand2, hnib2, hlt3⟩ := nib_facts hlt2
          have htab2 := HT.out (z % 16) (Nat.mod_lt _ (by decide))
          generalize nib z = t at hnib2 hlt3 HR3
          go_wp2
          go_round
          case rel => exact ⟨j + 1, t, by omega, hlt3, rfl, by go_num, HR3.out⟩
          case measure => simp [intOf]; omega
        · have hmj : m ≤ j := by omega
          have hfin : run 4294967295 pss.flatten = run d (pss.drop (k + 1)).flatten := by rw [HD.out, List.drop_of_length_le (by rw [← HM.out]; exact hmj)]; rfl
          have HF := Lib.hid hfin
          clear hfin
          go_wp2
          go_round
          case rel => exact ⟨k + 1, d, by omega, hd, rfl, by go_num, HF.out⟩
          case measure => simp [intOf]; omega
    · have hnk : n ≤ k := by omega
      have hxor : bits .xor .u32 IntKind.u32.max (c : Int) = ((c ^^^ 4294967295 : Nat) : Int) := by
        rw [Nat.xor_comm]
        exact u32_xor_nat 4294967295 c (by omega) (by omega)
      have hfin : c ^^^ 4294967295 = sumN pss.flatten := by
        unfold sumN
        rw [HR.out, List.drop_of_length_le (by rw [← HN.out]; exact hnk)]; rfl
      have HF := Lib.hid hfin
      clear hfin
      go_wp2
      go_ret
      exact ⟨by rw [HF.out]; rfl, rfl⟩

/-- check.Sum. -/
theorem sum_any (v : Value) (pss : List (List Nat)) (w : World) (ht : Tab w) (h : RdP w v pss) (hl : pss.length ≤ 100000) (hs : ∀ ps ∈ pss, ps.length ≤ 100000 ∧ ∀ x ∈ ps, x < 256) :
    Calls Tryd.prog 6 #[v] w fun e w' => e = .returned (.int .u32 (sumN pss.flatten : Nat)) ∧ w = w' := by
  obtain ⟨A, c, rfl, hc⟩ := h.form
  exact sum_form pss _ c A rfl hl hs w ht hc
end Go.Proofs.YtjlplmobeiolkaaDoor
