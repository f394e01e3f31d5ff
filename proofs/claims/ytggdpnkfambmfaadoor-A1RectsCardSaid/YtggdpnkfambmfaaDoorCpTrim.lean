/-
The library's TrimLeft and IndexByte at the letters A to Z, by contracts.
-/
import Derived.Test.YtggdpnkfambmfaaDoorCeOk
import Derived.Test.YtggdpnkfambmfaaDoorNumI
import Derived.Lib.Strings
import Derived.Lib.AsciiSet
import Derived.Deep.WholeRow
import Derived.Lib.Builder
namespace Go.Proofs.YtggdpnkfambmfaaDoor
open Go.RowKit

def azL : List UInt8 := [65, 66, 67, 68, 69, 70, 71, 72, 73, 74, 75, 76, 77, 78, 79, 80, 81, 82, 83, 84, 85, 86, 87, 88, 89, 90]
theorem az_bytes : (⟨#[65, 66, 67, 68, 69, 70, 71, 72, 73, 74, 75, 76, 77, 78, 79, 80, 81, 82, 83, 84, 85, 86, 87, 88, 89, 90]⟩ : ByteArray) = ⟨azL.toArray⟩ := rfl
theorem az_all : ∀ n : Fin 256, azL.contains (UInt8.ofNat n.val) = isUp (UInt8.ofNat n.val) ∧ Lib.indexByte azL (UInt8.ofNat n.val) = if isUp (UInt8.ofNat n.val) = true then (n.val : Int) - 65 else -1 := by decide +kernel
theorem az_up (x : UInt8) : azL.contains x = isUp x := by
  have h := (az_all ⟨x.toNat, x.toNat_lt⟩).1
  simpa using h
theorem az_index (x : UInt8) : Lib.indexByte azL x = if isUp x = true then (x.toNat : Int) - 65 else -1 := by
  have h := (az_all ⟨x.toNat, x.toNat_lt⟩).2
  simpa using h

/-- The place of a byte among the letters. -/
def placeB (x : UInt8) : Int := if isUp x = true then (x.toNat : Int) - 65 else -1
theorem place_bounds (x : UInt8) : -1 ≤ placeB x ∧ placeB x ≤ 25 := by
  unfold placeB
  split
  · rename_i h
    unfold isUp at h
    have := of_decide_eq_true h
    omega
  · omega
theorem index_az (x : UInt8) (w : World) : Calls Tryd.prog 22 #[.string ⟨#[65, 66, 67, 68, 69, 70, 71, 72, 73, 74, 75, 76, 77, 78, 79, 80, 81, 82, 83, 84, 85, 86, 87, 88, 89, 90]⟩, .int .u8 (x.toNat : Int)] w fun e w' => e = .returned (.int .i64 (placeB x)) ∧ w' = w := by
  refine (Tryd.strings_IndexByte _ _ w).mono ?_
  rintro e w' ⟨rfl, rfl⟩
  refine ⟨?_, rfl⟩
  rw [az_bytes]
  show Ending.returned (Value.int .i64 (Lib.indexByte azL _)) = _
  rw [show ((x.toNat : Int).toNat.toUInt8) = x from by simp, az_index]
  rfl

theorem info_set : (Tryd.prog.info? 51).map (fun i => (i.zero, i.size)) = some (some (.agg (Array.replicate 256 (.bool false))), 256) := by kernel_rfl

set_option maxHeartbeats 2000000 in
set_option maxRecDepth 1000000 in
/-- trimLeftASCII over a set of the letters. -/
theorem trim_set (s : ByteArray) (b : Nat) (w : World) (hc : ∀ x : UInt8, w.cell? ⟨b, x.toNat, none⟩ = some (.bool (isUp x))) :
    Calls Tryd.prog 30 #[.string s, .pointer (some ⟨b, 0, none⟩)] w fun e w' => e = .returned (.string ⟨(s.data.toList.dropWhile isUp).toArray⟩) ∧ w' = w := by
  have HC := Lib.hid hc
  clear hc
  go_enter Tryd.func30, Tryd.ntmps30
  go_wp2
  go_loop [0] (fun v => ∃ k : Nat, k ≤ s.size ∧ v = .string ⟨(s.data.toList.drop k).toArray⟩ ∧ (s.data.toList.drop k).dropWhile isUp = s.data.toList.dropWhile isUp) (fun v => Lib.strSize v)
  case atStart => exact ⟨0, Nat.zero_le _, by simp, rfl⟩
  case round =>
    obtain ⟨k, hk, rfl, hd⟩ := hrel
    have hts : (⟨(s.data.toList.drop k).toArray⟩ : ByteArray).size = s.size - k := by rw [Lib.size_mk, List.length_drop, ← Lib.size_eq]
    have hb0 : ∀ h, (s.data.toList.drop k)[0]? = some ((⟨(s.data.toList.drop k).toArray⟩ : ByteArray)[0]'h) := by
      intro h
      rw [← Lib.getElem_mk (s.data.toList.drop k) 0 h]
    have hx1 : (⟨(s.data.toList.drop k).toArray⟩ : ByteArray).extract 1 (s.size - k) = ⟨(s.data.toList.drop (k + 1)).toArray⟩ := by
      rw [Lib.extract_mk, List.drop_drop, List.take_of_length_le (by simp; omega)]
    have HD := Lib.hid hd
    clear hd
    generalize ht : (⟨(s.data.toList.drop k).toArray⟩ : ByteArray) = t at hts hb0 hx1 ⊢
    have HT := Lib.hid ht
    clear ht
    by_cases h0 : 0 < t.size
    · have hbk := hb0 h0
      clear hb0
      obtain ⟨x, hx⟩ : ∃ x : UInt8, t[0]'h0 = x := ⟨_, rfl⟩
      rw [hx] at hbk
      have HX := Lib.hid hbk
      clear hbk
      have hcx := HC.out x
      have hdrop : s.data.toList.drop k = x :: s.data.toList.drop (k + 1) := by
        have h := HX.out
        rw [List.getElem?_drop] at h
        exact drop_at h
      have HDR := Lib.hid hdrop
      clear hdrop
      cases hu : isUp x with
      | true =>
        rw [hu] at hcx
        go_wp2_with fail
        go_at_call 35
        refine (Tryd.asciiSet_contains _ x _ _ hcx).mono ?_
        rintro e w' ⟨rfl, hw⟩
        rw [hw]
        go_wp2_with fail
        refine ⟨⟨k + 1, by omega, rfl, ?_⟩, ?_⟩
        · rw [← HD.out, HDR.out, List.dropWhile_cons, if_pos hu]
        · rw [Lib.strSize_string, Lib.strSize_string, Lib.size_mk, List.length_drop, ← Lib.size_eq]
          omega
      | false =>
        rw [hu] at hcx
        go_wp2_with fail
        go_at_call 35
        refine (Tryd.asciiSet_contains _ x _ _ hcx).mono ?_
        rintro e w' ⟨rfl, hw⟩
        rw [hw]
        go_wp2_with fail
        go_ret
        refine ⟨?_, rfl⟩
        show Ending.returned (Value.string t) = _
        rw [← HD.out, HDR.out, List.dropWhile_cons, if_neg (by rw [hu]; simp), ← HDR.out, HT.out]
    · clear hb0
      go_wp2
      go_ret
      refine ⟨?_, rfl⟩
      show Ending.returned (Value.string t) = _
      rw [← HD.out, List.drop_of_length_le (by rw [← Lib.size_eq]; omega), ← HT.out, List.drop_of_length_le (by rw [← Lib.size_eq]; omega)]
      rfl

set_option maxRecDepth 1000000 in
set_option maxHeartbeats 8000000 in
/-- TrimLeft at the letters. -/
theorem trim_az (s : ByteArray) (w : World) :
    Calls Tryd.prog 23 #[.string s, .string ⟨#[65, 66, 67, 68, 69, 70, 71, 72, 73, 74, 75, 76, 77, 78, 79, 80, 81, 82, 83, 84, 85, 86, 87, 88, 89, 90]⟩] w fun e w' => e = .returned (.string ⟨(s.data.toList.dropWhile isUp).toArray⟩) ∧ Below w.heap.size w w' := by
  have hM := Tryd.strings_makeASCIISet (zero_of_info info_set).1 ⟨azL.toArray⟩ w (by decide) (fun j b hb => by
    have hm : b ∈ azL := List.mem_of_getElem? hb
    have : ∀ b ∈ azL, b.toNat < 128 := by decide
    exact this b hm)
  rw [show (⟨azL.toArray⟩ : ByteArray).data.toList = azL from rfl] at hM
  rw [az_bytes]
  obtain ⟨z, hz⟩ : ∃ z : ByteArray, z = ⟨azL.toArray⟩ := ⟨_, rfl⟩
  have hzs : z.size = 26 := by rw [hz]; rfl
  rw [← hz] at hM ⊢
  have hz0 : z.toList.isEmpty = false := by rw [hz]; decide +kernel
  have hz1 : (z.toList = []) = False := by rw [hz]; exact eq_false (by decide +kernel)
  clear hz
  obtain ⟨S, hS⟩ : ∃ S, Lib.setCells azL = S := ⟨_, rfl⟩
  have hi72 := (zero_of_info info_set).2
  have hz72 := (zero_of_info info_set).1
  have hsc : (storeCells ⟨w.heap.size + 1, 0, none⟩ S.toList 0).run Tryd.prog ((w.alloc (.cells S 51)).alloc (.cells (Array.replicate 256 (.bool false)) 51)) = .ok () ((w.alloc (.cells S 51)).alloc (.cells S 51)) := by
    subst hS
    have := run_storeCells_new (P := Tryd.prog) (w.alloc (.cells (Lib.setCells azL) 51)) 51 (Array.replicate 256 (.bool false)) (Lib.setCells azL) (by rw [Lib.setCells_size]; exact hi72) (by rw [Lib.setCells_size, Array.size_replicate]) (Lib.setCells_one _)
    simpa using this
  have hsz : S.size = 256 := by rw [← hS]; exact Lib.setCells_size _
  have hcellAt : ∀ x : UInt8, ((w.alloc (.cells S 51)).alloc (.cells S 51)).cell? ⟨w.heap.size + 1, x.toNat, none⟩ = some (.bool (isUp x)) := fun x => by
    rw [World.cell?_alloc_at _ _ _ _ (by simp), ← hS, Lib.setCells_at, az_up]
  have hT := trim_set s (w.heap.size + 1) _ hcellAt
  have HT := Lib.hid hT
  rw [hS] at hM
  clear hcellAt hS hT
  by_cases he : s.size = 0
  · have hs0 : s = ⟨#[]⟩ := by
      have hl : s.data.toList = [] := List.eq_nil_of_length_eq_zero (by rw [← Lib.size_eq]; exact he)
      rw [← Lib.mk_data s, hl]
    subst hs0
    clear hM hsc HT
    go_enter Tryd.func23, Tryd.ntmps23
    go_wp2_with fail
    go_ret
    exact ⟨rfl, Below.refl _ _⟩
  · have hn : s.toList ≠ [] := fun h => he (by rw [Lib.size_eq, ← Lib.toList_data, h]; rfl)
    have hs1 : (s.toList = []) = False := eq_false hn
    have hse : s.toList.isEmpty = false := by
      cases hq : s.toList.isEmpty with
      | false => rfl
      | true => exact absurd (List.isEmpty_iff.1 hq) hn
    clear hn
    clear he
    go_enter Tryd.func23, Tryd.ntmps23
    go_wp2_with (first
      | (go_at_call 29; refine hM.mono ?_; rintro e w' ⟨rfl, hw⟩; rw [hw])
      | (go_at_call 30; refine HT.out.mono ?_; rintro e w' ⟨rfl, hw⟩; rw [hw]))
    go_ret
    exact ⟨rfl, ((Below.refl _ w).alloc (Nat.le_refl _) _).alloc (by simp) _⟩
end Go.Proofs.YtggdpnkfambmfaaDoor
