/-
tail, slices.Grow of nil, slices.Concat, Seal: by contracts.
-/
import Derived.Test.YtjlplmobeiolkaaDoorHLawA
import Derived.Lib.AppendZeros
namespace Go.Proofs.YtjlplmobeiolkaaDoor
open Go.RowKit
open Crc (st stN by8 run sumN tab nib tailN sealN)

/-- Four bytes of a number. -/
theorem tail_cells (s : Nat) (h : s < 4294967296) : [Value.int .u8 ((s : Int) / 16777216), .int .u8 ((s : Int) / 65536 % 256), .int .u8 ((s : Int) / 256 % 256), .int .u8 ((s : Int) % 256)] = (tailN s).map nv := by
  simp [tailN, nv]

set_option maxRecDepth 20000 in
set_option maxHeartbeats 1000000 in
theorem tail_any (v : Value) (xs : List Nat) (w : World) (h : Rd w v xs) (hl : xs.length ≤ 100000) (hx : ∀ x ∈ xs, x < 256) (ht : Tab w) :
    Calls Tryd.prog 13 #[v] w fun e w' => ∃ v', e = .returned v' ∧ Rd w' v' (tailN (sumN xs)) ∧ Below w.heap.size w w' := by
  obtain ⟨A, n, c, rfl, hn⟩ := h.named
  have HR := Lib.hid h; clear h
  have HT := Lib.hid ht; clear ht
  have hs : sumN xs < 4294967296 := Crc.sumN_lt hx
  have h1 := fun v w3 (h1 : Tab w3) h2 => sum_any v [xs] w3 h1 h2 (by simp) (fun ps hp => by simp only [List.mem_singleton] at hp; subst hp; exact ⟨hl, hx⟩)
  rw [show [xs].flatten = xs from by simp] at h1
  generalize sumN xs = s at hs h1
  have HC := Lib.hid h1
  have hn1 : n ≤ 100000 := by omega
  clear h1 hx hn hl
  go_enter Tryd.func13, Tryd.ntmps13
  go_wp2_with (go_at_call 6; (with_reducible refine (HC.out _ _ (HT.out.below (below_alloc _ _)) (rdP_one rfl HR.out)).mono ?_); rintro e w1 ⟨rfl, rfl⟩)
  go_ret
  exact ⟨_, rfl, rd_row _ _ rfl (by decide) (heap_new (by simp)) (tail_cells s hs), below2 _ _ _⟩

theorem grow_zero (w : World) : Calls Tryd.prog 16 #[.slice none 0 0, .int .i64 0] w fun e w' => ∃ v', e = .returned v' ∧ Own w.heap.size w' v' [] ∧ Below w.heap.size w w' := by
  go_enter Tryd.func16, Tryd.ntmps16
  go_wp2
  go_ret
  exact ⟨_, rfl, Own.nil _ _, Below.refl _ _⟩

set_option maxRecDepth 20000 in
set_option maxHeartbeats 1000000 in
theorem grow_pos (n : Nat) (h0 : 0 < n) (hn : n ≤ 1000000) (w : World) : Calls Tryd.prog 16 #[.slice none 0 0, .int .i64 (n : Int)] w fun e w' => ∃ v', e = .returned v' ∧ Own w.heap.size w' v' [] ∧ Below w.heap.size w w' := by
  obtain ⟨i0, hi, hz0, hz1, hz2⟩ := info_parts info_u8
  have hrz := fun ty => Lib.run_append_nil_zeros (P := Tryd.prog) w 23 3 ty 5 i0 (.int .u8 0) .i64 .i64 Tryd.underlying23 Tryd.underlying3 hi hz0 n h0 (by omega) (by omega) (by rw [hz2]; omega)
  have hGn : n ≤ grownCap w n 0 5 := grownCap_ge w _ _ _
  have hGm := grownCap_le_maxLen w n 0 5 (by unfold maxLen; omega)
  generalize grownCap w n 0 5 = G at hrz hGn hGm
  have hsz : (Builtin.zeroCells (Value.int .u8 0).cells n ++ Builtin.zeroCells (Value.int .u8 0).cells (G - n)).size = G * 1 := by
    rw [Array.size_append]
    have hzc : ∀ k, (Builtin.zeroCells (Value.int .u8 0).cells k).size = k := fun k => by simp [Builtin.zeroCells]; show k * 1 = k; omega
    rw [hzc, hzc]; omega
  generalize Builtin.zeroCells (Value.int .u8 0).cells n ++ Builtin.zeroCells (Value.int .u8 0).cells (G - n) = cur at hrz hsz
  have HG : G ≤ 9223372036854775807 := by unfold maxLen at hGm; omega
  have HZ := Lib.hid hrz
  have HS := Lib.hid hsz
  have HM := Lib.hid hGm
  clear hrz hsz hi hz0 hz1 hz2 hGm
  go_enter Tryd.func16, Tryd.ntmps16
  go_wp2_with (at_builtin; go_loud (refine Lib.wpList_append_run _ rfl _ _ _ _ rfl _ _ rfl rfl _ _ (HZ.out _) ?_))
  go_ret
  exact ⟨_, rfl, World.ownsRow.drew (World.ownsRow_made w cur G (Nat.le_refl _) HM.out HS.out), (below_alloc _ _).drew⟩

theorem grow_any (n : Nat) (hn : n ≤ 1000000) (w : World) : Calls Tryd.prog 16 #[.slice none 0 0, .int .i64 (n : Int)] w fun e w' => ∃ v', e = .returned v' ∧ Own w.heap.size w' v' [] ∧ Below w.heap.size w w' := by
  rcases Nat.eq_zero_or_pos n with rfl | h0
  · exact grow_zero w
  · exact grow_pos n h0 hn w

theorem len_take_le (pss : List (List Nat)) (k : Nat) : (pss.take k).flatten.length ≤ pss.flatten.length := by
  have h : pss.flatten = (pss.take k).flatten ++ (pss.drop k).flatten := by rw [← List.flatten_append, List.take_append_drop]
  rw [h, List.length_append]; omega
theorem take_snoc {pss : List (List Nat)} {k : Nat} {ps : List Nat} (h : pss[k]? = some ps) : (pss.take (k + 1)).flatten = (pss.take k).flatten ++ ps := by
  rw [List.take_add_one, h]; simp

set_option maxRecDepth 20000 in
set_option maxHeartbeats 1000000 in
theorem concat_form (pss : List (List Nat)) (n cap : Nat) (A : Option Addr) (hn : n = pss.length) (hl : n ≤ 100000) (hs : pss.flatten.length ≤ 1000000) (w : World)
    (hc : ∀ j ps, pss[j]? = some ps → ∃ b off u, A = some ⟨b, off, none⟩ ∧ b < w.heap.size ∧ w.cell? ⟨b, off + j, none⟩ = some u ∧ Rd w u ps) :
    Calls Tryd.prog 12 #[.slice A n cap] w fun e w' => ∃ v', e = .returned v' ∧ Own w.heap.size w' v' pss.flatten ∧ Below w.heap.size w w' := by
  have HN := Lib.hid hn; clear hn
  have HC := Lib.hid hc; clear hc
  have HS := Lib.hid hs; clear hs
  go_enter Tryd.func12, Tryd.ntmps12
  go_wp2
  go_loop [3, 11] (fun s i => ∃ (k t : Nat), k ≤ n ∧ s = .int .i64 (t : Int) ∧ i = .int .i64 (k : Int) ∧ t ≤ 1000000 ∧ Hid (t = (pss.take k).flatten.length)) (fun _ i => n - (intOf i).toNat)
  case atStart => exact ⟨0, 0, Nat.zero_le _, rfl, rfl, by omega, Lib.hid (by simp)⟩
  case round =>
    obtain ⟨k, t, hk, rfl, rfl, ht, HT⟩ := hrel
    by_cases hkn : k < n
    · obtain ⟨ps, hx⟩ : ∃ x, pss[k]? = some x := ⟨_, List.getElem?_eq_getElem (by rw [← HN.out]; exact hkn)⟩
      obtain ⟨b, off, u, rfl, hb, hcell, hrd⟩ := HC.out k ps hx
      obtain ⟨A2, m, c2, rfl, hm⟩ := hrd.named
      have hsn : t + m = (pss.take (k + 1)).flatten.length := by rw [take_snoc hx, List.length_append, ← HT.out, hm]
      have htm : t + m ≤ 1000000 := by rw [hsn]; exact Nat.le_trans (len_take_le _ _) HS.out
      have HT2 := Lib.hid hsn
      clear hx hrd hm hsn hb
      go_wp2
      go_round
      case rel => exact ⟨k + 1, t + m, by omega, by go_num, by go_num, htm, HT2⟩
      case measure => simp [intOf]; omega
    · have hnk : n ≤ k := by omega
      have hgr := grow_any t ht w
      have HG := Lib.hid hgr
      clear hgr
      go_wp2_with (go_at_call 16; (with_reducible refine (HG.out).mono ?_); rintro e w1 ⟨v1, rfl, hown1, hbel1⟩)
      go_loopw [6, 27] (fun a i wr => ∃ (j : Nat), j ≤ n ∧ i = .int .i64 (j : Int) ∧ Own w.heap.size wr a (pss.take j).flatten ∧ Below w.heap.size w wr) (fun _ i _ => n - (intOf i).toNat)
      case atStart => exact ⟨0, Nat.zero_le _, rfl, by simpa using hown1, hbel1⟩
      case round =>
        obtain ⟨j, hj, rfl, hown, hbel⟩ := hrel
        by_cases hjn : j < n
        · obtain ⟨ps, hx⟩ : ∃ x, pss[j]? = some x := ⟨_, List.getElem?_eq_getElem (by rw [← HN.out]; exact hjn)⟩
          obtain ⟨b, off, u, rfl, hb, hcell0, hrd⟩ := HC.out j ps hx
          have hcell : wr.cell? ⟨b, off + j, none⟩ = some u := by rw [bcell hbel _ _ hb]; exact hcell0
          have hlen : (pss.take j).flatten.length + ps.length ≤ 1000000 := by
            have h1 := take_snoc hx
            have h2 := len_take_le pss (j + 1)
            rw [h1, List.length_append] at h2
            exact Nat.le_trans h2 HS.out
          have hsn := take_snoc hx
          have HT2 := Lib.hid hsn
          have HR := Lib.hid (hrd.below hbel)
          have HL := Lib.hid hlen
          clear hx hrd hsn hb hcell0 hlen
          go_wp2_with (at_builtin; refine wp_appR rfl _ _ rfl _ _ _ rfl hown _ ps rfl HR.out HL.out hbel.size ?_; intro v2 w2 hown2 hbel2 hsz2)
          rw [← HT2.out] at hown2
          go_roundw
          case rel => exact ⟨j + 1, by omega, by go_num, hown2, hbel.trans hbel2⟩
          case measure => simp [intOf]; omega
        · have hnj : n ≤ j := by omega
          have hall : pss.take j = pss := List.take_of_length_le (by rw [← HN.out]; exact hnj)
          rw [hall] at hown
          clear hall
          go_wp2
          go_ret
          exact ⟨_, rfl, hown, hbel⟩

theorem concat_any (v : Value) (pss : List (List Nat)) (w : World) (h : RdP w v pss) (hl : pss.length ≤ 100000) (hs : pss.flatten.length ≤ 1000000) :
    Calls Tryd.prog 12 #[v] w fun e w' => ∃ v', e = .returned v' ∧ Own w.heap.size w' v' pss.flatten ∧ Below w.heap.size w w' := by
  obtain ⟨A, n, c, rfl, hn, hc⟩ := h.form2
  exact concat_form pss n c A hn (by omega) hs w hc

set_option maxRecDepth 20000 in
set_option maxHeartbeats 1000000 in
/-- check.Seal. -/
theorem seal_any (v : Value) (xs : List Nat) (w : World) (h : Rd w v xs) (hl : xs.length ≤ 10000) (hx : ∀ x ∈ xs, x < 256) (ht : Tab w) :
    Calls Tryd.prog 8 #[v] w fun e w' => ∃ v', e = .returned v' ∧ Rd w' v' (sealN xs) ∧ Below w.heap.size w w' := by
  obtain ⟨A, n, c, rfl, hn⟩ := h.named
  have ht1 := tail_any _ xs w h (by omega) hx ht
  have hse : [xs, tailN (sumN xs)].flatten = sealN xs := by simp [sealN]
  have HR := Lib.hid h; clear h
  have HT := Lib.hid ht1; clear ht1
  have HE := Lib.hid hse; clear hse
  have htl : (tailN (sumN xs)).length = 4 := rfl
  have hfl : [xs, tailN (sumN xs)].flatten.length ≤ 1000000 := by rw [HE.out]; simp [sealN, htl]; omega
  have HF := Lib.hid hfl
  clear hn hx htl hfl ht
  go_enter Tryd.func8, Tryd.ntmps8
  go_wp2_with (first
    | (go_at_call 13; (with_reducible refine (HT.out).mono ?_); rintro e w1 ⟨v1, rfl, hr1, hb1⟩; (obtain ⟨A1, n1, c1, rfl, hn1⟩ := hr1.named); have HR1 := Lib.hid hr1; clear hr1 hn1)
    | (go_at_call 12; (with_reducible refine (concat_any _ [xs, tailN (sumN xs)] _ (rdP_two rfl (HR.out.below hb1) HR1.out) (by simp) HF.out).mono ?_); rintro e w2 ⟨v2, rfl, hown2, hb2⟩; rw [HE.out] at hown2; have HO := Lib.hid hown2; clear hown2))
  go_ret
  exact ⟨_, rfl, HO.out.rd, (hb1.trans ((below_alloc _ _).mono hb1.size)).trans (hb2.mono (by simp; exact Nat.le_succ_of_le hb1.size))⟩
end Go.Proofs.YtjlplmobeiolkaaDoor
